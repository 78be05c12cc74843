/-
  Contract of the model's l21Do. Conditions: as each theorem says.
-/
import Derived.Test.YtogafpfgdonlmaaDoorJCliS2
import Derived.Test.YtogafpfgdonlmaaDoorGP
namespace Go.Proofs.YtogafpfgdonlmaaDoor
open Go.ChangeShapes Go.WideShapes Go.ChangeAt Go.RowKit Go.Joins

/-- What must hold of a client that does something, for its numbers to stay small. -/
structure CliSm (c : CliD) : Prop where
  w0 : 1 ≤ c.who
  w1 : c.who ≤ 3
  d0 : 0 ≤ c.done
  d1 : c.done + c.wait.length ≤ 40
  m0 : 0 ≤ c.made
  m1 : c.made ≤ 6
theorem cliSm_of {c : CliD} (h : cliB c = true) : CliSm c := by
  obtain ⟨h1, h2, _, h4, h5, h6, h7⟩ := head_iff.1 (cli_iff.1 h).1
  exact ⟨h1.1, h1.2, h4.1, h5, h6, h7⟩
/-- What l21Do gives: the client itself, or the client with the entry behind what waited, in memory of the call's own. -/
def RetDo (c : CliD) (o : OpD) (ba : Option Addr) (bc : Nat) (wa : Option Addr) (wc : Nat) (w : World) (r : Ending) (w' : World) : Prop :=
  Below w.heap.size w w' ∧ ((doOk c o = false ∧ r = .returned (.tuple #[.agg #[.int .i64 c.who, .int .i64 c.seen, .slice ba c.base.length bc, .slice wa c.wait.length wc, .int .i64 c.done, .int .i64 c.made], .bool false])) ∨
    (doOk c o = true ∧ ∃ g k, r = .returned (.tuple #[.agg #[.int .i64 c.who, .int .i64 c.seen, .slice ba c.base.length bc, .slice (some ⟨g, 0, none⟩) (c.wait.length + 1) k, .int .i64 c.done, .int .i64 (if o.kind = 1 then c.made + 1 else c.made)], .bool true]) ∧ OwnG w.heap.size w' g k (c.wait ++ [cent c o])))
set_option maxRecDepth 100000 in
set_option maxHeartbeats 8000000 in
theorem l21Do_any (c : CliD) (o : OpD) (ba : Option Addr) (bc wb wo wc : Nat) (w : World) (h : CliAt w.heap.size w c ba bc (some ⟨wb, wo, none⟩) wc) (hwb : wb < w.heap.size) (hs : CliSm c) (ho : OpFit o) :
    Calls Tryd.prog 22 #[.agg #[.int .i64 c.who, .int .i64 c.seen, .slice ba c.base.length bc, .slice (some ⟨wb, wo, none⟩) c.wait.length wc, .int .i64 c.done, .int .i64 c.made], .agg #[.int .i64 o.kind, .int .i64 o.id, .int .i64 o.up, .int .i64 o.at_, .string o.txt]] w (RetDo c o ba bc (some ⟨wb, wo, none⟩) wc w) := by
  obtain ⟨i0, hi, hz0, hz1, hz2⟩ := info_parts infoEnt
  have hd1 := hs.d1
  have hd0 := hs.d0
  have hm0 := hs.m0
  have hm1 := hs.m1
  have hw0 := hs.w0
  have hw1 := hs.w1
  have L0 : Below w.heap.size w (((w.alloc (.cells #[.int .i64 c.who, .int .i64 c.seen, .slice ba c.base.length bc, .slice (some ⟨wb, wo, none⟩) c.wait.length wc, .int .i64 c.done, .int .i64 c.made] 33)).alloc (.cells #[.int .i64 o.kind, .int .i64 o.id, .int .i64 o.up, .int .i64 o.at_, .string o.txt] 37)).alloc (.cells #[.int .i64 0, .int .i64 0, .slice none 0 0, .slice none 0 0, .int .i64 0, .int .i64 0] 33)) := (((Below.refl _ _).alloc (Nat.le_refl _) _).alloc (by simp) _).alloc (by simp; omega) _
  have X0 : Bx (((w.alloc (.cells #[.int .i64 c.who, .int .i64 c.seen, .slice ba c.base.length bc, .slice (some ⟨wb, wo, none⟩) c.wait.length wc, .int .i64 c.done, .int .i64 c.made] 33)).alloc (.cells #[.int .i64 o.kind, .int .i64 o.id, .int .i64 o.up, .int .i64 o.at_, .string o.txt] 37)).alloc (.cells #[.int .i64 0, .int .i64 0, .slice none 0 0, .slice none 0 0, .int .i64 0, .int .i64 0] 33)) w.heap.size 33 #[.int .i64 c.who, .int .i64 c.seen, .slice ba c.base.length bc, .slice (some ⟨wb, wo, none⟩) c.wait.length wc, .int .i64 c.done, .int .i64 c.made] := ((Bx.new w _ _).alloc _).alloc _
  have O0 : Bx (((w.alloc (.cells #[.int .i64 c.who, .int .i64 c.seen, .slice ba c.base.length bc, .slice (some ⟨wb, wo, none⟩) c.wait.length wc, .int .i64 c.done, .int .i64 c.made] 33)).alloc (.cells #[.int .i64 o.kind, .int .i64 o.id, .int .i64 o.up, .int .i64 o.at_, .string o.txt] 37)).alloc (.cells #[.int .i64 0, .int .i64 0, .slice none 0 0, .slice none 0 0, .int .i64 0, .int .i64 0] 33)) (w.heap.size + 1) 37 #[.int .i64 o.kind, .int .i64 o.id, .int .i64 o.up, .int .i64 o.at_, .string o.txt] := by
    have q := (Bx.new (w.alloc (.cells #[.int .i64 c.who, .int .i64 c.seen, .slice ba c.base.length bc, .slice (some ⟨wb, wo, none⟩) c.wait.length wc, .int .i64 c.done, .int .i64 c.made] 33)) 37 #[.int .i64 o.kind, .int .i64 o.id, .int .i64 o.up, .int .i64 o.at_, .string o.txt]).alloc (.cells #[.int .i64 0, .int .i64 0, .slice none 0 0, .slice none 0 0, .int .i64 0, .int .i64 0] 33)
    rw [show (w.alloc (.cells #[.int .i64 c.who, .int .i64 c.seen, .slice ba c.base.length bc, .slice (some ⟨wb, wo, none⟩) c.wait.length wc, .int .i64 c.done, .int .i64 c.made] 33)).heap.size = w.heap.size + 1 by simp] at q
    exact q
  have Y0 : Bx (((w.alloc (.cells #[.int .i64 c.who, .int .i64 c.seen, .slice ba c.base.length bc, .slice (some ⟨wb, wo, none⟩) c.wait.length wc, .int .i64 c.done, .int .i64 c.made] 33)).alloc (.cells #[.int .i64 o.kind, .int .i64 o.id, .int .i64 o.up, .int .i64 o.at_, .string o.txt] 37)).alloc (.cells #[.int .i64 0, .int .i64 0, .slice none 0 0, .slice none 0 0, .int .i64 0, .int .i64 0] 33)) (w.heap.size + 2) 33 #[.int .i64 0, .int .i64 0, .slice none 0 0, .slice none 0 0, .int .i64 0, .int .i64 0] := by
    have q := Bx.new ((w.alloc (.cells #[.int .i64 c.who, .int .i64 c.seen, .slice ba c.base.length bc, .slice (some ⟨wb, wo, none⟩) c.wait.length wc, .int .i64 c.done, .int .i64 c.made] 33)).alloc (.cells #[.int .i64 o.kind, .int .i64 o.id, .int .i64 o.up, .int .i64 o.at_, .string o.txt] 37)) 33 #[.int .i64 0, .int .i64 0, .slice none 0 0, .slice none 0 0, .int .i64 0, .int .i64 0]
    rw [show ((w.alloc (.cells #[.int .i64 c.who, .int .i64 c.seen, .slice ba c.base.length bc, .slice (some ⟨wb, wo, none⟩) c.wait.length wc, .int .i64 c.done, .int .i64 c.made] 33)).alloc (.cells #[.int .i64 o.kind, .int .i64 o.id, .int .i64 o.up, .int .i64 o.at_, .string o.txt] 37)).heap.size = w.heap.size + 2 by simp] at q
    exact q
  have HE : Hid (∀ x, Calls Tryd.prog 34 #[.agg #[.int .i64 c.who, .int .i64 (c.done + c.wait.length + 1), .int .i64 o.kind, .int .i64 o.id, .int .i64 o.up, .int .i64 o.at_, .string o.txt]] x (RetBelow (.bool (entB (cent c o))) x)) := fun x => specEntryOk_any (cent c o) x ⟨⟨by show _ ≤ c.who; omega, by show c.who ≤ _; omega⟩, ⟨by show _ ≤ c.done + c.wait.length + 1; omega, by show c.done + c.wait.length + 1 ≤ _; omega⟩, ho⟩
  have HDK : Hid (doOk c o = (entB (cent c o) && (!(o.kind == 1) || (o.id == madeI c.who (c.made + 1))))) := rfl
  have HCE : Hid (cent c o = ⟨c.who, c.done + c.wait.length + 1, o⟩) := rfl
  have HRM : Hid (∀ x, Calls Tryd.prog 43 #[.int .i64 c.who, .int .i64 (c.made + 1)] x fun e w' => e = .returned (.int .i64 (madeI c.who (c.made + 1))) ∧ x = w') := fun x => specRowMade_any c.who (c.made + 1) x
  go_enter Tryd.func22, Tryd.ntmps22
  go_upto_region 1 with fail
  generalize (((w.alloc (.cells #[.int .i64 c.who, .int .i64 c.seen, .slice ba c.base.length bc, .slice (some ⟨wb, wo, none⟩) c.wait.length wc, .int .i64 c.done, .int .i64 c.made] 33)).alloc (.cells #[.int .i64 o.kind, .int .i64 o.id, .int .i64 o.up, .int .i64 o.at_, .string o.txt] 37)).alloc (.cells #[.int .i64 0, .int .i64 0, .slice none 0 0, .slice none 0 0, .int .i64 0, .int .i64 0] 33)) = w1 at *
  generalize hmm : madeI c.who (c.made + 1) = mm at *
  have HMM := Lib.hid hmm
  clear hmm
  have hbs1 := Y0.lt
  obtain ⟨x0, x1, x2, x3, x4, x5⟩ := X0.cli
  have q0 := O0.cell 0 rfl
  have q1 := O0.cell 1 rfl
  have q2 := O0.cell 2 rfl
  have q3 := O0.cell 3 rfl
  have q4 := O0.cell 4 rfl
  have E1 := Bx.new w1 55 #[.int .i64 c.who, .int .i64 (c.done + c.wait.length + 1), .int .i64 o.kind, .int .i64 o.id, .int .i64 o.up, .int .i64 o.at_, .string o.txt]
  have L1 := L0.alloc L0.size (.cells #[.int .i64 c.who, .int .i64 (c.done + c.wait.length + 1), .int .i64 o.kind, .int .i64 o.id, .int .i64 o.up, .int .i64 o.at_, .string o.txt] 55)
  have X1 := X0.alloc (.cells #[.int .i64 c.who, .int .i64 (c.done + c.wait.length + 1), .int .i64 o.kind, .int .i64 o.id, .int .i64 o.up, .int .i64 o.at_, .string o.txt] 55)
  have O1 := O0.alloc (.cells #[.int .i64 c.who, .int .i64 (c.done + c.wait.length + 1), .int .i64 o.kind, .int .i64 o.id, .int .i64 o.up, .int .i64 o.at_, .string o.txt] 55)
  have Y1 := Y0.alloc (.cells #[.int .i64 c.who, .int .i64 (c.done + c.wait.length + 1), .int .i64 o.kind, .int .i64 o.id, .int .i64 o.up, .int .i64 o.at_, .string o.txt] 55)
  go_upto_region 2 with fail
  generalize w1.alloc (.cells #[.int .i64 c.who, .int .i64 (c.done + c.wait.length + 1), .int .i64 o.kind, .int .i64 o.id, .int .i64 o.up, .int .i64 o.at_, .string o.txt] 55) = w2 at *
  generalize hn1 : w1.heap.size = n1 at *
  clear x0 x1 x2 x3 x4 x5 q0 q1 q2 q3 q4 X0 O0 Y0
  have lE := E1.lt
  have lX := X1.lt
  have lO := O1.lt
  have r0 := fun u : Later w2 => later_cell (E1.cell 0 rfl) lE u
  have r1 := fun u : Later w2 => later_cell (E1.cell 1 rfl) lE u
  have r2 := fun u : Later w2 => later_cell (E1.cell 2 rfl) lE u
  have r3 := fun u : Later w2 => later_cell (E1.cell 3 rfl) lE u
  have r4 := fun u : Later w2 => later_cell (E1.cell 4 rfl) lE u
  have r5 := fun u : Later w2 => later_cell (E1.cell 5 rfl) lE u
  have r6 := fun u : Later w2 => later_cell (E1.cell 6 rfl) lE u
  have t0 := fun u : Later w2 => later_cell (O1.cell 0 rfl) lO u
  have t1 := fun u : Later w2 => later_cell (O1.cell 1 rfl) lO u
  have c0 := fun u : Later w2 => later_cell (X1.cell 0 rfl) lX u
  have c5 := fun u : Later w2 => later_cell (X1.cell 5 rfl) lX u
  generalize hen : entB (cent c o) = eb at *
  have HEN := Lib.hid hen
  clear hen
  cases eb
  · have HNO : Hid (doOk c o = false) := by unfold Hid; rw [HDK.out]; rfl
    go_wp2_with fail
    refine wp_region_later (by kernel_rfl) (by kernel_rfl) ?_
    repeat (go_big_quiet_step (first | (go_at_call 34; (with_reducible exact later_of (HE.out _))) | (go_at_call 43; (with_reducible exact later_same (HRM.out _)))))
    refine wpQuiet_nil ?_
    rintro wn ⟨u, rfl⟩
    have L3 := L1.trans (u.h.mono L1.size)
    have X3 := X1.below u.h X1.lt
    have O3 := O1.below u.h O1.lt
    have Y3 := Y1.below u.h Y1.lt
    have E3 := E1.below u.h E1.lt
    clear r0 r1 r2 r3 r4 r5 r6 t0 t1 c0 c5 lE lX lO X1 O1 Y1 E1 HE HRM
    generalize u.x = w3 at *
    obtain ⟨x0, x1, x2, x3, x4, x5⟩ := X3.cli
    obtain ⟨d0, d1, d2, d3, d4, d5⟩ := Y3.cli
    obtain ⟨y0, y1, y2, y3, y4, y5⟩ := Y3.cliF
    have LF := below_given6 L3 (show w.heap.size ≤ w.heap.size + 2 by omega) (.int .i64 c.who) (.int .i64 c.seen) (.slice ba c.base.length bc) (.slice (some ⟨wb, wo, none⟩) c.wait.length wc) (.int .i64 c.done) (.int .i64 c.made)
    clear X3 O3 Y3 E3
    go_wp2
    exact bodyPost_ret (v := .tuple #[.agg #[.int .i64 c.who, .int .i64 c.seen, .slice ba c.base.length bc, .slice (some ⟨wb, wo, none⟩) c.wait.length wc, .int .i64 c.done, .int .i64 c.made], .bool false]) (by simp [results, Tryd.results22, go_sem, d0, d1, d2, d3, d4, d5]) rfl ⟨LF, .inl ⟨HNO.out, rfl⟩⟩
  · by_cases hk : o.kind = 1
    · by_cases hid : o.id = mm
      · have HNO : Hid (doOk c o = true) := by unfold Hid; rw [HDK.out]; simp [hk, hid]
        have hid2 : (o.id != mm) = false := by simp [hid]
        clear hid
        rw [hk] at t0
        have HK := Lib.hid hk
        clear hk
        go_wp2_with fail
        refine wp_region_later (by kernel_rfl) (by kernel_rfl) ?_
        repeat (go_big_quiet_step (first | (go_at_call 34; (with_reducible exact later_of (HE.out _))) | (go_at_call 43; (with_reducible exact later_same (HRM.out _)))))
        refine wpQuiet_nil ?_
        rintro wn ⟨u, rfl⟩
        have L3 := L1.trans (u.h.mono L1.size)
        have X3 := X1.below u.h X1.lt
        have O3 := O1.below u.h O1.lt
        have Y3 := Y1.below u.h Y1.lt
        have E3 := E1.below u.h E1.lt
        clear r0 r1 r2 r3 r4 r5 r6 t0 t1 c0 c5 lE lX lO X1 O1 Y1 E1 HE HRM
        generalize u.x = w3 at *
        have k0 := O3.cell 0 rfl
        rw [HK.out] at k0
        have x5 := X3.cell 5 rfl
        have f5 := X3.frozen 5
        have hn12 : n1 ≠ w.heap.size := by omega
        have X3' : Bx (w3.setCell ⟨w.heap.size, 5, none⟩ (.int .i64 (c.made + 1))) w.heap.size 33 #[.int .i64 c.who, .int .i64 c.seen, .slice ba c.base.length bc, .slice (some ⟨wb, wo, none⟩) c.wait.length wc, .int .i64 c.done, .int .i64 (c.made + 1)] := X3.put 5 _
        have Y3' := Y3.other (j := 5) (show w.heap.size + 2 ≠ w.heap.size by omega) (.int .i64 (c.made + 1))
        have E3' := E3.other (j := 5) hn12 (.int .i64 (c.made + 1))
        have O3' := O3.other (j := 5) (show w.heap.size + 1 ≠ w.heap.size by omega) (.int .i64 (c.made + 1))
        have L3' := L3.setCell (p := ⟨w.heap.size, 5, none⟩) (Nat.le_refl _) (.int .i64 (c.made + 1))
        clear X3 Y3 E3 O3 L3
        go_upto_region 6 with fail
        generalize w3.setCell ⟨w.heap.size, 5, none⟩ (.int .i64 (c.made + 1)) = V at *
        have X3 := X3'
        have Y3 := Y3'
        have E3 := E3'
        have O3 := O3'
        have L3 := L3'
        clear X3' Y3' E3' O3' L3' k0 x5 f5
        obtain ⟨e, he⟩ : ∃ e, cent c o = e := ⟨_, rfl⟩
        have HEQ := Lib.hid he
        have E4 : Bx V n1 55 #[.int .i64 e.who, .int .i64 e.seq, .int .i64 e.op.kind, .int .i64 e.op.id, .int .i64 e.op.up, .int .i64 e.op.at_, .string e.op.txt] := by rw [← he]; exact E3
        clear he E3
        have hV := L3
        have h0 := h.ents.below hV
        have hbV : wb < V.heap.size := Nat.lt_of_lt_of_le hwb hV.size
        have lX := X3.lt
        have lE := E4.lt
        have HV : Hid (∀ x : World, Below V.heap.size V x → x.cell? ⟨n1, 0, none⟩ = some (.int .i64 e.who) ∧ x.cell? ⟨n1, 1, none⟩ = some (.int .i64 e.seq) ∧ x.cell? ⟨n1, 2, none⟩ = some (.int .i64 e.op.kind) ∧ x.cell? ⟨n1, 3, none⟩ = some (.int .i64 e.op.id) ∧ x.cell? ⟨n1, 4, none⟩ = some (.int .i64 e.op.up) ∧ x.cell? ⟨n1, 5, none⟩ = some (.int .i64 e.op.at_) ∧ x.cell? ⟨n1, 6, none⟩ = some (.string e.op.txt) ∧ x.cell? ⟨w.heap.size, 3, none⟩ = some (.slice (some ⟨wb, wo, none⟩) c.wait.length wc) ∧ x.frozen? ⟨w.heap.size, 3, none⟩ = false) := fun x hx =>
          have q := E4.below hx lE
          have q2 := X3.below hx lX
          ⟨q.cell 0 rfl, q.cell 1 rfl, q.cell 2 rfl, q.cell 3 rfl, q.cell 4 rfl, q.cell 5 rfl, q.cell 6 rfl, q2.cell 3 rfl, q2.frozen 3⟩
        have o1 := own_emptyE V.drew 55
        have o2 := o1.alloc (.cells #[.int .i64 e.who, .int .i64 e.seq, .int .i64 e.op.kind, .int .i64 e.op.id, .int .i64 e.op.up, .int .i64 e.op.at_, .string e.op.txt] 55)
        have o3 := own_mono (own_emptyE (V.drew.alloc (.cells #[.int .i64 e.who, .int .i64 e.seq, .int .i64 e.op.kind, .int .i64 e.op.id, .int .i64 e.op.up, .int .i64 e.op.at_, .string e.op.txt] 55)) 55) (show V.heap.size ≤ (V.drew.alloc (.cells #[.int .i64 e.who, .int .i64 e.seq, .int .i64 e.op.kind, .int .i64 e.op.id, .int .i64 e.op.up, .int .i64 e.op.at_, .string e.op.txt] 55)).heap.size by simp)
        have d1 : Below V.heap.size V (V.drew.alloc (.cells #[] 55)) := ((Below.refl _ _).drew).alloc (Nat.le_refl _) _
        have d2 : Below V.heap.size V ((V.drew.alloc (.cells #[] 55)).alloc (.cells #[.int .i64 e.who, .int .i64 e.seq, .int .i64 e.op.kind, .int .i64 e.op.id, .int .i64 e.op.up, .int .i64 e.op.at_, .string e.op.txt] 55)) := d1.alloc d1.size _
        have d3 : Below V.heap.size V ((V.drew.alloc (.cells #[.int .i64 e.who, .int .i64 e.seq, .int .i64 e.op.kind, .int .i64 e.op.id, .int .i64 e.op.up, .int .i64 e.op.at_, .string e.op.txt] 55)).alloc (.cells #[] 55)) := (((Below.refl _ _).drew).alloc (Nat.le_refl _) _).alloc (by simp) _
        have n0 : Hid ((cellsE c.wait).length = c.wait.length * 7) := cellsE_len c.wait
        have nn := h0.news
        have hre : ∀ X : World, Below V.heap.size V X → ∀ j u, (cellsE c.wait)[j]? = some u → X.cell? ((⟨wb, wo, none⟩ : Addr).add j) = some u := fun X hX j u hu => by
          have := nn j u hu
          rw [addr_add] at this ⊢
          rw [hX.cell (p := ⟨wb, wo + j, none⟩) hbV]; exact this
        have n1' := Lib.hid (hre _ d1)
        have n2 := Lib.hid (hre _ d2)
        have n3 := Lib.hid (hre _ d3)
        have m0 : Hid ((cellsE [e]).length = 1 * 7) := rfl
        have l2 : Hid (∀ j u, (cellsE [e])[j]? = some u → ((V.drew.alloc (.cells #[] 55)).alloc (.cells #[.int .i64 e.who, .int .i64 e.seq, .int .i64 e.op.kind, .int .i64 e.op.id, .int .i64 e.op.up, .int .i64 e.op.at_, .string e.op.txt] 55)).cell? ((⟨V.heap.size + 1, 0, none⟩ : Addr).add j) = some u) := fun j u hu => by simpa using elem_cells (V.drew.alloc (.cells #[] 55)) e j u hu
        have l3 : Hid (∀ j u, (cellsE [e])[j]? = some u → ((V.drew.alloc (.cells #[.int .i64 e.who, .int .i64 e.seq, .int .i64 e.op.kind, .int .i64 e.op.id, .int .i64 e.op.up, .int .i64 e.op.at_, .string e.op.txt] 55)).alloc (.cells #[] 55)).cell? ((⟨V.heap.size, 0, none⟩ : Addr).add j) = some u) := fun j u hu => by
          rw [World.cell?_alloc_lt _ _ _ (by rw [addr_add]; simp)]; exact elem_cells V.drew e j u hu
        obtain ⟨y0, y1, y2, y3, y4, y5, y6, z3, zf⟩ := HV.out V (Below.refl _ _)
        clear nn hre h0
        go_cut [51] (fun p wx => ∃ g5 vc5, p = .slice (some ⟨g5, 0, none⟩) (c.wait.length + 1) vc5 ∧ Bx wx w.heap.size 33 #[.int .i64 c.who, .int .i64 c.seen, .slice ba c.base.length bc, .slice (some ⟨g5, 0, none⟩) (c.wait.length + 1) vc5, .int .i64 c.done, .int .i64 (c.made + 1)] ∧ Bx wx (w.heap.size + 2) 33 #[.int .i64 0, .int .i64 0, .slice none 0 0, .slice none 0 0, .int .i64 0, .int .i64 0] ∧ OwnG V.heap.size wx g5 vc5 (c.wait ++ [e]) ∧ Below w.heap.size w wx)
        case first =>
          go_region_law (first
            | (refine step_append_own rfl (.tmp 45) (.tmp 47) 31 rfl V.heap.size 55 i0 (.agg #[.int .i64 0, .int .i64 0, .int .i64 0, .int .i64 0, .int .i64 0, .int .i64 0, .string ⟨#[]⟩]) 7 64 Tryd.underlying31 hi hz0 hz1 hz2 rfl (by decide) _ _ _ (by simp [Act.eval]) o1 ⟨wb, wo, none⟩ c.wait.length wc (cellsE c.wait) (by simp [Act.eval]) n0.out n1'.out (cellsE_plain _) (by unfold maxLen; omega) (by omega) d1.size ?_
               intro v4 w4 own4 grow4
               have hb4 : Below V.heap.size V w4 := d1.grown grow4 d1.size (own_block o1)
               have own4' : w4.ownsRow V.heap.size 55 7 v4 c.wait.length (cellsE c.wait) := by simpa using own4
               obtain ⟨y0, y1, y2, y3, y4, y5, y6, z3, zf⟩ := HV.out w4 hb4
               obtain ⟨va, vc, rfl, _⟩ := own_slice own4')
            | (refine step_append_own rfl (.tmp 45) (.tmp 47) 31 rfl V.heap.size 55 i0 (.agg #[.int .i64 0, .int .i64 0, .int .i64 0, .int .i64 0, .int .i64 0, .int .i64 0, .string ⟨#[]⟩]) 7 64 Tryd.underlying31 hi hz0 hz1 hz2 rfl (by decide) _ _ _ (by simp [Act.eval]) o2 ⟨wb, wo, none⟩ c.wait.length wc (cellsE c.wait) (by simp [Act.eval]) n0.out n2.out (cellsE_plain _) (by unfold maxLen; omega) (by omega) d2.size ?_
               intro v4 w4 own4 grow4
               have hb4 : Below V.heap.size V w4 := d2.grown grow4 d2.size (own_block o2)
               have own4' : w4.ownsRow V.heap.size 55 7 v4 c.wait.length (cellsE c.wait) := by simpa using own4
               have L2 : Hid (∀ j u, (cellsE [e])[j]? = some u → w4.cell? ((⟨V.heap.size + 1, 0, none⟩ : Addr).add j) = some u) := fun j u hu => grow4.cell (l2.out j u hu) (by rw [addr_add]; simp [Value.ownBlock])
               obtain ⟨y0, y1, y2, y3, y4, y5, y6, z3, zf⟩ := HV.out w4 hb4
               obtain ⟨va, vc, rfl, _⟩ := own_slice own4')
            | (refine step_append_own rfl (.tmp 45) (.tmp 47) 31 rfl V.heap.size 55 i0 (.agg #[.int .i64 0, .int .i64 0, .int .i64 0, .int .i64 0, .int .i64 0, .int .i64 0, .string ⟨#[]⟩]) 7 64 Tryd.underlying31 hi hz0 hz1 hz2 rfl (by decide) _ _ _ (by simp [Act.eval]) o3 ⟨wb, wo, none⟩ c.wait.length wc (cellsE c.wait) (by simp [Act.eval]) n0.out n3.out (cellsE_plain _) (by unfold maxLen; omega) (by omega) d3.size ?_
               intro v4 w4 own4 grow4
               have hb4 : Below V.heap.size V w4 := d3.grown grow4 d3.size (own_block o3)
               have own4' : w4.ownsRow V.heap.size 55 7 v4 c.wait.length (cellsE c.wait) := by simpa using own4
               have L3x : Hid (∀ j u, (cellsE [e])[j]? = some u → w4.cell? ((⟨V.heap.size, 0, none⟩ : Addr).add j) = some u) := fun j u hu => grow4.cell (l3.out j u hu) (by rw [addr_add]; simp [Value.ownBlock])
               obtain ⟨y0, y1, y2, y3, y4, y5, y6, z3, zf⟩ := HV.out w4 hb4
               obtain ⟨va, vc, rfl, _⟩ := own_slice own4')
            | (refine step_append_own rfl (.tmp 48) (.tmp 50) 31 rfl V.heap.size 55 i0 (.agg #[.int .i64 0, .int .i64 0, .int .i64 0, .int .i64 0, .int .i64 0, .int .i64 0, .string ⟨#[]⟩]) 7 64 Tryd.underlying31 hi hz0 hz1 hz2 rfl (by decide) _ _ _ (by simp [Act.eval]) own4' ⟨V.heap.size + 1, 0, none⟩ 1 1 (cellsE [e]) (by simp [Act.eval]) m0.out L2.out (cellsE_plain _) (by unfold maxLen; omega) (by omega) hb4.size ?_
               intro v5 w5 own5 grow5
               have hb5 : Below V.heap.size V w5 := hb4.grown grow5 hb4.size (own_block own4')
               have own5' : w5.ownsRow V.heap.size 55 7 v5 (c.wait.length + 1) (cellsE (c.wait ++ [e])) := by rw [cellsE_append]; exact own5
               clear y0 y1 y2 y3 y4 y5 y6 z3 zf
               obtain ⟨y0, y1, y2, y3, y4, y5, y6, z3, zf⟩ := HV.out w5 hb5
               obtain ⟨g5, vc5, rfl, hg5, _, _⟩ := own_form own5' (Nat.succ_pos _))
            | (refine step_append_own rfl (.tmp 48) (.tmp 50) 31 rfl V.heap.size 55 i0 (.agg #[.int .i64 0, .int .i64 0, .int .i64 0, .int .i64 0, .int .i64 0, .int .i64 0, .string ⟨#[]⟩]) 7 64 Tryd.underlying31 hi hz0 hz1 hz2 rfl (by decide) _ _ _ (by simp [Act.eval]) own4' ⟨V.heap.size, 0, none⟩ 1 1 (cellsE [e]) (by simp [Act.eval]) m0.out L3x.out (cellsE_plain _) (by unfold maxLen; omega) (by omega) hb4.size ?_
               intro v5 w5 own5 grow5
               have hb5 : Below V.heap.size V w5 := hb4.grown grow5 hb4.size (own_block own4')
               have own5' : w5.ownsRow V.heap.size 55 7 v5 (c.wait.length + 1) (cellsE (c.wait ++ [e])) := by rw [cellsE_append]; exact own5
               clear y0 y1 y2 y3 y4 y5 y6 z3 zf
               obtain ⟨y0, y1, y2, y3, y4, y5, y6, z3, zf⟩ := HV.out w5 hb5
               obtain ⟨g5, vc5, rfl, hg5, _, _⟩ := own_form own5' (Nat.succ_pos _))
            | (refine step_append_own rfl (.tmp 48) (.tmp 50) 31 rfl V.heap.size 55 i0 (.agg #[.int .i64 0, .int .i64 0, .int .i64 0, .int .i64 0, .int .i64 0, .int .i64 0, .string ⟨#[]⟩]) 7 64 Tryd.underlying31 hi hz0 hz1 hz2 rfl (by decide) _ _ _ (by simp [Act.eval]) (own4'.alloc (.cells #[.int .i64 e.who, .int .i64 e.seq, .int .i64 e.op.kind, .int .i64 e.op.id, .int .i64 e.op.up, .int .i64 e.op.at_, .string e.op.txt] 55)) ⟨w4.heap.size, 0, none⟩ 1 1 (cellsE [e]) (by simp [Act.eval]) m0.out (elem_cells w4 e) (cellsE_plain _) (by unfold maxLen; omega) (by omega) (hb4.alloc hb4.size (.cells #[.int .i64 e.who, .int .i64 e.seq, .int .i64 e.op.kind, .int .i64 e.op.id, .int .i64 e.op.up, .int .i64 e.op.at_, .string e.op.txt] 55)).size ?_
               intro v5 w5 own5 grow5
               have hb5 : Below V.heap.size V w5 := (hb4.alloc hb4.size (.cells #[.int .i64 e.who, .int .i64 e.seq, .int .i64 e.op.kind, .int .i64 e.op.id, .int .i64 e.op.up, .int .i64 e.op.at_, .string e.op.txt] 55)).grown grow5 (hb4.alloc hb4.size (.cells #[.int .i64 e.who, .int .i64 e.seq, .int .i64 e.op.kind, .int .i64 e.op.id, .int .i64 e.op.up, .int .i64 e.op.at_, .string e.op.txt] 55)).size (own_block own4')
               have own5' : w5.ownsRow V.heap.size 55 7 v5 (c.wait.length + 1) (cellsE (c.wait ++ [e])) := by rw [cellsE_append]; exact own5
               clear y0 y1 y2 y3 y4 y5 y6 z3 zf
               obtain ⟨y0, y1, y2, y3, y4, y5, y6, z3, zf⟩ := HV.out w5 hb5
               obtain ⟨g5, vc5, rfl, hg5, _, _⟩ := own_form own5' (Nat.succ_pos _)))
          all_goals
            have G5 : OwnG V.heap.size w5 g5 vc5 (c.wait ++ [e]) := ownG_of (by rw [show (c.wait ++ [e]).length = c.wait.length + 1 by simp]; exact own5')
            have hgv := G5.lo
            have X6 : Bx (w5.setCell ⟨w.heap.size, 3, none⟩ (.slice (some ⟨g5, 0, none⟩) (c.wait.length + 1) vc5)) w.heap.size 33 #[.int .i64 c.who, .int .i64 c.seen, .slice ba c.base.length bc, .slice (some ⟨g5, 0, none⟩) (c.wait.length + 1) vc5, .int .i64 c.done, .int .i64 (c.made + 1)] := (X3.below hb5 X3.lt).put 3 _
            have Y6 := (Y3.below hb5 Y3.lt).other (j := 3) (show w.heap.size + 2 ≠ w.heap.size by omega) (.slice (some ⟨g5, 0, none⟩) (c.wait.length + 1) vc5)
            have L6 := (L3.trans (hb5.mono L3.size)).setCell (p := ⟨w.heap.size, 3, none⟩) (Nat.le_refl _) (.slice (some ⟨g5, 0, none⟩) (c.wait.length + 1) vc5)
            have G6 := G5.put (B := w.heap.size) (j := 3) (by omega) (.slice (some ⟨g5, 0, none⟩) (c.wait.length + 1) vc5)
            have HM := Lib.hid (And.intro X6 (And.intro Y6 (And.intro G6 L6)))
            clear o1 o2 o3 own4 n1' n2 n3 l2 l3 HV y0 y1 y2 y3 y4 y5 y6 z3 zf X3 Y3 O3 G5 E4 d1 d2 d3 X6 Y6 L6 G6
            go_wp2
            go_meet
            exact ⟨g5, vc5, rfl, HM.out.1, HM.out.2.1, HM.out.2.2.1, HM.out.2.2.2⟩
        case rest =>
          obtain ⟨g5, vc5, rfl, X6, Y6, G6, L6⟩ := hcut
          have hgv := G6.lo
          clear o1 o2 o3 n1' n2 n3 l2 l3 HV y0 y1 y2 y3 y4 y5 y6 z3 zf X3 Y3 O3 E4 d1 d2 d3
          generalize hwc : wc = w6 at *
          clear hwc
          obtain ⟨x0, x1, x2, x3, x4, x5⟩ := X6.cli
          obtain ⟨d0, d1, d2, d3, d4, d5⟩ := Y6.cli
          obtain ⟨y0, y1, y2, y3, y4, y5⟩ := Y6.cliF
          have LF := below_given6 L6 (show w.heap.size ≤ w.heap.size + 2 by omega) (.int .i64 c.who) (.int .i64 c.seen) (.slice ba c.base.length bc) (.slice (some ⟨g5, 0, none⟩) (c.wait.length + 1) vc5) (.int .i64 c.done) (.int .i64 (c.made + 1))
          have G7 := (((((G6.put (B := w.heap.size + 2) (j := 0) (by omega) (.int .i64 c.who)).put (B := w.heap.size + 2) (j := 1) (by omega) (.int .i64 c.seen)).put (B := w.heap.size + 2) (j := 2) (by omega) (.slice ba c.base.length bc)).put (B := w.heap.size + 2) (j := 3) (by omega) (.slice (some ⟨g5, 0, none⟩) (c.wait.length + 1) vc5)).put (B := w.heap.size + 2) (j := 4) (by omega) (.int .i64 c.done)).put (B := w.heap.size + 2) (j := 5) (by omega) (.int .i64 (c.made + 1))
          clear X6 Y6 G6
          go_wp2
          exact bodyPost_ret (v := .tuple #[.agg #[.int .i64 c.who, .int .i64 c.seen, .slice ba c.base.length bc, .slice (some ⟨g5, 0, none⟩) (c.wait.length + 1) vc5, .int .i64 c.done, .int .i64 (c.made + 1)], .bool true]) (by simp [results, Tryd.results22, go_sem, d0, d1, d2, d3, d4, d5]) rfl ⟨LF, .inr ⟨HNO.out, g5, vc5, by rw [if_pos HK.out], by rw [HEQ.out]; exact G7.mono L3.size⟩⟩
      · have HNO : Hid (doOk c o = false) := by unfold Hid; rw [HDK.out]; simp [hk, hid]
        have hid2 : (o.id != mm) = true := by simp [hid]
        rw [hk] at t0
        have HK := Lib.hid hk
        clear hk
        go_wp2_with fail
        refine wp_region_later (by kernel_rfl) (by kernel_rfl) ?_
        repeat (go_big_quiet_step (first | (go_at_call 34; (with_reducible exact later_of (HE.out _))) | (go_at_call 43; (with_reducible exact later_same (HRM.out _)))))
        refine wpQuiet_nil ?_
        rintro wn ⟨u, rfl⟩
        have L3 := L1.trans (u.h.mono L1.size)
        have X3 := X1.below u.h X1.lt
        have O3 := O1.below u.h O1.lt
        have Y3 := Y1.below u.h Y1.lt
        have E3 := E1.below u.h E1.lt
        clear r0 r1 r2 r3 r4 r5 r6 t0 t1 c0 c5 lE lX lO X1 O1 Y1 E1 HE HRM
        generalize u.x = w3 at *
        obtain ⟨x0, x1, x2, x3, x4, x5⟩ := X3.cli
        obtain ⟨d0, d1, d2, d3, d4, d5⟩ := Y3.cli
        obtain ⟨y0, y1, y2, y3, y4, y5⟩ := Y3.cliF
        have LF := below_given6 L3 (show w.heap.size ≤ w.heap.size + 2 by omega) (.int .i64 c.who) (.int .i64 c.seen) (.slice ba c.base.length bc) (.slice (some ⟨wb, wo, none⟩) c.wait.length wc) (.int .i64 c.done) (.int .i64 c.made)
        clear X3 O3 Y3 E3
        go_wp2
        exact bodyPost_ret (v := .tuple #[.agg #[.int .i64 c.who, .int .i64 c.seen, .slice ba c.base.length bc, .slice (some ⟨wb, wo, none⟩) c.wait.length wc, .int .i64 c.done, .int .i64 c.made], .bool false]) (by simp [results, Tryd.results22, go_sem, d0, d1, d2, d3, d4, d5]) rfl ⟨LF, .inl ⟨HNO.out, rfl⟩⟩
    · have HNO : Hid (doOk c o = true) := by unfold Hid; rw [HDK.out]; simp [hk]
      have hk2 : (o.kind == 1) = false := by simp [hk]
      have HK := Lib.hid hk
      go_wp2_with fail
      refine wp_region_later (by kernel_rfl) (by kernel_rfl) ?_
      repeat (go_big_quiet_step (first | (go_at_call 34; (with_reducible exact later_of (HE.out _))) | (go_at_call 43; (with_reducible exact later_same (HRM.out _)))))
      refine wpQuiet_nil ?_
      rintro wn ⟨u, rfl⟩
      have L3 := L1.trans (u.h.mono L1.size)
      have X3 := X1.below u.h X1.lt
      have O3 := O1.below u.h O1.lt
      have Y3 := Y1.below u.h Y1.lt
      have E3 := E1.below u.h E1.lt
      clear r0 r1 r2 r3 r4 r5 r6 t0 t1 c0 c5 lE lX lO X1 O1 Y1 E1 HE HRM
      generalize u.x = V at *
      have k0 := O3.cell 0 rfl
      go_upto_region 6 with fail
      clear k0
      obtain ⟨e, he⟩ : ∃ e, cent c o = e := ⟨_, rfl⟩
      have HEQ := Lib.hid he
      have E4 : Bx V n1 55 #[.int .i64 e.who, .int .i64 e.seq, .int .i64 e.op.kind, .int .i64 e.op.id, .int .i64 e.op.up, .int .i64 e.op.at_, .string e.op.txt] := by rw [← he]; exact E3
      clear he E3
      have hV := L3
      have h0 := h.ents.below hV
      have hbV : wb < V.heap.size := Nat.lt_of_lt_of_le hwb hV.size
      have lX := X3.lt
      have lE := E4.lt
      have HV : Hid (∀ x : World, Below V.heap.size V x → x.cell? ⟨n1, 0, none⟩ = some (.int .i64 e.who) ∧ x.cell? ⟨n1, 1, none⟩ = some (.int .i64 e.seq) ∧ x.cell? ⟨n1, 2, none⟩ = some (.int .i64 e.op.kind) ∧ x.cell? ⟨n1, 3, none⟩ = some (.int .i64 e.op.id) ∧ x.cell? ⟨n1, 4, none⟩ = some (.int .i64 e.op.up) ∧ x.cell? ⟨n1, 5, none⟩ = some (.int .i64 e.op.at_) ∧ x.cell? ⟨n1, 6, none⟩ = some (.string e.op.txt) ∧ x.cell? ⟨w.heap.size, 3, none⟩ = some (.slice (some ⟨wb, wo, none⟩) c.wait.length wc) ∧ x.frozen? ⟨w.heap.size, 3, none⟩ = false) := fun x hx =>
        have q := E4.below hx lE
        have q2 := X3.below hx lX
        ⟨q.cell 0 rfl, q.cell 1 rfl, q.cell 2 rfl, q.cell 3 rfl, q.cell 4 rfl, q.cell 5 rfl, q.cell 6 rfl, q2.cell 3 rfl, q2.frozen 3⟩
      have o1 := own_emptyE V.drew 55
      have o2 := o1.alloc (.cells #[.int .i64 e.who, .int .i64 e.seq, .int .i64 e.op.kind, .int .i64 e.op.id, .int .i64 e.op.up, .int .i64 e.op.at_, .string e.op.txt] 55)
      have o3 := own_mono (own_emptyE (V.drew.alloc (.cells #[.int .i64 e.who, .int .i64 e.seq, .int .i64 e.op.kind, .int .i64 e.op.id, .int .i64 e.op.up, .int .i64 e.op.at_, .string e.op.txt] 55)) 55) (show V.heap.size ≤ (V.drew.alloc (.cells #[.int .i64 e.who, .int .i64 e.seq, .int .i64 e.op.kind, .int .i64 e.op.id, .int .i64 e.op.up, .int .i64 e.op.at_, .string e.op.txt] 55)).heap.size by simp)
      have d1 : Below V.heap.size V (V.drew.alloc (.cells #[] 55)) := ((Below.refl _ _).drew).alloc (Nat.le_refl _) _
      have d2 : Below V.heap.size V ((V.drew.alloc (.cells #[] 55)).alloc (.cells #[.int .i64 e.who, .int .i64 e.seq, .int .i64 e.op.kind, .int .i64 e.op.id, .int .i64 e.op.up, .int .i64 e.op.at_, .string e.op.txt] 55)) := d1.alloc d1.size _
      have d3 : Below V.heap.size V ((V.drew.alloc (.cells #[.int .i64 e.who, .int .i64 e.seq, .int .i64 e.op.kind, .int .i64 e.op.id, .int .i64 e.op.up, .int .i64 e.op.at_, .string e.op.txt] 55)).alloc (.cells #[] 55)) := (((Below.refl _ _).drew).alloc (Nat.le_refl _) _).alloc (by simp) _
      have n0 : Hid ((cellsE c.wait).length = c.wait.length * 7) := cellsE_len c.wait
      have nn := h0.news
      have hre : ∀ X : World, Below V.heap.size V X → ∀ j u, (cellsE c.wait)[j]? = some u → X.cell? ((⟨wb, wo, none⟩ : Addr).add j) = some u := fun X hX j u hu => by
        have := nn j u hu
        rw [addr_add] at this ⊢
        rw [hX.cell (p := ⟨wb, wo + j, none⟩) hbV]; exact this
      have n1' := Lib.hid (hre _ d1)
      have n2 := Lib.hid (hre _ d2)
      have n3 := Lib.hid (hre _ d3)
      have m0 : Hid ((cellsE [e]).length = 1 * 7) := rfl
      have l2 : Hid (∀ j u, (cellsE [e])[j]? = some u → ((V.drew.alloc (.cells #[] 55)).alloc (.cells #[.int .i64 e.who, .int .i64 e.seq, .int .i64 e.op.kind, .int .i64 e.op.id, .int .i64 e.op.up, .int .i64 e.op.at_, .string e.op.txt] 55)).cell? ((⟨V.heap.size + 1, 0, none⟩ : Addr).add j) = some u) := fun j u hu => by simpa using elem_cells (V.drew.alloc (.cells #[] 55)) e j u hu
      have l3 : Hid (∀ j u, (cellsE [e])[j]? = some u → ((V.drew.alloc (.cells #[.int .i64 e.who, .int .i64 e.seq, .int .i64 e.op.kind, .int .i64 e.op.id, .int .i64 e.op.up, .int .i64 e.op.at_, .string e.op.txt] 55)).alloc (.cells #[] 55)).cell? ((⟨V.heap.size, 0, none⟩ : Addr).add j) = some u) := fun j u hu => by
        rw [World.cell?_alloc_lt _ _ _ (by rw [addr_add]; simp)]; exact elem_cells V.drew e j u hu
      obtain ⟨y0, y1, y2, y3, y4, y5, y6, z3, zf⟩ := HV.out V (Below.refl _ _)
      clear nn hre h0
      go_cut [51] (fun p wx => ∃ g5 vc5, p = .slice (some ⟨g5, 0, none⟩) (c.wait.length + 1) vc5 ∧ Bx wx w.heap.size 33 #[.int .i64 c.who, .int .i64 c.seen, .slice ba c.base.length bc, .slice (some ⟨g5, 0, none⟩) (c.wait.length + 1) vc5, .int .i64 c.done, .int .i64 c.made] ∧ Bx wx (w.heap.size + 2) 33 #[.int .i64 0, .int .i64 0, .slice none 0 0, .slice none 0 0, .int .i64 0, .int .i64 0] ∧ OwnG V.heap.size wx g5 vc5 (c.wait ++ [e]) ∧ Below w.heap.size w wx)
      case first =>
        go_region_law (first
          | (refine step_append_own rfl (.tmp 45) (.tmp 47) 31 rfl V.heap.size 55 i0 (.agg #[.int .i64 0, .int .i64 0, .int .i64 0, .int .i64 0, .int .i64 0, .int .i64 0, .string ⟨#[]⟩]) 7 64 Tryd.underlying31 hi hz0 hz1 hz2 rfl (by decide) _ _ _ (by simp [Act.eval]) o1 ⟨wb, wo, none⟩ c.wait.length wc (cellsE c.wait) (by simp [Act.eval]) n0.out n1'.out (cellsE_plain _) (by unfold maxLen; omega) (by omega) d1.size ?_
             intro v4 w4 own4 grow4
             have hb4 : Below V.heap.size V w4 := d1.grown grow4 d1.size (own_block o1)
             have own4' : w4.ownsRow V.heap.size 55 7 v4 c.wait.length (cellsE c.wait) := by simpa using own4
             obtain ⟨y0, y1, y2, y3, y4, y5, y6, z3, zf⟩ := HV.out w4 hb4
             obtain ⟨va, vc, rfl, _⟩ := own_slice own4')
          | (refine step_append_own rfl (.tmp 45) (.tmp 47) 31 rfl V.heap.size 55 i0 (.agg #[.int .i64 0, .int .i64 0, .int .i64 0, .int .i64 0, .int .i64 0, .int .i64 0, .string ⟨#[]⟩]) 7 64 Tryd.underlying31 hi hz0 hz1 hz2 rfl (by decide) _ _ _ (by simp [Act.eval]) o2 ⟨wb, wo, none⟩ c.wait.length wc (cellsE c.wait) (by simp [Act.eval]) n0.out n2.out (cellsE_plain _) (by unfold maxLen; omega) (by omega) d2.size ?_
             intro v4 w4 own4 grow4
             have hb4 : Below V.heap.size V w4 := d2.grown grow4 d2.size (own_block o2)
             have own4' : w4.ownsRow V.heap.size 55 7 v4 c.wait.length (cellsE c.wait) := by simpa using own4
             have L2 : Hid (∀ j u, (cellsE [e])[j]? = some u → w4.cell? ((⟨V.heap.size + 1, 0, none⟩ : Addr).add j) = some u) := fun j u hu => grow4.cell (l2.out j u hu) (by rw [addr_add]; simp [Value.ownBlock])
             obtain ⟨y0, y1, y2, y3, y4, y5, y6, z3, zf⟩ := HV.out w4 hb4
             obtain ⟨va, vc, rfl, _⟩ := own_slice own4')
          | (refine step_append_own rfl (.tmp 45) (.tmp 47) 31 rfl V.heap.size 55 i0 (.agg #[.int .i64 0, .int .i64 0, .int .i64 0, .int .i64 0, .int .i64 0, .int .i64 0, .string ⟨#[]⟩]) 7 64 Tryd.underlying31 hi hz0 hz1 hz2 rfl (by decide) _ _ _ (by simp [Act.eval]) o3 ⟨wb, wo, none⟩ c.wait.length wc (cellsE c.wait) (by simp [Act.eval]) n0.out n3.out (cellsE_plain _) (by unfold maxLen; omega) (by omega) d3.size ?_
             intro v4 w4 own4 grow4
             have hb4 : Below V.heap.size V w4 := d3.grown grow4 d3.size (own_block o3)
             have own4' : w4.ownsRow V.heap.size 55 7 v4 c.wait.length (cellsE c.wait) := by simpa using own4
             have L3x : Hid (∀ j u, (cellsE [e])[j]? = some u → w4.cell? ((⟨V.heap.size, 0, none⟩ : Addr).add j) = some u) := fun j u hu => grow4.cell (l3.out j u hu) (by rw [addr_add]; simp [Value.ownBlock])
             obtain ⟨y0, y1, y2, y3, y4, y5, y6, z3, zf⟩ := HV.out w4 hb4
             obtain ⟨va, vc, rfl, _⟩ := own_slice own4')
          | (refine step_append_own rfl (.tmp 48) (.tmp 50) 31 rfl V.heap.size 55 i0 (.agg #[.int .i64 0, .int .i64 0, .int .i64 0, .int .i64 0, .int .i64 0, .int .i64 0, .string ⟨#[]⟩]) 7 64 Tryd.underlying31 hi hz0 hz1 hz2 rfl (by decide) _ _ _ (by simp [Act.eval]) own4' ⟨V.heap.size + 1, 0, none⟩ 1 1 (cellsE [e]) (by simp [Act.eval]) m0.out L2.out (cellsE_plain _) (by unfold maxLen; omega) (by omega) hb4.size ?_
             intro v5 w5 own5 grow5
             have hb5 : Below V.heap.size V w5 := hb4.grown grow5 hb4.size (own_block own4')
             have own5' : w5.ownsRow V.heap.size 55 7 v5 (c.wait.length + 1) (cellsE (c.wait ++ [e])) := by rw [cellsE_append]; exact own5
             clear y0 y1 y2 y3 y4 y5 y6 z3 zf
             obtain ⟨y0, y1, y2, y3, y4, y5, y6, z3, zf⟩ := HV.out w5 hb5
             obtain ⟨g5, vc5, rfl, hg5, _, _⟩ := own_form own5' (Nat.succ_pos _))
          | (refine step_append_own rfl (.tmp 48) (.tmp 50) 31 rfl V.heap.size 55 i0 (.agg #[.int .i64 0, .int .i64 0, .int .i64 0, .int .i64 0, .int .i64 0, .int .i64 0, .string ⟨#[]⟩]) 7 64 Tryd.underlying31 hi hz0 hz1 hz2 rfl (by decide) _ _ _ (by simp [Act.eval]) own4' ⟨V.heap.size, 0, none⟩ 1 1 (cellsE [e]) (by simp [Act.eval]) m0.out L3x.out (cellsE_plain _) (by unfold maxLen; omega) (by omega) hb4.size ?_
             intro v5 w5 own5 grow5
             have hb5 : Below V.heap.size V w5 := hb4.grown grow5 hb4.size (own_block own4')
             have own5' : w5.ownsRow V.heap.size 55 7 v5 (c.wait.length + 1) (cellsE (c.wait ++ [e])) := by rw [cellsE_append]; exact own5
             clear y0 y1 y2 y3 y4 y5 y6 z3 zf
             obtain ⟨y0, y1, y2, y3, y4, y5, y6, z3, zf⟩ := HV.out w5 hb5
             obtain ⟨g5, vc5, rfl, hg5, _, _⟩ := own_form own5' (Nat.succ_pos _))
          | (refine step_append_own rfl (.tmp 48) (.tmp 50) 31 rfl V.heap.size 55 i0 (.agg #[.int .i64 0, .int .i64 0, .int .i64 0, .int .i64 0, .int .i64 0, .int .i64 0, .string ⟨#[]⟩]) 7 64 Tryd.underlying31 hi hz0 hz1 hz2 rfl (by decide) _ _ _ (by simp [Act.eval]) (own4'.alloc (.cells #[.int .i64 e.who, .int .i64 e.seq, .int .i64 e.op.kind, .int .i64 e.op.id, .int .i64 e.op.up, .int .i64 e.op.at_, .string e.op.txt] 55)) ⟨w4.heap.size, 0, none⟩ 1 1 (cellsE [e]) (by simp [Act.eval]) m0.out (elem_cells w4 e) (cellsE_plain _) (by unfold maxLen; omega) (by omega) (hb4.alloc hb4.size (.cells #[.int .i64 e.who, .int .i64 e.seq, .int .i64 e.op.kind, .int .i64 e.op.id, .int .i64 e.op.up, .int .i64 e.op.at_, .string e.op.txt] 55)).size ?_
             intro v5 w5 own5 grow5
             have hb5 : Below V.heap.size V w5 := (hb4.alloc hb4.size (.cells #[.int .i64 e.who, .int .i64 e.seq, .int .i64 e.op.kind, .int .i64 e.op.id, .int .i64 e.op.up, .int .i64 e.op.at_, .string e.op.txt] 55)).grown grow5 (hb4.alloc hb4.size (.cells #[.int .i64 e.who, .int .i64 e.seq, .int .i64 e.op.kind, .int .i64 e.op.id, .int .i64 e.op.up, .int .i64 e.op.at_, .string e.op.txt] 55)).size (own_block own4')
             have own5' : w5.ownsRow V.heap.size 55 7 v5 (c.wait.length + 1) (cellsE (c.wait ++ [e])) := by rw [cellsE_append]; exact own5
             clear y0 y1 y2 y3 y4 y5 y6 z3 zf
             obtain ⟨y0, y1, y2, y3, y4, y5, y6, z3, zf⟩ := HV.out w5 hb5
             obtain ⟨g5, vc5, rfl, hg5, _, _⟩ := own_form own5' (Nat.succ_pos _)))
        all_goals
          have G5 : OwnG V.heap.size w5 g5 vc5 (c.wait ++ [e]) := ownG_of (by rw [show (c.wait ++ [e]).length = c.wait.length + 1 by simp]; exact own5')
          have hgv := G5.lo
          have X6 : Bx (w5.setCell ⟨w.heap.size, 3, none⟩ (.slice (some ⟨g5, 0, none⟩) (c.wait.length + 1) vc5)) w.heap.size 33 #[.int .i64 c.who, .int .i64 c.seen, .slice ba c.base.length bc, .slice (some ⟨g5, 0, none⟩) (c.wait.length + 1) vc5, .int .i64 c.done, .int .i64 c.made] := (X3.below hb5 X3.lt).put 3 _
          have Y6 := (Y3.below hb5 Y3.lt).other (j := 3) (show w.heap.size + 2 ≠ w.heap.size by omega) (.slice (some ⟨g5, 0, none⟩) (c.wait.length + 1) vc5)
          have L6 := (L3.trans (hb5.mono L3.size)).setCell (p := ⟨w.heap.size, 3, none⟩) (Nat.le_refl _) (.slice (some ⟨g5, 0, none⟩) (c.wait.length + 1) vc5)
          have G6 := G5.put (B := w.heap.size) (j := 3) (by omega) (.slice (some ⟨g5, 0, none⟩) (c.wait.length + 1) vc5)
          have HM := Lib.hid (And.intro X6 (And.intro Y6 (And.intro G6 L6)))
          clear o1 o2 o3 own4 n1' n2 n3 l2 l3 HV y0 y1 y2 y3 y4 y5 y6 z3 zf X3 Y3 O3 G5 E4 d1 d2 d3 X6 Y6 L6 G6
          go_wp2
          go_meet
          exact ⟨g5, vc5, rfl, HM.out.1, HM.out.2.1, HM.out.2.2.1, HM.out.2.2.2⟩
      case rest =>
        obtain ⟨g5, vc5, rfl, X6, Y6, G6, L6⟩ := hcut
        have hgv := G6.lo
        clear o1 o2 o3 n1' n2 n3 l2 l3 HV y0 y1 y2 y3 y4 y5 y6 z3 zf X3 Y3 O3 E4 d1 d2 d3
        generalize hwc : wc = w6 at *
        clear hwc
        obtain ⟨x0, x1, x2, x3, x4, x5⟩ := X6.cli
        obtain ⟨d0, d1, d2, d3, d4, d5⟩ := Y6.cli
        obtain ⟨y0, y1, y2, y3, y4, y5⟩ := Y6.cliF
        have LF := below_given6 L6 (show w.heap.size ≤ w.heap.size + 2 by omega) (.int .i64 c.who) (.int .i64 c.seen) (.slice ba c.base.length bc) (.slice (some ⟨g5, 0, none⟩) (c.wait.length + 1) vc5) (.int .i64 c.done) (.int .i64 c.made)
        have G7 := (((((G6.put (B := w.heap.size + 2) (j := 0) (by omega) (.int .i64 c.who)).put (B := w.heap.size + 2) (j := 1) (by omega) (.int .i64 c.seen)).put (B := w.heap.size + 2) (j := 2) (by omega) (.slice ba c.base.length bc)).put (B := w.heap.size + 2) (j := 3) (by omega) (.slice (some ⟨g5, 0, none⟩) (c.wait.length + 1) vc5)).put (B := w.heap.size + 2) (j := 4) (by omega) (.int .i64 c.done)).put (B := w.heap.size + 2) (j := 5) (by omega) (.int .i64 c.made)
        clear X6 Y6 G6
        go_wp2
        exact bodyPost_ret (v := .tuple #[.agg #[.int .i64 c.who, .int .i64 c.seen, .slice ba c.base.length bc, .slice (some ⟨g5, 0, none⟩) (c.wait.length + 1) vc5, .int .i64 c.done, .int .i64 c.made], .bool true]) (by simp [results, Tryd.results22, go_sem, d0, d1, d2, d3, d4, d5]) rfl ⟨LF, .inr ⟨HNO.out, g5, vc5, by rw [if_neg HK.out], by rw [HEQ.out]; exact G7.mono L3.size⟩⟩
end Go.Proofs.YtogafpfgdonlmaaDoor
