/-
  Contract of the program's (*desk).do. Conditions: as the theorem says.
-/
import Derived.Test.YtogafpfgdonlmaaDoorJDesk2
import Derived.Test.YtogafpfgdonlmaaDoorJCliS3
import Derived.BigQuiet
namespace Go.Proofs.YtogafpfgdonlmaaDoor
open Go.ChangeShapes Go.WideShapes Go.ChangeAt Go.RowKit Go.Joins Go.Deep

/-- What doing leaves of a desk. -/
def RetDDo (B : Nat) (c : CliD) (o : OpD) (v : Value) (f : Nat) (w : World) (r : Ending) (w' : World) : Prop :=
  But B w.heap.size w w' ∧ ∃ cs', Bx w' B 60 cs' ∧ ((doOk c o = false ∧ r = .returned (.bool false) ∧ DeskV cs' c v f) ∨ (doOk c o = true ∧ r = .returned (.bool true) ∧ DeskV cs' ⟨c.who, c.seen, c.base, c.wait ++ [cent c o], c.done, if o.kind = 1 then c.made + 1 else c.made⟩ v f))
set_option maxRecDepth 100000 in
set_option maxHeartbeats 4000000 in
theorem do_desk (B : Nat) (cs : Array Value) (c : CliD) (o : OpD) (f : Nat) (v : Value) (w : World) (h : Bx w B 60 cs) (hd : DeskV cs c v f) (hfd : (f : Int) = c.done + 1) (hs : CliSm c) (ho : OpFit o) (ht : Tab w) (hB0 : 0 ≠ B) :
    Calls Tryd.prog 26 #[.pointer (some ⟨B, 0, none⟩), .agg #[.int .i64 o.kind, .int .i64 o.id, .int .i64 o.up, .int .i64 o.at_, .string o.txt]] w (RetDDo B c o v f w) := by
  have hz := ht.pos
  have hd1 := hs.d1
  have hd0 := hs.d0
  have hm0 := hs.m0
  have hm1 := hs.m1
  have hw0 := hs.w0
  have hw1 := hs.w1
  have al := (But.refl B w.heap.size w).alloc (Nat.le_refl _) (.cells #[.int .i64 o.kind, .int .i64 o.id, .int .i64 o.up, .int .i64 o.at_, .string o.txt] 37)
  have O0 := Bx.new w 37 #[.int .i64 o.kind, .int .i64 o.id, .int .i64 o.up, .int .i64 o.at_, .string o.txt]
  have H0 := h.alloc (.cells #[.int .i64 o.kind, .int .i64 o.id, .int .i64 o.up, .int .i64 o.at_, .string o.txt] 37)
  have hBlt := h.lt
  have HDK : Hid (doOk c o = (entB (cent c o) && (!(o.kind == 1) || (o.id == madeI c.who (c.made + 1))))) := rfl
  have hend := hd.end_
  rw [show ((f + c.wait.length : Nat) : Int) = c.done + c.wait.length + 1 by omega] at hend
  have HE : Hid (∀ x, Tab x → Calls Tryd.prog 48 #[.agg #[.int .i64 c.who, .int .i64 (c.done + c.wait.length + 1), .int .i64 o.kind, .int .i64 o.id, .int .i64 o.up, .int .i64 o.at_, .string o.txt]] x (RetBelow (.bool (entB (cent c o))) x)) := fun x hx => implEntryOk_any (cent c o) x hx ⟨⟨by show _ ≤ c.who; omega, by show c.who ≤ _; omega⟩, ⟨by show _ ≤ c.done + c.wait.length + 1; omega, by show c.done + c.wait.length + 1 ≤ _; omega⟩, ho⟩
  generalize hmm : madeI c.who (c.made + 1) = mm at *
  have HMM := Lib.hid hmm
  clear hmm h
  go_enter Tryd.func26, Tryd.ntmps26
  go_upto_region 1 with fail
  generalize w.alloc (.cells #[.int .i64 o.kind, .int .i64 o.id, .int .i64 o.up, .int .i64 o.at_, .string o.txt] 37) = w1 at *
  have x0 := H0.cell 0 hd.who
  have x4 := H0.cell 284 hend
  have q0 := O0.cell 0 rfl
  have q1 := O0.cell 1 rfl
  have q2 := O0.cell 2 rfl
  have q3 := O0.cell 3 rfl
  have q4 := O0.cell 4 rfl
  have lO0 := O0.lt
  have lH0 := H0.lt
  go_region
  all_goals
    have E1 := (Bx.new w1 55 #[.int .i64 c.who, .int .i64 (c.done + c.wait.length + 1), .int .i64 o.kind, .int .i64 o.id, .int .i64 o.up, .int .i64 o.at_, .string o.txt]).drew
    have H1 := (H0.alloc (.cells #[.int .i64 c.who, .int .i64 (c.done + c.wait.length + 1), .int .i64 o.kind, .int .i64 o.id, .int .i64 o.up, .int .i64 o.at_, .string o.txt] 55)).drew
    have O1 := (O0.alloc (.cells #[.int .i64 c.who, .int .i64 (c.done + c.wait.length + 1), .int .i64 o.kind, .int .i64 o.id, .int .i64 o.up, .int .i64 o.at_, .string o.txt] 55)).drew
    have al1 := (al.alloc al.size (.cells #[.int .i64 c.who, .int .i64 (c.done + c.wait.length + 1), .int .i64 o.kind, .int .i64 o.id, .int .i64 o.up, .int .i64 o.at_, .string o.txt] 55)).drew
    have hn01 : w.heap.size < w1.heap.size := lO0
    have hB1 : B < w1.heap.size := lH0
    clear x0 x4 q0 q1 q2 q3 q4 H0 O0 al lO0 lH0
    generalize (w1.alloc (.cells #[.int .i64 c.who, .int .i64 (c.done + c.wait.length + 1), .int .i64 o.kind, .int .i64 o.id, .int .i64 o.up, .int .i64 o.at_, .string o.txt] 55)).drew = w2 at *
    generalize w1.heap.size = n1 at *
    have htw : Tab w2 := fun i hi => by rw [al1.cell (p := ⟨0, i, none⟩) hz hB0]; exact ht i hi
    have f0 := E1.cell 0 rfl
    have f1 := E1.cell 1 rfl
    have f2 := E1.cell 2 rfl
    have f3 := E1.cell 3 rfl
    have f4 := E1.cell 4 rfl
    have f5 := E1.cell 5 rfl
    have f6 := E1.cell 6 rfl
    have HSQ : Hid (entB (cent c o) = true → c.done + c.wait.length + 1 ≤ 40) := fun q => by
      simp only [entB, Bool.and_eq_true] at q
      exact ((inB_iff _ _ _).1 q.1.1.2).2
    generalize hen : entB (cent c o) = eb at *
    have HEN := Lib.hid hen
    clear hen
    go_wp2_with fail
    refine (HE.out w2 htw).mono ?_
    rintro _ w3 ⟨rfl, b3⟩
    have H3 := H1.below b3 H1.lt
    have O3 := O1.below b3 O1.lt
    have E3 := E1.below b3 E1.lt
    have al3 := al1.trans (But.of_below (b3.mono al1.size))
    clear f0 f1 f2 f3 f4 f5 f6 H1 O1 E1 al1 b3 HE htw
    cases eb
    · have HF : Hid (RetDDo B c o v f w (.returned (.bool false)) w3) := ⟨al3, cs, H3, .inl ⟨by rw [HDK.out]; rfl, rfl, hd⟩⟩
      clear H3 O3 E3 al3
      go_wp2
      go_ret
      exact HF.out
    · have hsq := HSQ.out rfl
      by_cases hk : o.kind = 1
      · have k0 := O3.cell 0 rfl
        rw [hk] at k0
        have HK := Lib.hid hk
        have HDT : Hid (o.id = mm → doOk c o = true) := fun q => by rw [HDK.out, q]; simp [hk]
        have HDF : Hid (o.id ≠ mm → doOk c o = false) := fun q => by rw [HDK.out]; simp [hk, q]
        clear hk HDK
        have lO := O3.lt
        have lH := H3.lt
        have t1 := fun u : Later w3 => later_cell (O3.cell 1 rfl) lO u
        have t2 := fun u : Later w3 => later_cell (H3.cell 0 hd.who) lH u
        have t3 := fun u : Later w3 => later_cell (H3.cell 285 hd.made) lH u
        have HRM : Hid (∀ x, Calls Tryd.prog 49 #[.int .i64 c.who, .int .i64 (c.made + 1)] x fun e w' => e = .returned (.int .i64 mm) ∧ x = w') := fun x => by rw [← HMM.out]; exact implRowMade_any c.who (c.made + 1) x
        go_wp2_with fail
        refine wp_region_later (by kernel_rfl) (by kernel_rfl) ?_
        repeat (go_big_quiet_step ((go_at_call 49; (with_reducible exact later_same (HRM.out _)))))
        refine wpQuiet_nil ?_
        rintro wn ⟨u, rfl⟩
        have H4 := H3.below u.h lH
        have O4 := O3.below u.h lO
        have E4 := E3.below u.h E3.lt
        have al4 := al3.trans (But.of_below (u.h.mono al3.size))
        clear t1 t2 t3 lO lH H3 O3 E3 al3 HRM k0
        generalize u.x = w4 at *
        by_cases hid : o.id = mm
        · have HNO := Lib.hid (HDT.out hid)
          have hid2 : (o.id != mm) = false := by simp [hid]
          clear HDT HDF
          have m0 := H4.cell 285 hd.made
          have m1 := H4.frozen 285
          have H5 : Bx (w4.setCell ⟨B, 285, none⟩ (.int .i64 (c.made + 1))) B 60 (cs.setIfInBounds 285 (.int .i64 (c.made + 1))) := H4.put 285 _
          have E5 := E4.other (j := 285) (B' := B) (show n1 ≠ B by omega) (.int .i64 (c.made + 1))
          have al5 := al4.setCell 285 (.int .i64 (c.made + 1))
          have hd5 := hd.madeSet (c.made + 1)
          have hidk : Hid (o.id = mm) := hid
          clear hid H4 O4 E4 al4
          go_upto_region 8 with fail
          generalize w4.setCell ⟨B, 285, none⟩ (.int .i64 (c.made + 1)) = w5 at *
          clear m0 m1
          have f0 := E5.cell 0 rfl
          have f1 := E5.cell 1 rfl
          have f2 := E5.cell 2 rfl
          have f3 := E5.cell 3 rfl
          have f4 := E5.cell 4 rfl
          have f5 := E5.cell 5 rfl
          have f6 := E5.cell 6 rfl
          have HP : Hid (Calls Tryd.prog 47 #[.pointer (some ⟨B, 3, none⟩), .agg #[.int .i64 c.who, .int .i64 (c.done + c.wait.length + 1), .int .i64 o.kind, .int .i64 o.id, .int .i64 o.up, .int .i64 o.at_, .string o.txt]] w5.drew (RetRPut B ⟨c.who, c.seen, c.base, c.wait, c.done, c.made + 1⟩ v f (cent c o) w5.drew)) := put_ring B _ ⟨c.who, c.seen, c.base, c.wait, c.done, c.made + 1⟩ v f (cent c o) w5.drew H5.drew hd5 (by show c.wait.length < 40; omega) (by omega)
          go_wp2_with fail
          go_region_with ((go_at_call 47; (refine HP.out.mono ?_); rintro _ w6 ⟨rfl, cs', Q6, hV6, b6⟩))
          all_goals
            have HF : Hid (RetDDo B c o v f w (.returned (.bool true)) w6) := ⟨al5.drew.trans (b6.mono al5.drew.size), cs', Q6, .inr ⟨HNO.out, rfl, by rw [if_pos HK.out]; exact hV6⟩⟩
            clear Q6 hV6 b6 HP H5 E5 al5 hd5
            go_wp2
            go_ret
            exact HF.out
        · have HF : Hid (RetDDo B c o v f w (.returned (.bool false)) w4) := ⟨al4, cs, H4, .inl ⟨HDF.out hid, rfl, hd⟩⟩
          have hid2 : (o.id != mm) = true := by simp [hid]
          clear H4 O4 E4 al4 HDT HDF
          go_wp2
          go_ret
          exact HF.out
      · have HNO : Hid (doOk c o = true) := by unfold Hid; rw [HDK.out]; simp [hk]
        have hk2 : (o.kind == 1) = false := by simp [hk]
        have HK := Lib.hid hk
        have k0 := O3.cell 0 rfl
        clear HDK
        go_upto_region 8 with fail
        clear k0
        have f0 := E3.cell 0 rfl
        have f1 := E3.cell 1 rfl
        have f2 := E3.cell 2 rfl
        have f3 := E3.cell 3 rfl
        have f4 := E3.cell 4 rfl
        have f5 := E3.cell 5 rfl
        have f6 := E3.cell 6 rfl
        have HP : Hid (Calls Tryd.prog 47 #[.pointer (some ⟨B, 3, none⟩), .agg #[.int .i64 c.who, .int .i64 (c.done + c.wait.length + 1), .int .i64 o.kind, .int .i64 o.id, .int .i64 o.up, .int .i64 o.at_, .string o.txt]] w3.drew (RetRPut B c v f (cent c o) w3.drew)) := put_ring B _ c v f (cent c o) w3.drew H3.drew hd (by omega) (by omega)
        go_wp2_with fail
        go_region_with ((go_at_call 47; (refine HP.out.mono ?_); rintro _ w6 ⟨rfl, cs', Q6, hV6, b6⟩))
        all_goals
          have HF : Hid (RetDDo B c o v f w (.returned (.bool true)) w6) := ⟨al3.drew.trans (b6.mono al3.drew.size), cs', Q6, .inr ⟨HNO.out, rfl, by rw [if_neg HK.out]; exact hV6⟩⟩
          clear Q6 hV6 b6 HP H3 O3 E3 al3
          go_wp2
          go_ret
          exact HF.out
end Go.Proofs.YtogafpfgdonlmaaDoor
