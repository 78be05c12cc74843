/-
  Contract of the model's ClientDo. Conditions: as each theorem says.
-/
import Derived.Test.YtogafpfgdonlmaaDoorJCliS3
import Derived.Test.YtogafpfgdonlmaaDoorJCliS1
import Derived.Deep.RegionHeld3
namespace Go.Proofs.YtogafpfgdonlmaaDoor
open Go.ChangeShapes Go.WideShapes Go.ChangeAt Go.RowKit Go.Joins Go.Deep

theorem retDo_no {c : CliD} {o : OpD} {ba wa : Option Addr} {bc wc : Nat} {w w' : World} {r : Ending} (h : doOk c o = false) (q : RetDo c o ba bc wa wc w r w') : r = .returned (.tuple #[.agg #[.int .i64 c.who, .int .i64 c.seen, .slice ba c.base.length bc, .slice wa c.wait.length wc, .int .i64 c.done, .int .i64 c.made], .bool false]) := by
  rcases q.2 with ⟨_, q5⟩ | ⟨q5, _⟩
  · exact q5
  · rw [h] at q5; cases q5
theorem retDo_yes {c : CliD} {o : OpD} {ba wa : Option Addr} {bc wc : Nat} {w w' : World} {r : Ending} (h : doOk c o = true) (q : RetDo c o ba bc wa wc w r w') : ∃ g k, r = .returned (.tuple #[.agg #[.int .i64 c.who, .int .i64 c.seen, .slice ba c.base.length bc, .slice (some ⟨g, 0, none⟩) (c.wait.length + 1) k, .int .i64 c.done, .int .i64 (if o.kind = 1 then c.made + 1 else c.made)], .bool true]) ∧ OwnG w.heap.size w' g k (c.wait ++ [cent c o]) := by
  rcases q.2 with ⟨q5, _⟩ | ⟨_, q5⟩
  · rw [h] at q5; cases q5
  · exact q5
set_option maxRecDepth 100000 in
set_option maxHeartbeats 4000000 in
theorem specClientDo_any (c : CliD) (o : OpD) (bb bo bc wb wo wc : Nat) (w : World) (h : CliAt w.heap.size w c (some ⟨bb, bo, none⟩) bc (some ⟨wb, wo, none⟩) wc) (hbb : bb < w.heap.size) (hwb : wb < w.heap.size) (hf : CliFit c) (ho : OpFit o) :
    Calls Tryd.prog 7 #[.agg #[.int .i64 c.who, .int .i64 c.seen, .slice (some ⟨bb, bo, none⟩) c.base.length bc, .slice (some ⟨wb, wo, none⟩) c.wait.length wc, .int .i64 c.done, .int .i64 c.made], .agg #[.int .i64 o.kind, .int .i64 o.id, .int .i64 o.up, .int .i64 o.at_, .string o.txt]] w (RetCliB (cliDo c o) false (cliDoB c o) w) := by
  have L0 : Below w.heap.size w (((w.alloc (.cells #[.int .i64 c.who, .int .i64 c.seen, .slice (some ⟨bb, bo, none⟩) c.base.length bc, .slice (some ⟨wb, wo, none⟩) c.wait.length wc, .int .i64 c.done, .int .i64 c.made] 33)).alloc (.cells #[.int .i64 o.kind, .int .i64 o.id, .int .i64 o.up, .int .i64 o.at_, .string o.txt] 37)).alloc (.cells #[.int .i64 0, .int .i64 0, .slice none 0 0, .slice none 0 0, .int .i64 0, .int .i64 0] 33)) := (((Below.refl _ _).alloc (Nat.le_refl _) _).alloc (by simp) _).alloc (by simp; omega) _
  have X0 : Bx (((w.alloc (.cells #[.int .i64 c.who, .int .i64 c.seen, .slice (some ⟨bb, bo, none⟩) c.base.length bc, .slice (some ⟨wb, wo, none⟩) c.wait.length wc, .int .i64 c.done, .int .i64 c.made] 33)).alloc (.cells #[.int .i64 o.kind, .int .i64 o.id, .int .i64 o.up, .int .i64 o.at_, .string o.txt] 37)).alloc (.cells #[.int .i64 0, .int .i64 0, .slice none 0 0, .slice none 0 0, .int .i64 0, .int .i64 0] 33)) w.heap.size 33 #[.int .i64 c.who, .int .i64 c.seen, .slice (some ⟨bb, bo, none⟩) c.base.length bc, .slice (some ⟨wb, wo, none⟩) c.wait.length wc, .int .i64 c.done, .int .i64 c.made] := ((Bx.new w _ _).alloc _).alloc _
  have O0 : Bx (((w.alloc (.cells #[.int .i64 c.who, .int .i64 c.seen, .slice (some ⟨bb, bo, none⟩) c.base.length bc, .slice (some ⟨wb, wo, none⟩) c.wait.length wc, .int .i64 c.done, .int .i64 c.made] 33)).alloc (.cells #[.int .i64 o.kind, .int .i64 o.id, .int .i64 o.up, .int .i64 o.at_, .string o.txt] 37)).alloc (.cells #[.int .i64 0, .int .i64 0, .slice none 0 0, .slice none 0 0, .int .i64 0, .int .i64 0] 33)) (w.heap.size + 1) 37 #[.int .i64 o.kind, .int .i64 o.id, .int .i64 o.up, .int .i64 o.at_, .string o.txt] := by
    have q := (Bx.new (w.alloc (.cells #[.int .i64 c.who, .int .i64 c.seen, .slice (some ⟨bb, bo, none⟩) c.base.length bc, .slice (some ⟨wb, wo, none⟩) c.wait.length wc, .int .i64 c.done, .int .i64 c.made] 33)) 37 #[.int .i64 o.kind, .int .i64 o.id, .int .i64 o.up, .int .i64 o.at_, .string o.txt]).alloc (.cells #[.int .i64 0, .int .i64 0, .slice none 0 0, .slice none 0 0, .int .i64 0, .int .i64 0] 33)
    rw [World.size_alloc] at q
    exact q
  have Y0 : Bx (((w.alloc (.cells #[.int .i64 c.who, .int .i64 c.seen, .slice (some ⟨bb, bo, none⟩) c.base.length bc, .slice (some ⟨wb, wo, none⟩) c.wait.length wc, .int .i64 c.done, .int .i64 c.made] 33)).alloc (.cells #[.int .i64 o.kind, .int .i64 o.id, .int .i64 o.up, .int .i64 o.at_, .string o.txt] 37)).alloc (.cells #[.int .i64 0, .int .i64 0, .slice none 0 0, .slice none 0 0, .int .i64 0, .int .i64 0] 33)) (w.heap.size + 2) 33 #[.int .i64 0, .int .i64 0, .slice none 0 0, .slice none 0 0, .int .i64 0, .int .i64 0] := by
    have q := Bx.new ((w.alloc (.cells #[.int .i64 c.who, .int .i64 c.seen, .slice (some ⟨bb, bo, none⟩) c.base.length bc, .slice (some ⟨wb, wo, none⟩) c.wait.length wc, .int .i64 c.done, .int .i64 c.made] 33)).alloc (.cells #[.int .i64 o.kind, .int .i64 o.id, .int .i64 o.up, .int .i64 o.at_, .string o.txt] 37)) 33 #[.int .i64 0, .int .i64 0, .slice none 0 0, .slice none 0 0, .int .i64 0, .int .i64 0]
    rw [World.size_alloc, World.size_alloc] at q
    exact q
  go_enter Tryd.func7, Tryd.ntmps7
  go_upto_region 1 with fail
  generalize (((w.alloc (.cells #[.int .i64 c.who, .int .i64 c.seen, .slice (some ⟨bb, bo, none⟩) c.base.length bc, .slice (some ⟨wb, wo, none⟩) c.wait.length wc, .int .i64 c.done, .int .i64 c.made] 33)).alloc (.cells #[.int .i64 o.kind, .int .i64 o.id, .int .i64 o.up, .int .i64 o.at_, .string o.txt] 37)).alloc (.cells #[.int .i64 0, .int .i64 0, .slice none 0 0, .slice none 0 0, .int .i64 0, .int .i64 0] 33)) = w1 at *
  obtain ⟨x0, x1, x2, x3, x4, x5⟩ := X0.cli
  go_wp2_with fail
  refine (specClientOk_any w.heap.size c _ _ bc wc _ L0.size (h.below L0) hf).mono ?_
  rintro _ w2 ⟨rfl, b2⟩
  have X2 := X0.below b2 X0.lt
  have O2 := O0.below b2 O0.lt
  have Y2 := Y0.below b2 Y0.lt
  have L2 := L0.trans (b2.mono L0.size)
  clear X0 O0 Y0 L0 b2 x0 x1 x2 x3 x4 x5
  cases hok : cliB c
  · have HZ := Lib.hid (do_no (o := o) hok)
    obtain ⟨d0, d1, d2, d3, d4, d5⟩ := Y2.cli
    obtain ⟨y0, y1, y2, y3, y4, y5⟩ := Y2.cliF
    clear hok X2 O2 Y2
    go_wp2
    exact bodyPost_ret (v := .tuple #[.agg #[.int .i64 0, .int .i64 0, .slice none 0 0, .slice none 0 0, .int .i64 0, .int .i64 0], .bool false]) (by simp [results, Tryd.results7, go_sem, d0, d1, d2, d3, d4, d5]) rfl (retCliB_zero (r := w.heap.size + 2) HZ.out rfl (by omega) L2 _ _ _ _ _ _)
  · have HSM := Lib.hid (cliSm_of hok)
    have HIS := Lib.hid (fun q => do_is (o := o) hok q)
    have HSA := Lib.hid (fun q => cdo_same (o := o) hok q)
    have hbl := hf.base.1
    have hwl := hf.wait.1
    have bd := (Below.refl w2.heap.size w2).drew
    have hl2 := L2.size
    have hbb2 := Nat.lt_of_lt_of_le hbb hl2
    have hwb2 := Nat.lt_of_lt_of_le hwb hl2
    have HCP := Lib.hid (l21Copy_any c bb bo bc wb wo wc w2.drew ((h.below (L2.trans (bd.mono hl2))).mono (by exact hl2)) hbb2 hwb2 hbl hwl)
    obtain ⟨x0, x1, x2, x3, x4, x5⟩ := X2.cli
    have lX := X2.lt
    have lO := O2.lt
    have HSb : Hid (∀ x : World, Below w2.heap.size w2 x → (x.cell? ⟨w.heap.size, 0, none⟩ = some (.int .i64 c.who) ∧ x.cell? ⟨w.heap.size, 1, none⟩ = some (.int .i64 c.seen) ∧ x.cell? ⟨w.heap.size, 2, none⟩ = some (.slice (some ⟨bb, bo, none⟩) c.base.length bc) ∧ x.cell? ⟨w.heap.size, 3, none⟩ = some (.slice (some ⟨wb, wo, none⟩) c.wait.length wc) ∧ x.cell? ⟨w.heap.size, 4, none⟩ = some (.int .i64 c.done) ∧ x.cell? ⟨w.heap.size, 5, none⟩ = some (.int .i64 c.made)) ∧ x.cell? ⟨w.heap.size + 1, 0, none⟩ = some (.int .i64 o.kind) ∧ x.cell? ⟨w.heap.size + 1, 1, none⟩ = some (.int .i64 o.id) ∧ x.cell? ⟨w.heap.size + 1, 2, none⟩ = some (.int .i64 o.up) ∧ x.cell? ⟨w.heap.size + 1, 3, none⟩ = some (.int .i64 o.at_) ∧ x.cell? ⟨w.heap.size + 1, 4, none⟩ = some (.string o.txt)) := fun x hx => ⟨(X2.below hx lX).cli, (O2.below hx lO).cell 0 rfl, (O2.below hx lO).cell 1 rfl, (O2.below hx lO).cell 2 rfl, (O2.below hx lO).cell 3 rfl, (O2.below hx lO).cell 4 rfl⟩
    have k0 := HSb.out _ bd
    have hY2 := Y2.lt
    cases hdk : doOk c o
    · have HZ := Lib.hid (HSA.out hdk)
      have HDO : Hid (∀ (x : World) (ba : Option Addr) (b2 g k : Nat), CliAt x.heap.size x c ba b2 (some ⟨g, 0, none⟩) k → g < x.heap.size → Calls Tryd.prog 22 #[.agg #[.int .i64 c.who, .int .i64 c.seen, .slice ba c.base.length b2, .slice (some ⟨g, 0, none⟩) c.wait.length k, .int .i64 c.done, .int .i64 c.made], .agg #[.int .i64 o.kind, .int .i64 o.id, .int .i64 o.up, .int .i64 o.at_, .string o.txt]] x (fun r w' => r = .returned (.tuple #[.agg #[.int .i64 c.who, .int .i64 c.seen, .slice ba c.base.length b2, .slice (some ⟨g, 0, none⟩) c.wait.length k, .int .i64 c.done, .int .i64 c.made], .bool false]) ∧ Below x.heap.size x w')) := fun x ba b2 g k q q2 => (l21Do_any c o ba b2 g 0 k x q q2 HSM.out ho).mono fun r w' q3 => ⟨retDo_no hdk q3, q3.1⟩
      clear HIS HSA hdk hok
      go_wp2_with fail
      go_region_held3 (fun x : World => (x.cell? ⟨w.heap.size, 0, none⟩ = some (.int .i64 c.who) ∧ x.cell? ⟨w.heap.size, 1, none⟩ = some (.int .i64 c.seen) ∧ x.cell? ⟨w.heap.size, 2, none⟩ = some (.slice (some ⟨bb, bo, none⟩) c.base.length bc) ∧ x.cell? ⟨w.heap.size, 3, none⟩ = some (.slice (some ⟨wb, wo, none⟩) c.wait.length wc) ∧ x.cell? ⟨w.heap.size, 4, none⟩ = some (.int .i64 c.done) ∧ x.cell? ⟨w.heap.size, 5, none⟩ = some (.int .i64 c.made)) ∧ x.cell? ⟨w.heap.size + 1, 0, none⟩ = some (.int .i64 o.kind) ∧ x.cell? ⟨w.heap.size + 1, 1, none⟩ = some (.int .i64 o.id) ∧ x.cell? ⟨w.heap.size + 1, 2, none⟩ = some (.int .i64 o.up) ∧ x.cell? ⟨w.heap.size + 1, 3, none⟩ = some (.int .i64 o.at_) ∧ x.cell? ⟨w.heap.size + 1, 4, none⟩ = some (.string o.txt)) (first | (with_reducible exact k0) | (with_reducible exact k1) | (with_reducible exact k2) | (exact ⟨(Bx.given6 X4 (by omega) _ _ _ _ _ _).cli, (Bx.given6 O4 (by omega) _ _ _ _ _ _).cell 0 rfl, (Bx.given6 O4 (by omega) _ _ _ _ _ _).cell 1 rfl, (Bx.given6 O4 (by omega) _ _ _ _ _ _).cell 2 rfl, (Bx.given6 O4 (by omega) _ _ _ _ _ _).cell 3 rfl, (Bx.given6 O4 (by omega) _ _ _ _ _ _).cell 4 rfl⟩)) (first
        | (go_at_call 23; (refine HCP.out.mono ?_); rintro _ w3 ⟨ba3, bc3, wa3, wc3, rfl, G3, S3, b3⟩; obtain ⟨g, h', rfl, rfl, p1, p2, p3, p4⟩ := S3 rfl; have e3 := bd.trans b3; have k1 := HSb.out _ e3)
        | (go_at_call 22; (refine (HDO.out w3 _ bc3 h' wc3 G3.at_ p4).mono ?_); rintro _ w4 ⟨rfl, b4⟩; have e4 := e3.trans (b4.mono e3.size); have k2 := HSb.out _ e4; have X4 := X2.below e4 lX; have O4 := O2.below e4 lO; have Y4 := Y2.below e4 hY2; have G4 := G3.below b4 (Nat.le_refl _); have L4 := L2.trans (e4.mono L2.size); obtain ⟨d0, d1, d2, d3, d4, d5⟩ := Y4.cli; obtain ⟨y0, y1, y2, y3, y4, y5⟩ := Y4.cliF))
      all_goals
        have hg4 := Nat.lt_of_lt_of_le p2 b4.size
        have hh4 := Nat.lt_of_lt_of_le p4 b4.size
        have hp1 : w2.heap.size ≤ g := p1
        have hp3 : w2.heap.size ≤ h' := p3
        have HF := Lib.hid (fun v0 v1 v2 v3 v4 v5 => retCliB_put (w := w) (w3 := w4) (c := c) (told := false) (nn := false) (r := w.heap.size + 2) G4 hl2 (by omega) (by omega) (by omega) (by omega) hg4 (by omega) hh4 L4 v0 v1 v2 v3 v4 v5)
        clear X2 O2 Y2 X4 O4 Y4 G3 G4 k0 k1 k2 HSb HCP HDO
        go_wp2
        exact bodyPost_ret (v := .tuple #[.agg #[.int .i64 c.who, .int .i64 c.seen, .slice (some ⟨g, 0, none⟩) c.base.length bc3, .slice (some ⟨h', 0, none⟩) c.wait.length wc3, .int .i64 c.done, .int .i64 c.made], .bool false]) (by simp [results, Tryd.results7, go_sem, d0, d1, d2, d3, d4, d5]) rfl (by rw [HZ.out.1, HZ.out.2]; exact HF.out _ _ _ _ _ _)
    · have HZ := Lib.hid (HIS.out hdk)
      have HDO : Hid (∀ (x : World) (ba : Option Addr) (b2 g k : Nat), CliAt x.heap.size x c ba b2 (some ⟨g, 0, none⟩) k → g < x.heap.size → Calls Tryd.prog 22 #[.agg #[.int .i64 c.who, .int .i64 c.seen, .slice ba c.base.length b2, .slice (some ⟨g, 0, none⟩) c.wait.length k, .int .i64 c.done, .int .i64 c.made], .agg #[.int .i64 o.kind, .int .i64 o.id, .int .i64 o.up, .int .i64 o.at_, .string o.txt]] x (fun r w' => (∃ g' k', r = .returned (.tuple #[.agg #[.int .i64 c.who, .int .i64 c.seen, .slice ba c.base.length b2, .slice (some ⟨g', 0, none⟩) (c.wait.length + 1) k', .int .i64 c.done, .int .i64 (if o.kind = 1 then c.made + 1 else c.made)], .bool true]) ∧ OwnG x.heap.size w' g' k' (c.wait ++ [cent c o])) ∧ Below x.heap.size x w')) := fun x ba b2 g k q q2 => (l21Do_any c o ba b2 g 0 k x q q2 HSM.out ho).mono fun r w' q3 => ⟨retDo_yes hdk q3, q3.1⟩
      clear HIS HSA hdk hok
      generalize (if o.kind = 1 then c.made + 1 else c.made) = md at *
      go_wp2_with fail
      go_region_held3 (fun x : World => (x.cell? ⟨w.heap.size, 0, none⟩ = some (.int .i64 c.who) ∧ x.cell? ⟨w.heap.size, 1, none⟩ = some (.int .i64 c.seen) ∧ x.cell? ⟨w.heap.size, 2, none⟩ = some (.slice (some ⟨bb, bo, none⟩) c.base.length bc) ∧ x.cell? ⟨w.heap.size, 3, none⟩ = some (.slice (some ⟨wb, wo, none⟩) c.wait.length wc) ∧ x.cell? ⟨w.heap.size, 4, none⟩ = some (.int .i64 c.done) ∧ x.cell? ⟨w.heap.size, 5, none⟩ = some (.int .i64 c.made)) ∧ x.cell? ⟨w.heap.size + 1, 0, none⟩ = some (.int .i64 o.kind) ∧ x.cell? ⟨w.heap.size + 1, 1, none⟩ = some (.int .i64 o.id) ∧ x.cell? ⟨w.heap.size + 1, 2, none⟩ = some (.int .i64 o.up) ∧ x.cell? ⟨w.heap.size + 1, 3, none⟩ = some (.int .i64 o.at_) ∧ x.cell? ⟨w.heap.size + 1, 4, none⟩ = some (.string o.txt)) (first | (with_reducible exact k0) | (with_reducible exact k1) | (with_reducible exact k2) | (exact ⟨(Bx.given6 X4 (by omega) _ _ _ _ _ _).cli, (Bx.given6 O4 (by omega) _ _ _ _ _ _).cell 0 rfl, (Bx.given6 O4 (by omega) _ _ _ _ _ _).cell 1 rfl, (Bx.given6 O4 (by omega) _ _ _ _ _ _).cell 2 rfl, (Bx.given6 O4 (by omega) _ _ _ _ _ _).cell 3 rfl, (Bx.given6 O4 (by omega) _ _ _ _ _ _).cell 4 rfl⟩)) (first
        | (go_at_call 23; (refine HCP.out.mono ?_); rintro _ w3 ⟨ba3, bc3, wa3, wc3, rfl, G3, S3, b3⟩; obtain ⟨g, h', rfl, rfl, p1, p2, p3, p4⟩ := S3 rfl; have e3 := bd.trans b3; have k1 := HSb.out _ e3)
        | (go_at_call 22; (refine (HDO.out w3 _ bc3 h' wc3 G3.at_ p4).mono ?_); rintro _ w4 ⟨⟨g', k', rfl, N4⟩, b4⟩; have e4 := e3.trans (b4.mono e3.size); have k2 := HSb.out _ e4; have X4 := X2.below e4 lX; have O4 := O2.below e4 lO; have Y4 := Y2.below e4 hY2; have G4 := G3.below b4 (Nat.le_refl _); have L4 := L2.trans (e4.mono L2.size); obtain ⟨d0, d1, d2, d3, d4, d5⟩ := Y4.cli; obtain ⟨y0, y1, y2, y3, y4, y5⟩ := Y4.cliF))
      all_goals
        have hg4 := Nat.lt_of_lt_of_le p2 b4.size
        have hh4 := N4.hi
        have hp1 : w2.heap.size ≤ g := p1
        have hp3 : w2.heap.size ≤ g' := Nat.le_trans e3.size N4.lo
        have hlen : (c.wait ++ [cent c o]).length = c.wait.length + 1 := by simp
        have C4 : CliGot w2.heap.size w4 ⟨c.who, c.seen, c.base, c.wait ++ [cent c o], c.done, md⟩ (some ⟨g, 0, none⟩) bc3 (some ⟨g', 0, none⟩) k' := ⟨G4.rows, N4.got.base e3.size, G4.bl, G4.bm, N4.len, N4.cap⟩
        have HF := Lib.hid (fun v0 v1 v2 v3 v4 v5 => retCliB_put (w := w) (w3 := w4) (c := ⟨c.who, c.seen, c.base, c.wait ++ [cent c o], c.done, md⟩) (told := true) (nn := false) (r := w.heap.size + 2) C4 hl2 (by omega) (by omega) (by omega) (by omega) hg4 (by omega) hh4 L4 v0 v1 v2 v3 v4 v5)
        simp only [hlen] at HF
        clear X2 O2 Y2 X4 O4 Y4 G3 G4 k0 k1 k2 HSb HCP HDO C4 N4
        go_wp2
        exact bodyPost_ret (v := .tuple #[.agg #[.int .i64 c.who, .int .i64 c.seen, .slice (some ⟨g, 0, none⟩) c.base.length bc3, .slice (some ⟨g', 0, none⟩) (c.wait.length + 1) k', .int .i64 c.done, .int .i64 md], .bool true]) (by simp [results, Tryd.results7, go_sem, d0, d1, d2, d3, d4, d5]) rfl (by rw [HZ.out.1, HZ.out.2]; exact HF.out _ _ _ _ _ _)
end Go.Proofs.YtogafpfgdonlmaaDoor
