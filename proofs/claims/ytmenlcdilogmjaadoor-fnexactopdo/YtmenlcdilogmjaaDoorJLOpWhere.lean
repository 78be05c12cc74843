/-
  The walk of the law FnExactOpWhere out of the contracts. Conditions: the arguments read as rows and a change; the table 'creators' holds what its initialiser lays.
-/
import Derived.Test.YtmenlcdilogmjaaDoorGD
namespace Go.Proofs.YtmenlcdilogmjaaDoor
open Go.ChangeShapes Go.WideShapes Go.ChangeAt Go.RowKit Go.Joins

theorem opargs_at {w w1 : World} {o : OpD} (hb : Below (w.alloc (.cells #[.int .i64 o.kind, .int .i64 o.id, .int .i64 o.up, .int .i64 o.at_, .string o.txt] 24)).heap.size (w.alloc (.cells #[.int .i64 o.kind, .int .i64 o.id, .int .i64 o.up, .int .i64 o.at_, .string o.txt] 24)) w1) :
    w1.cell? ⟨w.heap.size, 0, none⟩ = some (.int .i64 o.kind) ∧ w1.cell? ⟨w.heap.size, 1, none⟩ = some (.int .i64 o.id) ∧ w1.cell? ⟨w.heap.size, 2, none⟩ = some (.int .i64 o.up) ∧ w1.cell? ⟨w.heap.size, 3, none⟩ = some (.int .i64 o.at_) ∧ w1.cell? ⟨w.heap.size, 4, none⟩ = some (.string o.txt) := by
  have hlt : w.heap.size < (w.alloc (.cells #[.int .i64 o.kind, .int .i64 o.id, .int .i64 o.up, .int .i64 o.at_, .string o.txt] 24)).heap.size := by simp
  refine ⟨?_, ?_, ?_, ?_, ?_⟩
  · rw [hb.cell (p := ⟨w.heap.size, 0, none⟩) hlt]; simp [go_sem]
  · rw [hb.cell (p := ⟨w.heap.size, 1, none⟩) hlt]; simp [go_sem]
  · rw [hb.cell (p := ⟨w.heap.size, 2, none⟩) hlt]; simp [go_sem]
  · rw [hb.cell (p := ⟨w.heap.size, 3, none⟩) hlt]; simp [go_sem]
  · rw [hb.cell (p := ⟨w.heap.size, 4, none⟩) hlt]; simp [go_sem]
set_option maxRecDepth 100000 in
set_option maxHeartbeats 4000000 in
theorem fnExactOpWhere_walk (w : World) (ht : Tab w) (a : Option Addr) (cap : Nat) (rs : List RowD) (hm : rs.length ≤ maxLen) (h : RowsAt w.heap.size w a rs) (hf : FitW rs) (o : OpD) (ho : OpFit o) :
    Calls Tryd.prog 3 #[.slice a rs.length cap, .agg #[.int .i64 o.kind, .int .i64 o.id, .int .i64 o.up, .int .i64 o.at_, .string o.txt]] w fun e w' => e = .returned (.bool true) ∧ Below w.heap.size w w' := by
  have hz := ht.pos
  have hb0 : Below w.heap.size w (w.alloc (.cells #[.int .i64 o.kind, .int .i64 o.id, .int .i64 o.up, .int .i64 o.at_, .string o.txt] 24)) := (Below.refl _ _).alloc (Nat.le_refl _) _
  go_enter Tryd.func3, Tryd.ntmps3
  go_wp2_with fail
  refine (szRowS_bd w.heap.size _ _ _ _ hb0.size (h.below hb0) hf hm).mono ?_
  rintro e w1 ⟨z, rfl, hz', hb1'⟩
  have HX := Lib.hid (opargs_at (w := w) (o := o) hb1')
  have hb1 := hb0.trans (hb1'.mono hb0.size)
  rcases hz' with hneg | ⟨hpos, hz1, hl⟩
  · go_wp2
    go_ret
    exact ⟨rfl, hb1⟩
  · have hfit := Lib.hid (fit_of hf hl)
    have r1 := h.below hb1
    obtain ⟨x0, x1, x2, x3, x4⟩ := HX.out
    go_wp2_with fail
    refine (szOp_any o z _ ho.txt hz1 hpos).mono ?_
    rintro e w2 ⟨z2, rfl, hb2'⟩
    have hb12 := hb1'.trans (hb2'.mono hb1'.size)
    clear x0 x1 x2 x3 x4 HX
    obtain ⟨x0, x1, x2, x3, x4⟩ := opargs_at (w := w) (o := o) hb12
    have b2 := hb1.trans (hb2'.mono hb1.size)
    clear hb2' hb1' hb1
    by_cases hz2 : z2 < 0
    · go_wp2
      go_ret
      exact ⟨rfl, b2⟩
    · have HB : Hid (∀ x, Below w2.heap.size w2 x → x.cell? ⟨w.heap.size, 0, none⟩ = some (.int .i64 o.kind) ∧ x.cell? ⟨w.heap.size, 1, none⟩ = some (.int .i64 o.id) ∧ x.cell? ⟨w.heap.size, 2, none⟩ = some (.int .i64 o.up) ∧ x.cell? ⟨w.heap.size, 3, none⟩ = some (.int .i64 o.at_) ∧ x.cell? ⟨w.heap.size, 4, none⟩ = some (.string o.txt)) := fun x hx => opargs_at (w := w) (o := o) (hb12.trans (hx.mono hb12.size))
      have r2d : RowsAt w.heap.size w2.drew a rs := h.below (b2.trans ((Below.refl _ _).drew))
      have hs2 : w.heap.size ≤ w2.drew.heap.size := b2.size
      have hd2 : Below w2.heap.size w2 w2.drew := (Below.refl _ _).drew
      clear hb12
      go_upto_region 8 with fail
      go_cut [6, 7, 8] (fun p q s wx => p = .int .i64 (owU rs o) ∧ q = .int .i64 (owA rs o) ∧ s = .bool (owB rs o) ∧ Below w2.heap.size w2 wx)
      case first =>
        go_region_with (first
          | (go_at_call 23; refine (toRowS_any w.heap.size _ _ _ _ hs2 r2d hl).mono ?_; rintro e w3 ⟨g1, rfl, hg1, o1, hb3⟩; have hb3' := hd2.trans hb3; obtain ⟨y0, y1, y2, y3, y4⟩ := HB.out w3 hb3')
          | (go_at_call 24; refine (toOp_any o _).mono ?_; rintro e w4 ⟨rfl, hb4⟩; have o4 := o1.below hb4 o1.lt)
          | (go_at_call 22; refine (specOpWhere_any w4.heap.size _ _ _ o _ (Nat.le_refl _) (o4.at_ o4.lt) hfit.out ho).mono ?_; rintro e w5 ⟨rfl, hb5⟩; have hb35 := hb3'.trans (hb4.mono hb3'.size); have hb45 := hb35.trans (hb5.mono hb35.size)))
        all_goals
          go_wp2
          go_meet
          exact ⟨rfl, rfl, rfl, hb45⟩
      case rest =>
        obtain ⟨rfl, rfl, rfl, hbc⟩ := hcut
        have bc := b2.trans (hbc.mono b2.size)
        have rc := h.below bc
        clear r2d hs2 hd2 x0 x1 x2 x3 x4 r1
        go_wp2_with fail
        refine (toRowS_any w.heap.size _ _ _ _ bc.size rc hl).mono ?_
        rintro e w6 ⟨g2, rfl, hg2, o2, hb6⟩
        have hb26 := hbc.trans (hb6.mono hbc.size)
        have b6 := bc.trans (hb6.mono bc.size)
        obtain ⟨y0, y1, y2, y3, y4⟩ := HB.out w6 hb26
        have hd6 : Below w6.heap.size w6 w6.drew := (Below.refl _ _).drew
        generalize hUU : owU rs o = UU at *
        generalize hAA : owA rs o = AA at *
        generalize hBB : owB rs o = BB at *
        have HW : Hid (owU rs o = UU ∧ owA rs o = AA ∧ owB rs o = BB) := ⟨hUU, hAA, hBB⟩
        clear hUU hAA hBB hbc rc hb6
        clear hd6
        go_wp2_with fail
        refine (toOp_any o _).mono ?_
        rintro e w7 ⟨rfl, hb7⟩
        have o7 := o2.below hb7 o2.lt
        have b7 := b6.trans (hb7.mono b6.size)
        clear o2 hb7 y0 y1 y2 y3 y4
        go_wp2_with fail
        refine (implOpWhere_any w7.heap.size _ _ _ o _ (Nat.le_refl _) (o7.at_ o7.lt) hfit.out ho (ht.below b7 hz)).mono ?_
        rintro e w8 ⟨rfl, hb8⟩
        rw [HW.out.1, HW.out.2.1, HW.out.2.2]
        have o8 := o7.below hb8 o7.lt
        have b8 := b7.trans (hb8.mono b7.size)
        have r8 := h.below b8
        clear o7 hb8
        go_wp2_with fail
        refine (toRowS_any w.heap.size _ _ _ _ b8.size r8 hl).mono ?_
        rintro e w9 ⟨g3, rfl, hg3, o3, hb9⟩
        have b9 := b8.trans (hb9.mono b8.size)
        have o9 := o8.below hb9 o8.lt
        clear o8 hb9 r8
        go_wp2_with fail
        refine (eqRowS_same w9.heap.size _ _ _ _ _ _ (Nat.le_refl _) (o9.at_ o9.lt) (o3.at_ o3.lt) hl).mono ?_
        rintro e wa ⟨rfl, hba⟩
        go_wp2
        go_ret
        exact ⟨rfl, b9.trans (hba.mono b9.size)⟩
end Go.Proofs.YtmenlcdilogmjaaDoor
