/-
  Contract of the model's TreeOk. Conditions: the rows lie in memory as a slice of rows.
-/
import Derived.Test.YtefelnodahcolaaDoorTKids
import Derived.Deep.RegionHeld3
import Derived.Deep.DeepCutAuto
namespace Go.Proofs.YtefelnodahcolaaDoor
open Go.ChangeShapes Go.WideShapes Go.ChangeAt Go.RowKit Go.Joins

theorem step_bad1 {rs : List RowD} {k : Nat} (h : rowB (rat rs k).id (rat rs k).dep (rat rs k).txt = false) : stepB rs k = false := by simp [stepB, rokB, h]
theorem step_bad2 {rs : List RowD} {k : Nat} (h : riseB rs k = false) : stepB rs k = false := by simp [stepB, h]
theorem step_bad3 {rs : List RowD} {k : Nat} (h : rordB rs k = false) : stepB rs k = false := by simp [stepB, h]
theorem step_bad4 {rs : List RowD} {k j : Nat} (hj : j < k) (h : ((rat rs j).id == (rat rs k).id) = true) : stepB rs k = false := by
  have : freshTo rs k k = false := by
    rw [Bool.eq_false_iff]; intro g
    have := freshTo_iff.1 g j hj
    simp at h; exact this h
  simp [stepB, this]
theorem step_good {rs : List RowD} {k : Nat} (h1 : okTo rs k = true) (h2 : rowB (rat rs k).id (rat rs k).dep (rat rs k).txt = true) (h3 : riseB rs k = true) (h4 : rordB rs k = true) (h5 : freshTo rs k k = true) : okTo rs (k + 1) = true := by
  rw [okTo_succ, h1]; simp [stepB, rokB, h2, h3, h4, h5]
def badAt (rs : List RowD) (k : Nat) : Bool := !(rowB (rat rs k).id (rat rs k).dep (rat rs k).txt && riseB rs k)
theorem badAt_1 {rs : List RowD} {k : Nat} (h : rowB (rat rs k).id (rat rs k).dep (rat rs k).txt = false) : badAt rs k = true := by simp [badAt, h]
theorem badAt_0 {rs : List RowD} (h : rowB (rat rs 0).id (rat rs 0).dep (rat rs 0).txt = true) : badAt rs 0 = false := by simp [badAt, h, riseB]
theorem badAt_r {rs : List RowD} {k : Nat} (h : rowB (rat rs (k + 1)).id (rat rs (k + 1)).dep (rat rs (k + 1)).txt = true) : badAt rs (k + 1) = decide ((rat rs k).dep + 1 < (rat rs (k + 1)).dep) := by
  rw [Bool.eq_iff_iff]
  simp [badAt, h, riseB]
theorem step_rok {rs : List RowD} {k : Nat} (h : stepB rs k = true) : rokB (rat rs k) = true := by simp only [stepB, Bool.and_eq_true] at h; exact h.1.1.1
theorem badAt_not {rs : List RowD} {k : Nat} (h : badAt rs k = false) : rowB (rat rs k).id (rat rs k).dep (rat rs k).txt = true ∧ riseB rs k = true := by simpa [badAt] using h
theorem step_bad12 {rs : List RowD} {k : Nat} (h : badAt rs k = true) : stepB rs k = false := by
  cases h1 : rowB (rat rs k).id (rat rs k).dep (rat rs k).txt
  · exact step_bad1 h1
  · refine step_bad2 ?_
    simpa [badAt, h1] using h
theorem rord_not {rs : List RowD} {k : Nat} (h : rootB (rat rs k).id = false) : rordB rs k = true := by simp [rordB, h]
theorem nroots_not {rs : List RowD} {k : Nat} (h : rootB (rat rs k).id = false) : nroots rs (k + 1) = nroots rs k := by simp [nroots, h]
theorem nroots_yes {rs : List RowD} {k : Nat} (h : rootB (rat rs k).id = true) : nroots rs (k + 1) = nroots rs k + 1 := by simp [nroots, h]
theorem rord_yes {rs : List RowD} {k : Nat} (h : rootB (rat rs k).id = true) : rordB rs k = ((rat rs k).id == (nroots rs k : Int) + 1) := by simp [rordB, h]
theorem tree_no3 {rs : List RowD} (h : ((nroots rs rs.length : Int) == 3) = false) : treeB rs = false := by
  have : (nroots rs rs.length == 3) = false := by simp at h ⊢; omega
  simp [treeB, this]
theorem tree_yes3 {rs : List RowD} (h1 : okTo rs rs.length = true) (h : ((nroots rs rs.length : Int) == 3) = true) : treeB rs = ((rat rs 0).id == 1) := by
  have : (nroots rs rs.length == 3) = true := by simp at h ⊢; omega
  simp [treeB, this, h1]
theorem keep3 {w w1 : World} {b o o1 o2 : Nat} {v0 v1 v2 : Value} (hb : Below w.heap.size w w1) (hlt : b < w.heap.size) (c0 : w.cell? ⟨b, o, none⟩ = some v0) (c1 : w.cell? ⟨b, o1, none⟩ = some v1) (c2 : w.cell? ⟨b, o2, none⟩ = some v2) :
    w1.cell? ⟨b, o, none⟩ = some v0 ∧ w1.cell? ⟨b, o1, none⟩ = some v1 ∧ w1.cell? ⟨b, o2, none⟩ = some v2 :=
  ⟨(hb.cell (p := ⟨b, o, none⟩) hlt).trans c0, (hb.cell (p := ⟨b, o1, none⟩) hlt).trans c1, (hb.cell (p := ⟨b, o2, none⟩) hlt).trans c2⟩
set_option maxRecDepth 100000 in
set_option maxHeartbeats 1000000 in
theorem specTreeOk_any (B : Nat) (a : Option Addr) (cap : Nat) (rs : List RowD) (w : World) (hB : B ≤ w.heap.size) (h : RowsAt B w a rs) (hf : Fit rs) :
    Calls Tryd.prog 30 #[.slice a rs.length cap] w (RetBelow (.bool (treeB rs)) w) := by
  have hl := hf.1
  go_enter Tryd.func30, Tryd.ntmps30
  go_wp2_with fail
  go_loopw [3, 4] (fun r t wr => ∃ k : Nat, k ≤ rs.length ∧ t = .int .i64 k ∧ r = .int .i64 (nroots rs k) ∧ Hid (okTo rs k = true) ∧ Below w.heap.size w wr) (fun _ t _ => rs.length - (intOf t).toNat)
  case atStart => exact ⟨0, Nat.zero_le _, rfl, rfl, okTo_zero rs, Below.refl _ _⟩
  case round =>
    obtain ⟨k, hk, rfl, rfl, ho, hb⟩ := hrel
    have hr := h.below (hb.mono hB)
    have hn := nroots_le rs k
    by_cases hlt : k < rs.length
    · obtain ⟨b, off, rfl, hbB, c0, c1, c2⟩ := hr.at_ hlt
      have i1 : (k : Int) < (rs.length : Int) := by omega
      obtain ⟨f1, f2, f3⟩ := hf.2 k hlt
      have hbw : b < wr.heap.size := by have := hb.size; omega
      have CR : ∀ u : World, Calls Tryd.prog 54 #[.agg #[.int .i64 (rat rs k).id, .int .i64 (rat rs k).dep, .string (rat rs k).txt]] u (RetBelow (.bool (rowB (rat rs k).id (rat rs k).dep (rat rs k).txt)) u) := fun u => specRowOk_any (rat rs k).id (rat rs k).dep (rat rs k).txt u f1 f3
      have HC := Lib.hid CR
      clear CR
      go_upto_region 5 with fail
      go_cut [36] (fun s wx => s = .bool (badAt rs k) ∧ Below w.heap.size w wx)
      case first =>
        have L0 := later_cell c0 hbw
        have L1 := later_cell c1 hbw
        have L2 := later_cell c2 hbw
        cases hrow : rowB (rat rs k).id (rat rs k).dep (rat rs k).txt
        · have HF := Lib.hid (badAt_1 hrow)
          rw [hrow] at HC
          refine wp_region_later (by kernel_rfl) (by kernel_rfl) ?_
          repeat (go_big_quiet_step ((go_at_call 54; exact later_of (HC.out _))))
          refine wpQuiet_nil ?_
          rintro wn ⟨⟨_, hbn⟩, rfl⟩
          go_wp2_with fail
          go_meet
          exact ⟨by rw [HF.out], hb.trans (hbn.mono hb.size)⟩
        · rw [hrow] at HC
          by_cases hk0 : k = 0
          · have HF : Hid (badAt rs k = false) := by subst hk0; exact badAt_0 hrow
            have hd : decide (0 < k) = false := by simp; omega
            clear hk0
            refine wp_region_later (by kernel_rfl) (by kernel_rfl) ?_
            repeat (go_big_quiet_step ((go_at_call 54; exact later_of (HC.out _))))
            refine wpQuiet_nil ?_
            rintro wn ⟨⟨_, hbn⟩, rfl⟩
            go_wp2_with fail
            go_meet
            exact ⟨by rw [HF.out], hb.trans (hbn.mono hb.size)⟩
          · have HF : Hid (badAt rs k = decide ((rat rs (k - 1)).dep + 1 < (rat rs k).dep)) := by
              obtain ⟨q, rfl⟩ : ∃ q, k = q + 1 := ⟨k - 1, by omega⟩
              exact badAt_r hrow
            obtain ⟨b', off', e2, _, d0, d1, d2⟩ := hr.at_ (show k - 1 < rs.length by omega)
            cases e2
            have i3 : 0 < k := by omega
            have i4 : (0 : Int) ≤ (k : Int) - 1 := by omega
            have i5 : (k : Int) - 1 < (rs.length : Int) := by omega
            have M1 := later_cell d1 hbw
            have g5 : 0 ≤ (rat rs (k - 1)).dep ∧ (rat rs (k - 1)).dep ≤ 18 := rok_dep (step_rok (okTo_at ho.out (show k - 1 < k by omega)))
            have g6 := g5.1
            have g7 := g5.2
            clear g5
            have g8 : IntKind.i64.wrap ((rat rs (k - 1)).dep + 1) = (rat rs (k - 1)).dep + 1 := IntWalk.i64_in _ (by omega)
            clear hk0
            refine wp_region_later (by kernel_rfl) (by kernel_rfl) ?_
            repeat (go_big_quiet_step ((go_at_call 54; exact later_of (HC.out _))))
            refine wpQuiet_nil ?_
            rintro wn ⟨⟨_, hbn⟩, rfl⟩
            go_wp2_with fail
            go_meet
            exact ⟨by rw [HF.out], hb.trans (hbn.mono hb.size)⟩
      case rest =>
        obtain ⟨rfl, hbx⟩ := hcut
        have hrx := h.below (hbx.mono hB)
        obtain ⟨b', off', e2, _, d0, d1, d2⟩ := hrx.at_ hlt
        cases e2
        cases hbad : badAt rs k
        · obtain ⟨q1, q2⟩ := badAt_not hbad
          cases hroot : rootB (rat rs k).id
          · have HR := Lib.hid (rord_not hroot)
            have HN := Lib.hid (nroots_not hroot)
            go_wp2_with fail
            refine (l1Root_any _ _).mono ?_
            rintro e w' ⟨rfl, rfl⟩
            rw [hroot]
            go_wp2_with fail
            go_loopw [5] (fun t wr => ∃ j : Nat, j ≤ k ∧ t = .int .i64 j ∧ Hid (freshTo rs k j = true) ∧ Below w.heap.size w wr) (fun t _ => k - (intOf t).toNat)
            case atStart => exact ⟨0, Nat.zero_le _, rfl, rfl, hbx⟩
            case round =>
              obtain ⟨j, hj, rfl, hfr, hbj⟩ := hrel
              have hrj := h.below (hbj.mono hB)
              by_cases hjk : j < k
              · obtain ⟨b', off', e2, _, p0, p1, p2⟩ := hrj.at_ (show j < rs.length by omega)
                cases e2
                obtain ⟨b', off', e2, _, r0, r1, r2⟩ := hrj.at_ hlt
                cases e2
                have j1 : (j : Int) < (rs.length : Int) := by omega
                cases he : ((rat rs j).id == (rat rs k).id)
                · have HS : Hid (freshTo rs k (j + 1) = true) := by
                    show freshTo rs k (j + 1) = true
                    rw [freshTo_succ, hfr.out, he]; rfl
                  go_wp2
                  go_quiet (fail)
                  go_wp2
                  go_roundw
                  case rel => exact ⟨j + 1, by omega, by go_num, HS, below_drewN _ hbj⟩
                  case measure => simp [intOf]; omega
                · have HF := Lib.hid (treeB_bad hlt (step_bad4 hjk he))
                  go_wp2
                  go_quiet (fail)
                  go_wp2
                  go_ret
                  exact ⟨by rw [HF.out]; rfl, below_drewN _ hbj⟩
              · obtain rfl : j = k := by omega
                have HS := Lib.hid (step_good ho.out q1 q2 HR.out hfr.out)
                go_wp2
                go_roundw
                case rel => exact ⟨j + 1, by omega, by go_num, by rw [HN.out], HS, hbj⟩
                case measure => simp [intOf]; omega
          · have HN := Lib.hid (nroots_yes hroot)
            have HO := Lib.hid (rord_yes hroot)
            go_wp2_with fail
            refine (l1Root_any _ _).mono ?_
            rintro e w' ⟨rfl, rfl⟩
            rw [hroot]
            cases hid : ((rat rs k).id == (nroots rs k : Int) + 1)
            · have hid2 : ((rat rs k).id != (nroots rs k : Int) + 1) = true := by simp [bne, hid]
              have HF := Lib.hid (treeB_bad hlt (step_bad3 (HO.out.trans hid)))
              go_wp2
              go_ret
              exact ⟨by rw [HF.out]; rfl, hbx⟩
            have hid2 : ((rat rs k).id != (nroots rs k : Int) + 1) = false := by simp [bne, hid]
            have HR := Lib.hid (HO.out.trans hid)
            go_wp2_with fail
            go_loopw [5] (fun t wr => ∃ j : Nat, j ≤ k ∧ t = .int .i64 j ∧ Hid (freshTo rs k j = true) ∧ Below w.heap.size w wr) (fun t _ => k - (intOf t).toNat)
            case atStart => exact ⟨0, Nat.zero_le _, rfl, rfl, hbx⟩
            case round =>
              obtain ⟨j, hj, rfl, hfr, hbj⟩ := hrel
              have hrj := h.below (hbj.mono hB)
              by_cases hjk : j < k
              · obtain ⟨b', off', e2, _, p0, p1, p2⟩ := hrj.at_ (show j < rs.length by omega)
                cases e2
                obtain ⟨b', off', e2, _, r0, r1, r2⟩ := hrj.at_ hlt
                cases e2
                have j1 : (j : Int) < (rs.length : Int) := by omega
                cases he : ((rat rs j).id == (rat rs k).id)
                · have HS : Hid (freshTo rs k (j + 1) = true) := by
                    show freshTo rs k (j + 1) = true
                    rw [freshTo_succ, hfr.out, he]; rfl
                  go_wp2
                  go_quiet (fail)
                  go_wp2
                  go_roundw
                  case rel => exact ⟨j + 1, by omega, by go_num, HS, below_drewN _ hbj⟩
                  case measure => simp [intOf]; omega
                · have HF := Lib.hid (treeB_bad hlt (step_bad4 hjk he))
                  go_wp2
                  go_quiet (fail)
                  go_wp2
                  go_ret
                  exact ⟨by rw [HF.out]; rfl, below_drewN _ hbj⟩
              · obtain rfl : j = k := by omega
                have HS := Lib.hid (step_good ho.out q1 q2 HR.out hfr.out)
                go_wp2
                go_roundw
                case rel => exact ⟨j + 1, by omega, by go_num, by rw [HN.out]; go_num, HS, hbj⟩
                case measure => simp [intOf]; omega
        · have HF := Lib.hid (treeB_bad hlt (step_bad12 hbad))
          go_wp2
          go_ret
          exact ⟨by rw [HF.out]; rfl, hbx⟩
    · obtain rfl : k = rs.length := by omega
      cases h3 : ((nroots rs rs.length : Int) == 3)
      · have HF := Lib.hid (tree_no3 h3)
        go_wp2
        go_ret
        exact ⟨by rw [HF.out]; rfl, hb⟩
      · have HF := Lib.hid (tree_yes3 ho.out h3)
        have h4 : 0 < rs.length := by have : (nroots rs rs.length : Int) = 3 := by simpa using h3
                                      omega
        obtain ⟨b, off, rfl, _, c0, c1, c2⟩ := hr.at_ h4
        have i0 : (0 : Int) < (rs.length : Int) := by omega
        rw [Nat.zero_mul, Nat.add_zero] at c0
        go_wp2
        go_ret
        exact ⟨by rw [HF.out]; rfl, hb⟩
end Go.Proofs.YtefelnodahcolaaDoor
