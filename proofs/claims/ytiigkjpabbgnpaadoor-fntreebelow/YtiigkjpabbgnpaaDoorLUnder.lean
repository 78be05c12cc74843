/-
  The walk of the law FnTreeUnder out of the contracts. Conditions: the argument reads as bytes; the table 'creators' holds what its initialiser lays.
-/
import Derived.Test.YtiigkjpabbgnpaaDoorLDeep
import Derived.Test.YtiigkjpabbgnpaaDoorTImpl2
namespace Go.Proofs.YtiigkjpabbgnpaaDoor
open Go.ChangeShapes Go.WideShapes Go.ChangeAt Go.RowKit Go.Joins

theorem undT_node {rs : List RowD} {z u : Int} (ht : treeB rs = true) (hz : atN rs z < rs.length) (hu : atN rs u < rs.length) : undT rs z u = true ↔ un (dp rs) (rs.length + 1) (atN rs z + 1) (atN rs u + 1) := by
  unfold un
  rw [en_shift hu]
  simp only [undT, undB, ht, hz, hu, Bool.true_and, decide_true, Bool.and_eq_true, decide_eq_true_eq]
  constructor
  · rintro ⟨h1, h2⟩; exact ⟨by omega, by omega⟩
  · rintro ⟨h1, h2⟩; exact ⟨by omega, by omega⟩
theorem undT_self {rs : List RowD} {z : Int} (ht : treeB rs = true) (hz : atN rs z < rs.length) : undT rs z z = true :=
  (undT_node ht hz hz).2 (un_self (by omega))
theorem undT_miss {rs : List RowD} {z u : Int} (h : ¬ atN rs u < rs.length) : undT rs z u = false := by simp [undT, undB, h]
theorem undT_step {rs : List RowD} {z u : Int} (ht : treeB rs = true) (hz : atN rs z < rs.length) (hne : z ≠ u) : undT rs z u = (decide (0 < upI rs z) && undT rs (upI rs z) u) := by
  by_cases hu : atN rs u < rs.length
  · have hT := treeP_of ht
    have hh : hasB rs z = true := by simp [hasB, ht, hz]
    have hd := hT.deps
    have hnn : atN rs z + 1 ≠ atN rs u + 1 := fun e => hne (by rw [← atN_id hz, ← atN_id hu, show atN rs z = atN rs u by omega])
    have hp := un_par hd (a := atN rs z + 1) (b := atN rs u + 1) (by omega) (by omega) (by omega) hnn
    have hps := par_spec hd (i := atN rs z + 1) (by omega) (by omega)
    have hup := upI_at hh
    rw [Bool.eq_iff_iff, undT_node ht hz hu, hp, hup]
    rcases hc : par (dp rs) (atN rs z + 1) with _ | j
    · have e0 : (nd rs 0).id = 0 := rfl
      rw [e0]
      constructor
      · rintro ⟨h1, _⟩; omega
      · intro h; simp at h
    · have hj : j < rs.length := by omega
      have e1 : (nd rs (j + 1)).id = (rat rs j).id := rfl
      have hi := rok_id (hT.rok j hj)
      have ha := hT.at_self hj
      rw [e1, Bool.and_eq_true, decide_eq_true_eq, undT_node ht (by rw [ha]; exact hj) hu, ha]
      exact ⟨fun h => ⟨by omega, h⟩, fun h => h.2⟩
  · rw [undT_miss hu, undT_miss hu, Bool.and_false]
set_option maxRecDepth 100000 in
set_option maxHeartbeats 2000000 in
theorem fnTreeUnder_walk (w : World) (ht : Tab w) (a0 : Option Addr) (len0 cap0 : Nat) (b0 : Bytes w a0 len0 cap0) :
    Calls Tryd.prog 9 #[.slice a0 len0 cap0] w fun e w' => e = .returned (.bool true) ∧ Below w.heap.size w w' := by
  have hz := ht.pos
  have hm : len0 ≤ 9223372036854775807 := by have := Nat.le_trans b0.1 b0.2.1; unfold maxLen at this; omega
  by_cases l0 : (len0 : Int) ≤ 1048576
  · go_enter Tryd.func9, Tryd.ntmps9
    go_wp2_with fail
    refine (drawTreeUnder_any _ _ _ _ b0).mono ?_
    rintro e w1 ⟨a, cap, rs, z, u, rfl, z0, z1, hl, hb⟩
    have hlen := hl.len
    have hfit := Lib.hid hl.fit
    have ht1 := ht.below hb hz
    have hr1 := hl.rows
    clear hl b0
    go_wp2_with fail
    refine (implTreeUnder_any w1.heap.size _ _ _ _ _ _ (Nat.le_refl _) hr1 hfit.out ht1).mono ?_
    rintro e w2 ⟨rfl, hb2⟩
    have hr2 := (hr1.below hb2).mono hb2.size
    have b2 : Below w.heap.size w w2 := hb.trans (hb2.mono hb.size)
    clear hb2 hr1 ht1 hb
    go_wp2_with fail
    refine (specTreeUnder_any w2.heap.size _ _ _ _ _ _ (Nat.le_refl _) hr2 hfit.out).mono ?_
    rintro e w3 ⟨rfl, hb3⟩
    have hr3 := (hr2.below hb3).mono hb3.size
    have b3 : Below w.heap.size w w3 := b2.trans (hb3.mono b2.size)
    clear hb3 hr2 b2
    have HK : Hid (∀ wk : World, RowsAt wk.heap.size wk a rs → Calls Tryd.prog 28 #[.slice a rs.length cap, .int .i64 z, .int .i64 u] wk (RetBelow (.bool (undT rs z u)) wk)) := fun wk hk => specTreeUnder_any wk.heap.size a cap rs z u wk (Nat.le_refl _) hk hfit.out
    have HO := Lib.hid (specTreeOk_any w3.heap.size a cap rs w3 (Nat.le_refl _) hr3 hfit.out)
    cases hT : treeB rs
    · rw [hT] at HO
      generalize undT rs z u = U at *
      go_wp2_with fail
      refine HO.out.mono ?_
      rintro e w4 ⟨rfl, hb4⟩
      have hr4 := (hr3.below hb4).mono hb4.size
      have b4 : Below w.heap.size w w4 := b3.trans (hb4.mono b3.size)
      clear hb4 hr3 b3 HO
      go_wp2_with fail
      refine (HK.out _ hr4).mono ?_
      rintro e w5 ⟨rfl, hb5⟩
      have b5 : Below w.heap.size w w5 := b4.trans (hb5.mono b4.size)
      cases U
      · go_wp2
        go_ret
        exact ⟨rfl, b5⟩
      · go_wp2
        go_ret
        exact ⟨rfl, b5⟩
    · rw [hT] at HO
      have HT := Lib.hid hT
      clear hT
      generalize hU : undT rs z u = U at *
      have HU := Lib.hid hU
      clear hU
      go_wp2_with fail
      refine HO.out.mono ?_
      rintro e w4 ⟨rfl, hb4⟩
      have hr4 := (hr3.below hb4).mono hb4.size
      have b4 : Below w.heap.size w w4 := b3.trans (hb4.mono b3.size)
      clear hb4 hr3 b3 HO
      go_wp2_with fail
      refine (lpAt_any _ _ _ _ _ _ hr4 hfit.out).mono ?_
      rintro e w5 ⟨rfl, rfl⟩
      by_cases hN : atN rs z < rs.length
      · have HA : Hid (atI rs z = (atN rs z : Int)) := atI_pos hN
        rw [HA.out]
        have ht4 := ht.below b4 hz
        go_wp2_with fail
        refine (implTreeUp_any w4.heap.size _ _ _ _ _ (Nat.le_refl _) hr4 hfit.out ht4).mono ?_
        rintro e w5 ⟨rfl, hb5⟩
        have hr5 := (hr4.below hb5).mono hb5.size
        have b5 : Below w.heap.size w w5 := b4.trans (hb5.mono b4.size)
        have ht5 := ht.below b5 hz
        clear hb5 hr4 b4 ht4 HK
        generalize hasB rs z = hsb
        by_cases hne : z = u
        · subst hne
          obtain rfl : U = true := by rw [← HU.out]; exact undT_self HT.out hN
          go_wp2
          go_ret
          exact ⟨rfl, b5⟩
        · have HS := Lib.hid (undT_step HT.out hN hne)
          rw [HU.out] at HS
          generalize upI rs z = up at *
          by_cases hup : (0 : Int) < up
          · go_wp2_with fail
            refine (implTreeUnder_any w5.heap.size _ _ _ _ _ _ (Nat.le_refl _) hr5 hfit.out ht5).mono ?_
            rintro e w6 ⟨rfl, hb6⟩
            have b6 : Below w.heap.size w w6 := b5.trans (hb6.mono b5.size)
            have e : undT rs up u = U := by rw [HS.out]; simp [hup]
            rw [e]
            clear HS HU e
            cases U
            · go_wp2
              go_ret
              exact ⟨rfl, b6⟩
            · go_wp2
              go_ret
              exact ⟨rfl, b6⟩
          · obtain rfl : U = false := by rw [HS.out]; simp [hup]
            go_wp2
            go_ret
            exact ⟨rfl, b5⟩
      · have HA : Hid (atI rs z = -1) := atI_neg (by have := atN_le rs z; omega)
        rw [HA.out]
        go_wp2_with fail
        refine (HK.out _ hr4).mono ?_
        rintro e w5 ⟨rfl, hb5⟩
        have b5 : Below w.heap.size w w5 := b4.trans (hb5.mono b4.size)
        clear HU
        cases U
        · go_wp2
          go_ret
          exact ⟨rfl, b5⟩
        · go_wp2
          go_ret
          exact ⟨rfl, b5⟩
  · go_enter Tryd.func9, Tryd.ntmps9
    go_wp2
    go_ret
    exact ⟨rfl, Below.refl _ _⟩
end Go.Proofs.YtiigkjpabbgnpaaDoor
