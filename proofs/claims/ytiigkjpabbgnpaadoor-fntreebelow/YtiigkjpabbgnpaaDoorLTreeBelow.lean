/-
  The walk of the law FnTreeBelow out of the contracts. Conditions: the argument reads as bytes; the table 'creators' holds what its initialiser lays.
-/
import Derived.Test.YtiigkjpabbgnpaaDoorLUnder
namespace Go.Proofs.YtiigkjpabbgnpaaDoor
open Go.ChangeShapes Go.WideShapes Go.ChangeAt Go.RowKit Go.Joins

theorem en_next {rs : List RowD} {K i : Nat} (hK : K < rs.length) (hi : i < rs.length) (hKi : K < i) : (decide (i ≤ enR rs K) && decide ((rat rs K).dep < (rat rs i).dep)) = decide (i + 1 ≤ enR rs K) := by
  obtain ⟨a, b, c, d⟩ := en_spec (D := rdep rs) (m := rs.length) hK
  have e : enR rs K = en (rdep rs) rs.length K := rfl
  rw [← e] at a b c d
  rw [Bool.eq_iff_iff, Bool.and_eq_true, decide_eq_true_eq, decide_eq_true_eq, decide_eq_true_eq]
  constructor
  · rintro ⟨h1, h2⟩
    rcases Nat.lt_or_ge i (enR rs K) with g | g
    · exact g
    · have : i = enR rs K := by omega
      have := d (by omega)
      rw [← ‹i = enR rs K›] at this
      have t : rdep rs i ≤ rdep rs K := this
      unfold rdep at t
      omega
  · intro h
    exact ⟨by omega, c i hKi (by omega)⟩
theorem und_row {rs : List RowD} {u : Int} (ht : treeB rs = true) (hu : atN rs u < rs.length) {i : Nat} (hi : i < rs.length) : undT rs (rat rs i).id u = (decide (atN rs u ≤ i) && decide (i + 1 ≤ enR rs (atN rs u))) := by
  have ha := (treeP_of ht).at_self hi
  simp only [undT, undB, ht, ha, hi, hu, decide_true, Bool.true_and]
  rfl
theorem und_anti {rs : List RowD} {z u : Int} (h1 : undT rs z u = true) (hne : z ≠ u) : undT rs u z = false := by
  have hz : atN rs z < rs.length := by
    rcases Nat.lt_or_ge (atN rs z) rs.length with g | g
    · exact g
    · simp [undT, undB, show ¬ atN rs z < rs.length by omega] at h1
  have hu : atN rs u < rs.length := by
    rcases Nat.lt_or_ge (atN rs u) rs.length with g | g
    · exact g
    · simp [undT, undB, show ¬ atN rs u < rs.length by omega] at h1
  rw [Bool.eq_false_iff]; intro h2
  simp only [undT, undB, Bool.and_eq_true, decide_eq_true_eq] at h1 h2
  exact hne (by rw [← atN_id hz, ← atN_id hu, show atN rs z = atN rs u by omega])
set_option maxRecDepth 100000 in
set_option maxHeartbeats 4000000 in
theorem fnTreeBelow_walk (w : World) (ht : Tab w) (a0 : Option Addr) (len0 cap0 : Nat) (b0 : Bytes w a0 len0 cap0) :
    Calls Tryd.prog 6 #[.slice a0 len0 cap0] w fun e w' => e = .returned (.bool true) ∧ Below w.heap.size w w' := by
  have hz := ht.pos
  have hm : len0 ≤ 9223372036854775807 := by have := Nat.le_trans b0.1 b0.2.1; unfold maxLen at this; omega
  by_cases l0 : (len0 : Int) ≤ 1048576
  · go_enter Tryd.func6, Tryd.ntmps6
    go_wp2_with fail
    refine (drawTreeUnder_any _ _ _ _ b0).mono ?_
    rintro e w1 ⟨a, cap, rs, z, u, rfl, z0, z1, hl, hb⟩
    have hlen := hl.len
    have hfit := Lib.hid hl.fit
    have ht1 := ht.below hb hz
    have hr1 := hl.rows
    clear hl b0
    go_wp2_with fail
    refine (implTreeUnder_any w1.heap.size _ _ _ _ _ _ (Nat.le_refl _) hr1 hfit.out ht1).mono ?_
    rintro e w2 ⟨rfl, hb2⟩
    have hr2 := (hr1.below hb2).mono hb2.size
    have b2 : Below w.heap.size w w2 := hb.trans (hb2.mono hb.size)
    clear hb2 hr1 ht1 hb
    go_wp2_with fail
    refine (specTreeUnder_any w2.heap.size _ _ _ _ _ _ (Nat.le_refl _) hr2 hfit.out).mono ?_
    rintro e w3 ⟨rfl, hb3⟩
    have hr3 := (hr2.below hb3).mono hb3.size
    have b3 : Below w.heap.size w w3 := b2.trans (hb3.mono b2.size)
    clear hb3 hr2 b2
    have HK : Hid (∀ wk : World, RowsAt wk.heap.size wk a rs → Calls Tryd.prog 28 #[.slice a rs.length cap, .int .i64 z, .int .i64 u] wk (RetBelow (.bool (undT rs z u)) wk)) := fun wk hk => specTreeUnder_any wk.heap.size a cap rs z u wk (Nat.le_refl _) hk hfit.out
    have HO := Lib.hid (specTreeOk_any w3.heap.size a cap rs w3 (Nat.le_refl _) hr3 hfit.out)
    cases hT : treeB rs
    · rw [hT] at HO
      generalize undT rs z u = U at *
      go_wp2_with fail
      refine HO.out.mono ?_
      rintro e w4 ⟨rfl, hb4⟩
      have hr4 := (hr3.below hb4).mono hb4.size
      have b4 : Below w.heap.size w w4 := b3.trans (hb4.mono b3.size)
      clear hb4 hr3 b3 HO
      go_wp2_with fail
      refine (HK.out _ hr4).mono ?_
      rintro e w5 ⟨rfl, hb5⟩
      have b5 : Below w.heap.size w w5 := b4.trans (hb5.mono b4.size)
      cases U
      · go_wp2
        go_ret
        exact ⟨rfl, b5⟩
      · go_wp2
        go_ret
        exact ⟨rfl, b5⟩
    · rw [hT] at HO
      have HT := Lib.hid hT
      clear hT
      generalize hU : undT rs z u = U at *
      have HU := Lib.hid hU
      clear hU
      go_wp2_with fail
      refine HO.out.mono ?_
      rintro e w4 ⟨rfl, hb4⟩
      have hr4 := (hr3.below hb4).mono hb4.size
      have b4 : Below w.heap.size w w4 := b3.trans (hb4.mono b3.size)
      clear hb4 hr3 b3 HO
      go_wp2_with fail
      refine (lpAt_any _ _ _ _ _ _ hr4 hfit.out).mono ?_
      rintro e w5 ⟨rfl, rfl⟩
      by_cases hN : atN rs u < rs.length
      · have HA : Hid (atI rs u = (atN rs u : Int)) := atI_pos hN
        have HN : Hid (∀ i, i < rs.length → atN rs u < i → (decide (i ≤ enR rs (atN rs u)) && decide ((rat rs (atN rs u)).dep < (rat rs i).dep)) = decide (i + 1 ≤ enR rs (atN rs u))) := fun i hi hk => en_next hN hi hk
        have HR : Hid (∀ i, i < rs.length → undT rs (rat rs i).id u = (decide (atN rs u ≤ i) && decide (i + 1 ≤ enR rs (atN rs u)))) := fun i hi => und_row HT.out hN hi
        have HS : Hid (atN rs u + 1 ≤ enR rs (atN rs u)) := (en_spec (D := rdep rs) hN).1
        rw [HA.out]
        clear HK
        go_wp2_with fail
        refine (lpAt_any _ _ _ _ _ _ hr4 hfit.out).mono ?_
        rintro e w5 ⟨rfl, rfl⟩
        rw [HA.out]
        clear HA
        generalize atN rs u = K at *
        generalize enR rs K = E at *
        go_wp2_with fail
        go_loopw [8, 9] (fun s i wr => ∃ k : Nat, k ≤ rs.length ∧ i = .int .i64 k ∧ s = .bool (decide (k ≤ E)) ∧ Below w4.heap.size w4 wr) (fun _ i _ => rs.length - (intOf i).toNat)
        case atStart => exact ⟨0, Nat.zero_le _, rfl, by simp, Below.refl _ _⟩
        case round =>
          obtain ⟨k, hk, rfl, rfl, hbr⟩ := hrel
          have hrr := (hr4.below hbr).mono hbr.size
          have br : Below w.heap.size w wr := b4.trans (hbr.mono b4.size)
          have htr := ht.below br hz
          by_cases hlt : k < rs.length
          · have hE := HR.out k hlt
            obtain ⟨g, off, rfl, hg, c0, c1, c2⟩ := hrr.at_ hlt
            obtain ⟨_, _, eg, _, d0, d1, d2⟩ := hrr.at_ hN
            cases eg
            have i1 : (k : Int) < (rs.length : Int) := by omega
            have i2 : (K : Int) < (rs.length : Int) := by omega
            have hEn := HS.out
            by_cases hKk : K < k
            · have i3 : (K : Int) < (k : Int) := by omega
              have hn := HN.out k hlt hKk
              have HNX := Lib.hid hn
              clear hn
              have hres : (decide (K ≤ k) && decide (k + 1 ≤ E)) = decide (k + 1 ≤ E) := by simp [show K ≤ k by omega]
              rw [hres] at hE
              clear hres
              have iq : ¬ ((k : Int) = (K : Int)) := by omega
              generalize (rat rs K).dep = dK at *
              generalize hvd : (rat rs k).dep = dk at *
              generalize hvi : (rat rs k).id = vk at *
              have HE2 := Lib.hid hE
              cases hin : decide (k ≤ E)
              · have hn2 : decide (k + 1 ≤ E) = false := by simp at hin ⊢; omega
                rw [hn2] at HE2
                have HQ : Hid (decide (k + 1 ≤ E) = false) := hn2
                clear hn2 HNX hE
                go_wp2_with fail
                go_quiet (fail)
                go_wp2_with fail
                refine (implTreeUnder_any wr.heap.size _ _ _ _ _ (wr.drewN nq) (Nat.le_refl _) (hrr.below (below_drewN nq (Below.refl _ _))) hfit.out htr).mono ?_
                rintro e w5 ⟨rfl, hb5⟩
                rw [HE2.out]
                go_wp2
                go_roundw
                case rel => exact ⟨k + 1, by omega, by go_num, by rw [HQ.out], hbr.trans ((below_drewN nq (Below.refl wr.heap.size wr)).trans hb5 |>.mono hbr.size)⟩
                case measure => simp [intOf]; omega
              · rw [hin, Bool.true_and] at HNX
                cases hd : decide (dK < dk)
                · rw [hd] at HNX
                  rw [← HNX.out] at HE2
                  clear hE
                  go_wp2_with fail
                  go_quiet (fail)
                  go_wp2_with fail
                  refine (implTreeUnder_any wr.heap.size _ _ _ _ _ (wr.drewN nq) (Nat.le_refl _) (hrr.below (below_drewN nq (Below.refl _ _))) hfit.out htr).mono ?_
                  rintro e w5 ⟨rfl, hb5⟩
                  rw [HE2.out]
                  go_wp2
                  go_roundw
                  case rel => exact ⟨k + 1, by omega, by go_num, by rw [← HNX.out], hbr.trans ((below_drewN nq (Below.refl wr.heap.size wr)).trans hb5 |>.mono hbr.size)⟩
                  case measure => simp [intOf]; omega
                · rw [hd] at HNX
                  rw [← HNX.out] at HE2
                  clear hE
                  go_wp2_with fail
                  go_quiet (fail)
                  go_wp2_with fail
                  refine (implTreeUnder_any wr.heap.size _ _ _ _ _ (wr.drewN nq) (Nat.le_refl _) (hrr.below (below_drewN nq (Below.refl _ _))) hfit.out htr).mono ?_
                  rintro e w5 ⟨rfl, hb5⟩
                  rw [HE2.out]
                  go_wp2
                  go_roundw
                  case rel => exact ⟨k + 1, by omega, by go_num, by rw [← HNX.out], hbr.trans ((below_drewN nq (Below.refl wr.heap.size wr)).trans hb5 |>.mono hbr.size)⟩
                  case measure => simp [intOf]; omega
            · have i3 : ¬ (K : Int) < (k : Int) := by omega
              have hin : decide (k ≤ E) = true := by simp; omega
              have hin2 : decide (k + 1 ≤ E) = true := by simp; omega
              rw [hin2, Bool.and_true] at hE
              rw [hin]
              have HQ : Hid (decide (k + 1 ≤ E) = true) := hin2
              clear hin hin2
              generalize hvi : (rat rs k).id = vk at *
              have HE2 := Lib.hid hE
              clear hE
              go_wp2_with fail
              refine (implTreeUnder_any wr.heap.size _ _ _ _ _ _ (Nat.le_refl _) hrr hfit.out htr).mono ?_
              rintro e w5 ⟨rfl, hb5⟩
              rw [HE2.out]
              by_cases eKk : k = K
              · subst eKk
                have hd : decide (k ≤ k) = true := by simp
                rw [hd]
                go_wp2
                go_roundw
                case rel => exact ⟨k + 1, by omega, by go_num, by rw [HQ.out], hbr.trans (hb5.mono hbr.size)⟩
                case measure => simp [intOf]; omega
              · have hd : decide (K ≤ k) = false := by simp; omega
                rw [hd]
                have iq : ¬ ((k : Int) = (K : Int)) := by omega
                go_wp2
                go_roundw
                case rel => exact ⟨k + 1, by omega, by go_num, by rw [HQ.out], hbr.trans (hb5.mono hbr.size)⟩
                case measure => simp [intOf]; omega
          · have HUA : Hid (U = true → z ≠ u → undT rs u z = false) := fun h1 h2 => und_anti (HU.out.trans h1) h2
            clear HU
            cases U
            · go_wp2
              go_ret
              exact ⟨rfl, br⟩
            · by_cases hne : z = u
              · subst hne
                go_wp2
                go_ret
                exact ⟨rfl, br⟩
              · have HF := Lib.hid (HUA.out rfl hne)
                go_wp2_with fail
                refine (implTreeUnder_any wr.heap.size _ _ _ _ _ _ (Nat.le_refl _) hrr hfit.out htr).mono ?_
                rintro e w5 ⟨rfl, hb5⟩
                rw [HF.out]
                go_wp2
                go_ret
                exact ⟨rfl, br.trans (hb5.mono br.size)⟩
      · have HA : Hid (atI rs u = -1) := atI_neg (by have := atN_le rs u; omega)
        rw [HA.out]
        go_wp2_with fail
        refine (HK.out _ hr4).mono ?_
        rintro e w5 ⟨rfl, hb5⟩
        have b5 : Below w.heap.size w w5 := b4.trans (hb5.mono b4.size)
        clear HU
        cases U
        · go_wp2
          go_ret
          exact ⟨rfl, b5⟩
        · go_wp2
          go_ret
          exact ⟨rfl, b5⟩
  · go_enter Tryd.func6, Tryd.ntmps6
    go_wp2
    go_ret
    exact ⟨rfl, Below.refl _ _⟩
end Go.Proofs.YtiigkjpabbgnpaaDoor
