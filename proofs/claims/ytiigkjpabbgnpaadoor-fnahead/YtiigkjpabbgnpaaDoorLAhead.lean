/-
  The walk of the law FnAhead out of the contracts. Conditions: the argument reads as bytes; the table 'creators' holds what its initialiser lays.
-/
import Derived.Test.YtiigkjpabbgnpaaDoorDKids
import Derived.Test.YtiigkjpabbgnpaaDoorKidMath2
import Derived.Test.YtiigkjpabbgnpaaDoorLTreeUpP
namespace Go.Proofs.YtiigkjpabbgnpaaDoor
open Go.ChangeShapes Go.WideShapes Go.ChangeAt Go.RowKit Go.Joins

/-- A row with one ahead is a child, not the first, of its parent; the one ahead is the child before it. -/
theorem ahead_kid {rs : List RowD} {z : Int} (h : ahB rs z = true) (hne : ahI rs z ≠ 0) :
    ∃ i, 1 ≤ i ∧ i < (kidsT rs (upI rs z)).length ∧ (kidsT rs (upI rs z)).getD i 0 = z ∧ (kidsT rs (upI rs z)).getD (i - 1) 0 = ahI rs z ∧ upI rs (ahI rs z) = upI rs z ∧ (∀ j, j < i → (kidsT rs (upI rs z)).getD j 0 ≠ z) := by
  have hh : hasB rs z = true := by
    unfold ahB at h; rw [Bool.and_eq_true] at h; exact h.1
  obtain ⟨ht, hz⟩ := hasB_iff.1 hh
  have hT := treeP_of ht
  have ez := atN_id hz
  have hr : rootB z = false := by
    unfold ahB at h; rw [Bool.and_eq_true] at h; simpa using h.2
  have hup := up_row ht hz
  rw [ez] at hup
  have hp := par_spec hT.deps (i := atN rs z + 1) (by omega) (by omega)
  have hd := par_dep hT.deps (i := atN rs z + 1) (by omega) (by omega)
  have hrd := rok_root (hT.rok _ hz)
  rw [ez, hr] at hrd
  rcases hc : par (dp rs) (atN rs z + 1) with _ | x
  · rw [hc] at hd
    have e1 : dp rs (atN rs z + 1) = (rat rs (atN rs z)).dep := rfl
    have e2 : dp rs 0 = -1 := rfl
    have := hrd.1 (by omega)
    cases this
  · rw [hc] at hp hup
    have hx : x < rs.length := by omega
    have eu : upI rs z = (rat rs x).id := hup
    have hk : z ∈ kidsT rs (rat rs x).id := by
      have := (kid_par ht hx hz).2 hc
      rwa [ez] at this
    rw [eu]
    have ek := kps_ids ht hx
    have hk2 := hk
    rw [ek] at hk2
    obtain ⟨q, hq, eq⟩ := List.mem_map.1 hk2
    obtain ⟨i, hi, ei⟩ := List.getElem_of_mem hq
    have hql := kps_lt hx hq
    have hA := kid_ah ht hx hi
    rw [ei, eq] at hA
    have hi0 : i ≠ 0 := fun e => hne (by rw [hA, dif_pos e])
    rw [dif_neg hi0] at hA
    have hm : (kpsT rs x)[i - 1]'(by omega) ∈ kpsT rs x := List.getElem_mem _
    refine ⟨i, by omega, by rw [ek]; simpa using hi, ?_, ?_, ?_, fun j hj => ?_⟩
    · rw [ek, getD_map hi, ei]; exact eq
    · rw [ek, getD_map (show i - 1 < (kpsT rs x).length by omega), hA]
    · rw [hA]; exact kid_up ht hx hm
    · rw [ek, getD_map (show j < (kpsT rs x).length by omega)]
      intro e
      have hlt := kps_asc (rs := rs) (x := x) hj hi
      have hml : (kpsT rs x)[j]'(by omega) ∈ kpsT rs x := List.getElem_mem _
      have := hT.id_inj (kps_lt hx hml) hql (e.trans eq.symm)
      rw [← ei] at this
      omega
set_option maxRecDepth 100000 in
set_option maxHeartbeats 4000000 in
theorem fnAhead_walk (w : World) (ht : Tab w) (a0 : Option Addr) (len0 cap0 : Nat) (b0 : Bytes w a0 len0 cap0) :
    Calls Tryd.prog 7 #[.slice a0 len0 cap0] w fun e w' => e = .returned (.bool true) ∧ Below w.heap.size w w' := by
  have hz := ht.pos
  have hm : len0 ≤ 9223372036854775807 := by have := Nat.le_trans b0.1 b0.2.1; unfold maxLen at this; omega
  by_cases l0 : (len0 : Int) ≤ 1048576
  · go_enter Tryd.func7, Tryd.ntmps7
    go_wp2_with fail
    refine (drawTreeAhead_any _ _ _ _ b0).mono ?_
    rintro e w1 ⟨a, cap, rs, z, rfl, z0, z1, hl, hb⟩
    have hlen := hl.len
    have hfit := Lib.hid hl.fit
    have hr1 := hl.rows
    have HKL : Hid (∀ id, (kidsT rs id).length ≤ 1048576) := fun id => kidsT_len (by omega) id
    clear hl b0
    go_wp2_with fail
    refine (specTreeAhead_any w1.heap.size _ _ _ _ _ (Nat.le_refl _) hr1 hfit.out).mono ?_
    rintro e w2 ⟨rfl, hb2⟩
    have hr2 := (hr1.below hb2).mono hb2.size
    have b2 : Below w.heap.size w w2 := hb.trans (hb2.mono hb.size)
    have ht2 := ht.below b2 hz
    clear hb2 hr1 hb
    go_wp2_with fail
    refine (implTreeAhead_any w2.heap.size _ _ _ _ _ (Nat.le_refl _) hr2 hfit.out ht2).mono ?_
    rintro e w3 ⟨rfl, hb3⟩
    have hr3 := (hr2.below hb3).mono hb3.size
    have b3 : Below w.heap.size w w3 := b2.trans (hb3.mono b2.size)
    have ht3 := ht.below b3 hz
    clear hb3 hr2 b2 ht2
    cases hh : ahB rs z
    · generalize ahI rs z = ai
      go_wp2
      go_ret
      exact ⟨rfl, b3⟩
    · by_cases h0 : ahI rs z = 0
      · rw [h0]
        clear h0 hh
        go_wp2
        go_ret
        exact ⟨rfl, b3⟩
      · obtain ⟨i0, q1, q2, q3, q4, q5, q6⟩ := ahead_kid hh h0
        have HQ3 := Lib.hid q3
        have HQ4 := Lib.hid q4
        have HQ5 := Lib.hid q5
        have HQ6 := Lib.hid q6
        clear hh q3 q4 q5 q6
        generalize ahI rs z = ai at *
        generalize hup : upI rs z = up at *
        have HUP := Lib.hid hup
        clear hup
        go_wp2_with fail
        refine (implTreeUp_any w3.heap.size _ _ _ _ _ (Nat.le_refl _) hr3 hfit.out ht3).mono ?_
        rintro e w4 ⟨rfl, hb4⟩
        rw [HUP.out]
        have hr4 := (hr3.below hb4).mono hb4.size
        have b4 : Below w.heap.size w w4 := b3.trans (hb4.mono b3.size)
        have ht4 := ht.below b4 hz
        clear hb4 hr3 b3 ht3
        generalize hasB rs z = hb1
        go_wp2_with fail
        refine (implTreeUp_any w4.heap.size _ _ _ _ _ (Nat.le_refl _) hr4 hfit.out ht4).mono ?_
        rintro e w5 ⟨rfl, hb5⟩
        rw [HQ5.out]
        have hr5 := (hr4.below hb5).mono hb5.size
        have b5 : Below w.heap.size w w5 := b4.trans (hb5.mono b4.size)
        have ht5 := ht.below b5 hz
        clear hb5 hr4 b4 ht4
        generalize hasB rs ai = hb2
        go_wp2_with fail
        refine (implTreeKids_any w5.heap.size _ _ _ _ _ (Nat.le_refl _) hr5 hfit.out ht5).mono ?_
        rintro e w6 ⟨kv, rfl, own, hb6⟩
        obtain ⟨ka, kc, rfl, hkc⟩ := own_slice own
        have hi6 := (ints_of_own own).low
        have b6 : Below w.heap.size w w6 := b5.trans (hb6.mono b5.size)
        have hkl := HKL.out up
        clear hb6 hr5 b5 ht5 own HKL HUP HQ5
        generalize kidsT rs up = ks at *
        go_wp2_with fail
        go_loopw [14] (fun i wr => ∃ k : Nat, 1 ≤ k ∧ k ≤ i0 ∧ i = .int .i64 k ∧ wr = w6) (fun i _ => i0 + 1 - (intOf i).toNat)
        case atStart => exact ⟨1, Nat.le_refl _, q1, rfl, rfl⟩
        case round =>
          obtain ⟨k, hk1, hk, rfl, rfl⟩ := hrel
          have hlt : k < ks.length := by omega
          have i1 : (k : Int) < (ks.length : Int) := by omega
          obtain ⟨g, rfl, hB, c0⟩ := hi6.at_ hlt
          by_cases hke : k = i0
          · subst hke
            rw [HQ3.out] at c0
            obtain ⟨_, eg, _, c1⟩ := hi6.at_ (show k - 1 < ks.length by omega)
            cases eg
            rw [HQ4.out] at c1
            have e1 : (0 : Int) ≤ (k : Int) - 1 := by omega
            have e2 : (k : Int) - 1 < (ks.length : Int) := by omega
            have e3 : ((k : Int) - 1).toNat = k - 1 := by omega
            go_wp2
            go_ret
            exact ⟨rfl, b6⟩
          · have hne : ((ks.getD k 0) == z) = false := by simpa using HQ6.out k (by omega)
            generalize ks.getD k 0 = v at *
            go_wp2
            go_roundw
            case rel => exact ⟨k + 1, by omega, by omega, by go_num, by first | rfl | trivial⟩
            case measure => simp [intOf]; omega
  · go_enter Tryd.func7, Tryd.ntmps7
    go_wp2
    go_ret
    exact ⟨rfl, Below.refl _ _⟩
end Go.Proofs.YtiigkjpabbgnpaaDoor
