/-
  The walk of the law FnTreeKids out of the contracts. Conditions: the argument reads as bytes; the table 'creators' holds what its initialiser lays.
-/
import Derived.Test.YtiigkjpabbgnpaaDoorDKids
import Derived.Test.YtiigkjpabbgnpaaDoorKidMath2
import Derived.Test.YtiigkjpabbgnpaaDoorLTreeUpP
namespace Go.Proofs.YtiigkjpabbgnpaaDoor
open Go.ChangeShapes Go.WideShapes Go.ChangeAt Go.RowKit Go.Joins

/-- What is asked of each child. -/
structure KidP (rs : List RowD) (z : Int) (i : Nat) : Prop where
  has : hasB rs ((kidsT rs z).getD i 0) = true
  up : upI rs ((kidsT rs z).getD i 0) = z
  ah : ahB rs ((kidsT rs z).getD i 0) = true
  ahi : ahI rs ((kidsT rs z).getD i 0) = if i = 0 then 0 else (kidsT rs z).getD (i - 1) 0
  ord : 0 < i → atN rs ((kidsT rs z).getD (i - 1) 0) < rs.length ∧ atN rs ((kidsT rs z).getD i 0) < rs.length ∧ atN rs ((kidsT rs z).getD (i - 1) 0) < atN rs ((kidsT rs z).getD i 0)
theorem kidP_all {rs : List RowD} {z : Int} (ht : treeB rs = true) {i : Nat} (hi : i < (kidsT rs z).length) : KidP rs z i := by
  have hT := treeP_of ht
  have hz : atN rs z < rs.length := by
    rcases Nat.lt_or_ge (atN rs z) rs.length with h | h
    · exact h
    · have : kidsT rs z = [] := by unfold kidsT; rw [if_pos ht, kidsL_no (by omega)]
      rw [this] at hi; simp at hi
  have ez := atN_id hz
  generalize atN rs z = x at *
  subst ez
  have ek := kps_ids ht hz
  have hi2 : i < (kpsT rs x).length := by rw [ek] at hi; simpa using hi
  have hm : (kpsT rs x)[i] ∈ kpsT rs x := List.getElem_mem hi2
  have hj := kps_lt hz hm
  have e0 : (kidsT rs (rat rs x).id).getD i 0 = (rat rs (kpsT rs x)[i]).id := by rw [ek, getD_map hi2]
  refine ⟨by rw [e0]; exact has_row ht hj, by rw [e0]; exact kid_up ht hz hm, by rw [e0]; exact kid_made ht hz hm, ?_, fun h0 => ?_⟩
  · rw [e0, kid_ah ht hz hi2]
    by_cases h0 : i = 0
    · rw [dif_pos h0, if_pos h0]
    · rw [dif_neg h0, if_neg h0, ek, getD_map (show i - 1 < (kpsT rs x).length by omega)]
  · have e1 : (kidsT rs (rat rs x).id).getD (i - 1) 0 = (rat rs ((kpsT rs x)[i - 1]'(by omega))).id := by rw [ek, getD_map (show i - 1 < (kpsT rs x).length by omega)]
    have hm1 : (kpsT rs x)[i - 1]'(by omega) ∈ kpsT rs x := List.getElem_mem _
    have hj1 := kps_lt hz hm1
    rw [e0, e1, hT.at_self hj, hT.at_self hj1]
    exact ⟨hj1, hj, kps_asc (by omega) hi2⟩
set_option maxRecDepth 100000 in
set_option maxHeartbeats 4000000 in
theorem fnTreeKids_walk (w : World) (ht : Tab w) (a0 : Option Addr) (len0 cap0 : Nat) (b0 : Bytes w a0 len0 cap0) :
    Calls Tryd.prog 5 #[.slice a0 len0 cap0] w fun e w' => e = .returned (.bool true) ∧ Below w.heap.size w w' := by
  have hz := ht.pos
  have hm : len0 ≤ 9223372036854775807 := by have := Nat.le_trans b0.1 b0.2.1; unfold maxLen at this; omega
  by_cases l0 : (len0 : Int) ≤ 1048576
  · go_enter Tryd.func5, Tryd.ntmps5
    go_wp2_with fail
    refine (drawTreeKids_any _ _ _ _ b0).mono ?_
    rintro e w1 ⟨a, cap, rs, z, rfl, z0, z1, hl, hb⟩
    have hlen := hl.len
    have hfit := Lib.hid hl.fit
    have ht1 := ht.below hb hz
    have hr1 := hl.rows
    have HKL : Hid (∀ id, (kidsT rs id).length ≤ 1048576) := fun id => kidsT_len (by omega) id
    clear hl b0
    go_wp2_with fail
    refine (implTreeKids_any w1.heap.size _ _ _ _ _ (Nat.le_refl _) hr1 hfit.out ht1).mono ?_
    rintro e w2 ⟨kv, rfl, own, hb2⟩
    obtain ⟨ka, kc, rfl, hkc⟩ := own_slice own
    have hi2 := (ints_of_own own).low
    have hr2 := (hr1.below hb2).mono hb2.size
    have b2 : Below w.heap.size w w2 := hb.trans (hb2.mono hb.size)
    clear hb2 hr1 ht1 hb own
    go_wp2_with fail
    refine (specTreeKids_any w2.heap.size _ _ _ _ _ (Nat.le_refl _) hr2 hfit.out).mono ?_
    rintro e w3 ⟨kv', rfl, own', hb3⟩
    obtain ⟨ka', kc', rfl, hkc'⟩ := own_slice own'
    have hi3 := (hi2.below hb3).mono hb3.size
    have hi3' := (ints_of_own own').low
    have hr3 := (hr2.below hb3).mono hb3.size
    have b3 : Below w.heap.size w w3 := b2.trans (hb3.mono b2.size)
    clear hb3 hr2 b2 own' hi2
    go_wp2_with fail
    refine (lpInts_same w3.heap.size _ _ _ _ _ _ hi3 hi3' (HKL.out _)).mono ?_
    rintro e w4 ⟨rfl, hb4⟩
    have hi4 := (hi3.below hb4).mono hb4.size
    have hr4 := (hr3.below hb4).mono hb4.size
    have b4 : Below w.heap.size w w4 := b3.trans (hb4.mono b3.size)
    clear hb4 hr3 b3 hi3 hi3'
    go_wp2_with fail
    refine (specTreeOk_any w4.heap.size _ _ _ _ (Nat.le_refl _) hr4 hfit.out).mono ?_
    rintro e w5 ⟨rfl, hb5⟩
    have hi5 := (hi4.below hb5).mono hb5.size
    have hr5 := (hr4.below hb5).mono hb5.size
    have b5 : Below w.heap.size w w5 := b4.trans (hb5.mono b4.size)
    clear hb5 hr4 b4 hi4
    cases hT : treeB rs
    · go_wp2_with fail
      refine (specTreeKids_any w5.heap.size _ _ _ _ _ (Nat.le_refl _) hr5 hfit.out).mono ?_
      rintro e w6 ⟨kv', rfl, own', hb6⟩
      obtain ⟨ka', kc', rfl, hkc'⟩ := own_slice own'
      have hi6 := (hi5.below hb6).mono hb6.size
      have hi6' := (ints_of_own own').low
      have b6 : Below w.heap.size w w6 := b5.trans (hb6.mono b5.size)
      clear hb6 own' hi5
      go_wp2_with fail
      refine (lpInts_same w6.heap.size _ _ _ _ _ _ hi6 hi6' (HKL.out _)).mono ?_
      rintro e w7 ⟨rfl, hb7⟩
      go_wp2
      go_ret
      exact ⟨rfl, b6.trans (hb7.mono b6.size)⟩
    · have HP : Hid (∀ i, i < (kidsT rs z).length → KidP rs z i) := fun i hi => kidP_all hT hi
      have hkl := HKL.out z
      clear hT HKL
      go_wp2_with fail
      go_loopw [6] (fun i wr => ∃ k : Nat, k ≤ (kidsT rs z).length ∧ i = .int .i64 k ∧ Below w5.heap.size w5 wr) (fun i _ => (kidsT rs z).length - (intOf i).toNat)
      case atStart => exact ⟨0, Nat.zero_le _, rfl, Below.refl _ _⟩
      case round =>
        obtain ⟨k, hk, rfl, hbr⟩ := hrel
        have hrr := (hr5.below hbr).mono hbr.size
        have hir := (hi5.below hbr).mono hbr.size
        have br : Below w.heap.size w wr := b5.trans (hbr.mono b5.size)
        have htr := ht.below br hz
        by_cases hlt : k < (kidsT rs z).length
        · obtain ⟨p1, p2, p3, p4, p5⟩ := HP.out k hlt
          obtain ⟨g, rfl, hg, c0⟩ := hir.at_ hlt
          have i1 : (k : Int) < ((kidsT rs z).length : Int) := by omega
          have P1 := Lib.hid p1
          have P2 := Lib.hid p2
          have P3 := Lib.hid p3
          have P4 := Lib.hid p4
          clear p1 p2 p3 p4
          by_cases hk0 : k = 0
          · subst hk0
            rw [if_pos rfl] at P4
            generalize (kidsT rs z).getD 0 0 = v at *
            clear p5
            go_wp2_with fail
            refine (implTreeUp_any wr.heap.size _ _ _ _ _ (Nat.le_refl _) hrr hfit.out htr).mono ?_
            rintro e w6 ⟨rfl, hb6⟩
            rw [P1.out, P2.out]
            have d0 := (hb6.cell (p := ⟨g, 0, none⟩) hg).trans c0
            have hr6 := (hrr.below hb6).mono hb6.size
            have b6 := hbr.trans (hb6.mono hbr.size)
            have ht6 := ht.below (b5.trans (b6.mono b5.size)) hz
            clear hb6 hrr
            go_wp2_with fail
            refine (implTreeAhead_any w6.heap.size _ _ _ _ _ (Nat.le_refl _) hr6 hfit.out ht6).mono ?_
            rintro e w7 ⟨rfl, hb7⟩
            rw [P3.out, P4.out]
            have b7 := b6.trans (hb7.mono b6.size)
            clear hb7 hr6 ht6 htr c0 d0
            go_wp2_with fail
            go_quiet (fail)
            go_wp2
            go_roundw
            case rel => exact ⟨1, by omega, by go_num, below_drewN nq b7⟩
            case measure => simp [intOf]; omega
          · obtain ⟨p6, p7, p8⟩ := p5 (by omega)
            obtain ⟨_, eg, _, c1⟩ := hir.at_ (show k - 1 < (kidsT rs z).length by omega)
            cases eg
            rw [if_neg hk0] at P4
            have HA1 := Lib.hid (atI_pos p6)
            have HA2 := Lib.hid (atI_pos p7)
            have HLT := Lib.hid p8
            clear p5 p6 p7 p8
            generalize (kidsT rs z).getD k 0 = v at *
            generalize (kidsT rs z).getD (k - 1) 0 = v' at *
            have j0 : (0 : Int) < (k : Int) := by omega
            have e1 : (0 : Int) ≤ (k : Int) - 1 := by omega
            have e2 : (k : Int) - 1 < ((kidsT rs z).length : Int) := by omega
            have e3 : ((k : Int) - 1).toNat = k - 1 := by omega
            go_wp2_with fail
            refine (implTreeUp_any wr.heap.size _ _ _ _ _ (Nat.le_refl _) hrr hfit.out htr).mono ?_
            rintro e w6 ⟨rfl, hb6⟩
            rw [P1.out, P2.out]
            have d0 := (hb6.cell (p := ⟨g, k, none⟩) hg).trans c0
            have d1 := (hb6.cell (p := ⟨g, k - 1, none⟩) hg).trans c1
            have hg6 : g < w6.heap.size := Nat.lt_of_lt_of_le hg hb6.size
            have hr6 := (hrr.below hb6).mono hb6.size
            have b6 := hbr.trans (hb6.mono hbr.size)
            have ht6 := ht.below (b5.trans (b6.mono b5.size)) hz
            clear hb6 hrr c0 c1
            go_wp2_with fail
            refine (implTreeAhead_any w6.heap.size _ _ _ _ _ (Nat.le_refl _) hr6 hfit.out ht6).mono ?_
            rintro e w7 ⟨rfl, hb7⟩
            rw [P3.out, P4.out]
            have c0 := (hb7.cell (p := ⟨g, k, none⟩) hg6).trans d0
            have c1 := (hb7.cell (p := ⟨g, k - 1, none⟩) hg6).trans d1
            have hr7 := (hr6.below hb7).mono hb7.size
            have b7 := b6.trans (hb7.mono b6.size)
            have hg67 := hb7.size
            clear hb7 hr6 ht6 htr d0 d1
            have HL : Hid (∀ (n : Int) (u : Later w7), Calls Tryd.prog 16 #[.slice a rs.length cap, .int .i64 n] u.x fun e w' => e = .returned (.int .i64 (atI rs n)) ∧ u.x = w') := fun n u => lpAt_any w7.heap.size a cap rs n u.x (hr7.below u.h) hfit.out
            have hg7 : g < w7.heap.size := Nat.lt_of_lt_of_le hg6 hg67
            have L0 := later_cell c0 hg7
            have L1 := later_cell c1 hg7
            have hq : decide (atI rs v < atI rs v') = false := by have := HLT.out; rw [HA1.out, HA2.out]; simp; omega
            generalize hp1 : atI rs v = p at *
            generalize hp2 : atI rs v' = p' at *
            have HL1 : Hid (∀ u : Later w7, Calls Tryd.prog 16 #[.slice a rs.length cap, .int .i64 v] u.x fun e w' => e = .returned (.int .i64 p) ∧ u.x = w') := fun u => by rw [← hp1]; exact HL.out v u
            have HL2 : Hid (∀ u : Later w7, Calls Tryd.prog 16 #[.slice a rs.length cap, .int .i64 v'] u.x fun e w' => e = .returned (.int .i64 p') ∧ u.x = w') := fun u => by rw [← hp2]; exact HL.out v' u
            clear HL hp1 hp2 HA1 HA2 HLT hir hi5
            go_wp2_with fail
            refine wp_region_later (by kernel_rfl) (by kernel_rfl) ?_
            iterate 25 (go_big_quiet_step (fail))
            go_big_quiet_step ((go_at_call 16; exact later_same (HL1.out _)))

            repeat (go_big_quiet_step ((go_at_call 16; exact later_same (HL2.out _))))
            refine wpQuiet_nil ?_
            rintro wn ⟨⟨_, hbn⟩, rfl⟩
            clear L0 L1
            go_wp2
            go_roundw
            case rel => exact ⟨k + 1, by omega, by go_num, b7.trans (hbn.mono b7.size)⟩
            case measure => simp [intOf]; omega
        · go_wp2
          go_ret
          exact ⟨rfl, br⟩
  · go_enter Tryd.func5, Tryd.ntmps5
    go_wp2
    go_ret
    exact ⟨rfl, Below.refl _ _⟩
end Go.Proofs.YtiigkjpabbgnpaaDoor
