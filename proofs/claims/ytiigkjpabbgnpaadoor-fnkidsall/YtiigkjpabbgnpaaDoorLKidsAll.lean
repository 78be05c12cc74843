/-
  The walk of the law FnKidsAll out of the contracts. Conditions: the argument reads as bytes; the table 'creators' holds what its initialiser lays.
-/
import Derived.Test.YtiigkjpabbgnpaaDoorDKids
import Derived.Test.YtiigkjpabbgnpaaDoorKidMath2
import Derived.Test.YtiigkjpabbgnpaaDoorLTreeUpP
namespace Go.Proofs.YtiigkjpabbgnpaaDoor
open Go.ChangeShapes Go.WideShapes Go.ChangeAt Go.RowKit Go.Joins

set_option maxRecDepth 100000 in
set_option maxHeartbeats 4000000 in
theorem fnKidsAll_walk (w : World) (ht : Tab w) (a0 : Option Addr) (len0 cap0 : Nat) (b0 : Bytes w a0 len0 cap0) :
    Calls Tryd.prog 8 #[.slice a0 len0 cap0] w fun e w' => e = .returned (.bool true) ∧ Below w.heap.size w w' := by
  have hz := ht.pos
  have hm : len0 ≤ 9223372036854775807 := by have := Nat.le_trans b0.1 b0.2.1; unfold maxLen at this; omega
  by_cases l0 : (len0 : Int) ≤ 1048576
  · go_enter Tryd.func8, Tryd.ntmps8
    go_wp2_with fail
    refine (drawTreeKids_any _ _ _ _ b0).mono ?_
    rintro e w1 ⟨a, cap, rs, z, rfl, z0, z1, hl, hb⟩
    have hlen := hl.len
    have hfit := Lib.hid hl.fit
    have ht1 := ht.below hb hz
    have hr1 := hl.rows
    have HKL : Hid (∀ id, (kidsT rs id).length ≤ 1048576) := fun id => kidsT_len (by omega) id
    clear hl b0
    go_wp2_with fail
    refine (implTreeKids_any w1.heap.size _ _ _ _ _ (Nat.le_refl _) hr1 hfit.out ht1).mono ?_
    rintro e w2 ⟨kv, rfl, own, hb2⟩
    obtain ⟨ka, kc, rfl, hkc⟩ := own_slice own
    have hi2 := (ints_of_own own).low
    have hr2 := (hr1.below hb2).mono hb2.size
    have b2 : Below w.heap.size w w2 := hb.trans (hb2.mono hb.size)
    clear hb2 hr1 ht1 hb own
    go_wp2_with fail
    refine (specTreeKids_any w2.heap.size _ _ _ _ _ (Nat.le_refl _) hr2 hfit.out).mono ?_
    rintro e w3 ⟨kv', rfl, own', hb3⟩
    obtain ⟨ka', kc', rfl, hkc'⟩ := own_slice own'
    have hi3 := (hi2.below hb3).mono hb3.size
    have hi3' := (ints_of_own own').low
    have hr3 := (hr2.below hb3).mono hb3.size
    have b3 : Below w.heap.size w w3 := b2.trans (hb3.mono b2.size)
    clear hb3 hr2 b2 own' hi2
    go_wp2_with fail
    refine (lpInts_same w3.heap.size _ _ _ _ _ _ hi3 hi3' (HKL.out _)).mono ?_
    rintro e w4 ⟨rfl, hb4⟩
    have hi4 := (hi3.below hb4).mono hb4.size
    have hr4 := (hr3.below hb4).mono hb4.size
    have b4 : Below w.heap.size w w4 := b3.trans (hb4.mono b3.size)
    clear hb4 hr3 b3 hi3 hi3'
    go_wp2_with fail
    refine (specTreeOk_any w4.heap.size _ _ _ _ (Nat.le_refl _) hr4 hfit.out).mono ?_
    rintro e w5 ⟨rfl, hb5⟩
    have hi5 := (hi4.below hb5).mono hb5.size
    have hr5 := (hr4.below hb5).mono hb5.size
    have b5 : Below w.heap.size w w5 := b4.trans (hb5.mono b4.size)
    clear hb5 hr4 b4 hi4
    cases hT : treeB rs
    · go_wp2_with fail
      refine (specTreeKids_any w5.heap.size _ _ _ _ _ (Nat.le_refl _) hr5 hfit.out).mono ?_
      rintro e w6 ⟨kv', rfl, own', hb6⟩
      obtain ⟨ka', kc', rfl, hkc'⟩ := own_slice own'
      have hi6 := (hi5.below hb6).mono hb6.size
      have hi6' := (ints_of_own own').low
      have b6 : Below w.heap.size w w6 := b5.trans (hb6.mono b5.size)
      clear hb6 own' hi5
      go_wp2_with fail
      refine (lpInts_same w6.heap.size _ _ _ _ _ _ hi6 hi6' (HKL.out _)).mono ?_
      rintro e w7 ⟨rfl, hb7⟩
      go_wp2
      go_ret
      exact ⟨rfl, b6.trans (hb7.mono b6.size)⟩
    · have HS := Lib.hid (sumK_all hT)
      clear hT hi5
      go_wp2_with fail
      go_loopw [6, 7] (fun n i wr => ∃ k : Nat, k ≤ rs.length ∧ i = .int .i64 k ∧ n = .int .i64 (sumK rs k) ∧ Below w5.heap.size w5 wr) (fun _ i _ => rs.length - (intOf i).toNat)
      case atStart => exact ⟨0, Nat.zero_le _, rfl, rfl, Below.refl _ _⟩
      case round =>
        obtain ⟨k, hk, rfl, rfl, hbr⟩ := hrel
        have hrr := (hr5.below hbr).mono hbr.size
        have br : Below w.heap.size w wr := b5.trans (hbr.mono b5.size)
        have htr := ht.below br hz
        by_cases hlt : k < rs.length
        · obtain ⟨g, off, rfl, hg, c0, c1, c2⟩ := hrr.at_ hlt
          have i1 : (k : Int) < (rs.length : Int) := by omega
          have hsum := sumK_le k HKL.out
          have hkl := HKL.out (rat rs k).id
          have HN : Hid (sumK rs (k + 1) = sumK rs k + (kidsT rs (rat rs k).id).length) := rfl
          generalize sumK rs k = S at *
          generalize (rat rs k).id = v at *
          go_wp2_with fail
          refine (implTreeKids_any wr.heap.size _ _ _ _ _ (Nat.le_refl _) hrr hfit.out htr).mono ?_
          rintro e w6 ⟨kv, rfl, own, hb6⟩
          obtain ⟨ka, kc, rfl, hkc⟩ := own_slice own
          generalize (kidsT rs v).length = N at *
          go_wp2
          go_roundw
          case rel => exact ⟨k + 1, by omega, by go_num, by rw [HN.out]; push_cast; rfl, hbr.trans (hb6.mono hbr.size)⟩
          case measure => simp [intOf]; omega
        · obtain rfl : k = rs.length := by omega
          have hS := HS.out
          have he : ((sumK rs rs.length : Nat) : Int) = (rs.length : Int) - 3 := by omega
          rw [he]
          clear hS he
          go_wp2
          go_ret
          exact ⟨rfl, br⟩
  · go_enter Tryd.func8, Tryd.ntmps8
    go_wp2
    go_ret
    exact ⟨rfl, Below.refl _ _⟩
end Go.Proofs.YtiigkjpabbgnpaaDoor
