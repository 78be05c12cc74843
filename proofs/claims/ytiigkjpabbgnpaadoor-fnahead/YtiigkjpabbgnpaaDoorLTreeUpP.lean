/-
  The walk of the law FnTreeUp out of the contracts. Conditions: the argument reads as bytes; the table 'creators' holds what its initialiser lays.
-/
import Derived.Test.YtiigkjpabbgnpaaDoorLDeep
import Derived.Test.YtiigkjpabbgnpaaDoorKidMath
namespace Go.Proofs.YtiigkjpabbgnpaaDoor
open Go.ChangeShapes Go.WideShapes Go.ChangeAt Go.RowKit Go.Joins

theorem kidsT_len {rs : List RowD} (hl : rs.length ≤ 1048576) (id : Int) : (kidsT rs id).length ≤ 1048576 := by
  unfold kidsT
  split
  · unfold kidsL
    split
    · rename_i h
      have h2 : enR rs (atN rs id) ≤ rs.length := (en_spec (D := rdep rs) h).2.1
      have := kidsOf_len rs (atN rs id) (enR rs (atN rs id) - (atN rs id + 1)) (atN rs id + 1)
      unfold kidsAt; omega
    · simp
  · simp
set_option maxRecDepth 100000 in
set_option maxHeartbeats 2000000 in
theorem fnTreeUp_walk (w : World) (ht : Tab w) (a0 : Option Addr) (len0 cap0 : Nat) (b0 : Bytes w a0 len0 cap0) :
    Calls Tryd.prog 4 #[.slice a0 len0 cap0] w fun e w' => e = .returned (.bool true) ∧ Below w.heap.size w w' := by
  have hz := ht.pos
  have hm : len0 ≤ 9223372036854775807 := by have := Nat.le_trans b0.1 b0.2.1; unfold maxLen at this; omega
  by_cases l0 : (len0 : Int) ≤ 1048576
  · go_enter Tryd.func4, Tryd.ntmps4
    go_wp2_with fail
    refine (drawTreeUp_any _ _ _ _ b0).mono ?_
    rintro e w1 ⟨a, cap, rs, z, rfl, z0, z1, hl, hb⟩
    have hlen := hl.len
    have hfit := Lib.hid hl.fit
    have hr1 := hl.rows
    clear hl b0
    go_wp2_with fail
    refine (specTreeUp_any w1.heap.size _ _ _ _ _ (Nat.le_refl _) hr1 hfit.out).mono ?_
    rintro e w2 ⟨rfl, hb2⟩
    have hr2 := (hr1.below hb2).mono hb2.size
    have b2 : Below w.heap.size w w2 := hb.trans (hb2.mono hb.size)
    have ht2 := ht.below b2 hz
    clear hb2 hr1 hb
    go_wp2_with fail
    refine (implTreeUp_any w2.heap.size _ _ _ _ _ (Nat.le_refl _) hr2 hfit.out ht2).mono ?_
    rintro e w3 ⟨rfl, hb3⟩
    have hr3 := (hr2.below hb3).mono hb3.size
    have b3 : Below w.heap.size w w3 := b2.trans (hb3.mono b2.size)
    clear hb3 hr2 b2 ht2
    cases hh : hasB rs z
    · generalize upI rs z = up
      go_wp2
      go_ret
      exact ⟨rfl, b3⟩
    · have HE : Hid (∀ k, k < rs.length → amongB (kidsT rs (rat rs k).id) z = ((rat rs k).id == upI rs z)) := fun k hk => among_up hh hk
      obtain ⟨_, hN⟩ := hasB_iff.1 hh
      have HA : Hid (atI rs z = (atN rs z : Int)) := atI_pos hN
      have HKL : Hid (∀ id, (kidsT rs id).length ≤ 1048576) := fun id => kidsT_len (by omega) id
      clear hh
      generalize upI rs z = up at *
      go_wp2_with fail
      go_loopw [9] (fun i wr => ∃ k : Nat, k ≤ rs.length ∧ i = .int .i64 k ∧ Below w3.heap.size w3 wr) (fun i _ => rs.length - (intOf i).toNat)
      case atStart => exact ⟨0, Nat.zero_le _, rfl, Below.refl _ _⟩
      case round =>
        obtain ⟨k, hk, rfl, hbr⟩ := hrel
        have hrr := (hr3.below hbr).mono hbr.size
        have br : Below w.heap.size w wr := b3.trans (hbr.mono b3.size)
        have htr := ht.below br hz
        by_cases hlt : k < rs.length
        · have hE := HE.out k hlt
          obtain ⟨g, off, rfl, hg, c0, c1, c2⟩ := hrr.at_ hlt
          have i1 : (k : Int) < (rs.length : Int) := by omega
          generalize hv : (rat rs k).id = v at *
          have hrd : RowsAt wr.drew.heap.size wr.drew (some ⟨g, off, none⟩) rs := hrr
          have htd : Tab wr.drew := htr
          go_upto_region 11 with fail
          go_cut [72] (fun s wx => s = .bool false ∧ Below wr.heap.size wr wx)
          case first =>
            go_region_with (first | (go_at_call 21; refine (implTreeKids_any wr.drew.heap.size _ _ _ _ _ (Nat.le_refl _) hrd hfit.out htd).mono ?_; rintro e w4 ⟨kv, rfl, own, hb4⟩; obtain ⟨ka, kc, rfl, hkc⟩ := own_slice own; have d0 := (hb4.cell (p := ⟨g, off + k * 3, none⟩) hg).trans c0) | (go_at_call 20; refine (lpAmong_any w4.heap.size _ _ _ _ _ (ints_of_own own).low (HKL.out _)).mono ?_; rintro e w5 ⟨rfl, rfl⟩; rw [hE]))
            all_goals
              go_wp2
              go_meet
              exact ⟨by simp, ((Below.refl wr.heap.size wr).drew).trans hb4⟩
          case rest =>
            obtain ⟨rfl, hbc⟩ := hcut
            go_wp2
            go_roundw
            case rel => exact ⟨k + 1, by omega, by go_num, hbr.trans (hbc.mono hbr.size)⟩
            case measure => simp [intOf]; omega
        · go_wp2_with fail
          refine (lpAt_any _ _ _ _ _ _ hrr hfit.out).mono ?_
          rintro e w4 ⟨rfl, rfl⟩
          rw [HA.out]
          go_wp2
          go_ret
          exact ⟨rfl, br⟩
  · go_enter Tryd.func4, Tryd.ntmps4
    go_wp2
    go_ret
    exact ⟨rfl, Below.refl _ _⟩
end Go.Proofs.YtiigkjpabbgnpaaDoor
