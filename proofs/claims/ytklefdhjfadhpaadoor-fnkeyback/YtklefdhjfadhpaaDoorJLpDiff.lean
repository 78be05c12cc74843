/-
  laws.lpRows: two slices that read as different rows differ. Conditions: both read; at most 1048576 rows.
-/
import Derived.Test.YtklefdhjfadhpaaDoorJLpRows
import Derived.Test.YtklefdhjfadhpaaDoorJSlEq
namespace Go.Proofs.YtklefdhjfadhpaaDoor
open Go.ChangeShapes Go.WideShapes Go.ChangeAt Go.RowKit Go.Joins

set_option maxRecDepth 100000 in
set_option maxHeartbeats 4000000 in
theorem lpRows_diff (a a' : Option Addr) (cap cap' : Nat) (l m : List RowD) (w : World) (h : RowsAt w.heap.size w a l) (h' : RowsAt w.heap.size w a' m) (hl : l.length ≤ 1048576) (_hm : m.length ≤ 1048576) (hne : l ≠ m) :
    Calls Tryd.prog 29 #[.slice a l.length cap, .slice a' m.length cap'] w (RetBelow (.bool false) w) := by
  by_cases hlen : l.length = m.length
  · have HE : Hid ((∀ i, i < l.length → rat l i = rat m i) → False) := fun g => hne (rows_ext hlen g)
    have HL := Lib.hid hlen
    have hlI : (l.length : Int) = (m.length : Int) := by omega
    clear hne hlen
    go_enter Tryd.func29, Tryd.ntmps29
    go_wp2_with fail
    go_loopw [5] (fun t wr => ∃ k : Nat, k ≤ l.length ∧ t = .int .i64 k ∧ Hid (∀ i, i < k → rat l i = rat m i) ∧ Below w.heap.size w wr) (fun t _ => l.length - (intOf t).toNat)
    case atStart => exact ⟨0, Nat.zero_le _, rfl, fun i hi => by omega, Below.refl _ _⟩
    case round =>
      obtain ⟨k, hk, rfl, hpre, hb⟩ := hrel
      have hr := h.below hb
      have hr' := h'.below hb
      by_cases hlt : k < l.length
      · obtain ⟨b, off, rfl, hbB, c0, c1, c2⟩ := hr.at_ hlt
        obtain ⟨b', off', rfl, hbB', d0, d1, d2⟩ := hr'.at_ (show k < m.length by have := HL.out; omega)
        have i1 : (k : Int) < (l.length : Int) := by omega
        have i2 : (k : Int) < (m.length : Int) := by omega
        by_cases he : rat l k = rat m k
        · have HP : Hid (∀ i, i < k + 1 → rat l i = rat m i) := fun i hi => by
            by_cases q : i = k
            · rw [q]; exact he
            · exact hpre.out i (by omega)
          rw [← he] at d0 d1 d2
          clear he hpre
          go_wp2_with fail
          go_region
          all_goals
            go_wp2
            go_roundw
            case rel => exact ⟨k + 1, by omega, by go_num, HP, hb.drew⟩
            case measure => simp [intOf]; omega
        · have hb' := hb.drew
          have hp := row_parts he
          clear hpre he
          generalize rat l k = r at *
          generalize rat m k = s at *
          rcases hp with h1 | ⟨h1, h2⟩ | ⟨h1, h2, h3⟩
          · go_wp2_with fail
            go_region
            all_goals
              go_wp2
              go_ret
              exact ⟨by first | rfl | simp, hb'⟩
          · go_wp2_with fail
            go_region
            all_goals
              go_wp2
              go_ret
              exact ⟨by first | rfl | simp, hb'⟩
          · go_wp2_with fail
            go_region
            all_goals
              go_wp2
              go_ret
              exact ⟨by first | rfl | simp, hb'⟩
      · exact absurd (fun i hi => hpre.out i (by omega)) HE.out
  · have hlI : ¬ (l.length : Int) = (m.length : Int) := by omega
    have hlI' : ((l.length : Int) == (m.length : Int)) = false := beq_eq_false_iff_ne.2 hlI
    clear hne hlen
    go_enter Tryd.func29, Tryd.ntmps29
    go_wp2
    go_ret
    exact ⟨by first | rfl | simp, Below.refl _ _⟩
end Go.Proofs.YtklefdhjfadhpaaDoor
