/-
  laws.lpInts: two slices that read as the same numbers are the same. Conditions: both read; at most 1048576 numbers.
-/
import Derived.Test.YtclhjgcapalniaaDoorGA
namespace Go.Proofs.YtclhjgcapalniaaDoor
open Go.ChangeShapes Go.WideShapes Go.ChangeAt Go.RowKit Go.Joins

set_option maxRecDepth 100000 in
theorem lpInts_eq (B : Nat) (a a' : Option Addr) (cap cap' : Nat) (xs : List Int) (w : World) (hB : B ≤ w.heap.size) (h : IntsLow B w a xs) (h' : IntsLow B w a' xs) (hl : xs.length ≤ 1048576) :
    Calls Tryd.prog 17 #[.slice a xs.length cap, .slice a' xs.length cap'] w (RetBelow (.bool true) w) := by
  go_enter Tryd.func17, Tryd.ntmps17
  go_wp2_with fail
  go_loopw [5] (fun t wr => ∃ k : Nat, k ≤ xs.length ∧ t = .int .i64 k ∧ Below w.heap.size w wr) (fun t _ => xs.length - (intOf t).toNat)
  case atStart => exact ⟨0, Nat.zero_le _, rfl, Below.refl _ _⟩
  case round =>
    obtain ⟨k, hk, rfl, hb⟩ := hrel
    have hr := h.below (hb.mono hB)
    have hr' := h'.below (hb.mono hB)
    by_cases hlt : k < xs.length
    · obtain ⟨b, rfl, hbB, c0⟩ := hr.at_ hlt
      obtain ⟨b', rfl, hbB', d0⟩ := hr'.at_ hlt
      have i1 : (k : Int) < (xs.length : Int) := by omega
      go_wp2_with fail
      go_region
      all_goals
        go_wp2
        go_roundw
        case rel => exact ⟨k + 1, by omega, by go_num, hb.drew⟩
        case measure => simp [intOf]; omega
    · go_wp2
      go_ret
      exact ⟨rfl, hb⟩
end Go.Proofs.YtclhjgcapalniaaDoor
