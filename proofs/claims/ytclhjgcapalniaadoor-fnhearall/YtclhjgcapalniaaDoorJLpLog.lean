/-
  The laws' own helpers lpLog and lpHas. Conditions: as each theorem says.
-/
import Derived.Test.YtclhjgcapalniaaDoorGP
namespace Go.Proofs.YtclhjgcapalniaaDoor
open Go.ChangeShapes Go.WideShapes Go.ChangeAt Go.RowKit Go.Joins

set_option maxRecDepth 100000 in
set_option maxHeartbeats 4000000 in
theorem lpLog_same (B : Nat) (a a' : Option Addr) (cap cap' : Nat) (es : List EntD) (w : World) (hB : B ≤ w.heap.size) (h : EntsAt B w a es) (h' : EntsAt B w a' es) (hl : es.length ≤ 1048576) :
    Calls Tryd.prog 69 #[.slice a es.length cap, .slice a' es.length cap'] w (RetBelow (.bool true) w) := by
  go_enter Tryd.func69, Tryd.ntmps69
  go_wp2_with fail
  go_loopw [5] (fun t wr => ∃ k : Nat, k ≤ es.length ∧ t = .int .i64 k ∧ Below w.heap.size w wr) (fun t _ => es.length - (intOf t).toNat)
  case atStart => exact ⟨0, Nat.zero_le _, rfl, Below.refl _ _⟩
  case round =>
    obtain ⟨k, hk, rfl, hb⟩ := hrel
    have hr := h.below (hb.mono hB)
    have hr' := h'.below (hb.mono hB)
    by_cases hlt : k < es.length
    · obtain ⟨b, off, rfl, hbB, c0, c1, c2, c3, c4, c5, c6⟩ := hr.at_ hlt
      obtain ⟨b', off', rfl, hbB', d0, d1, d2, d3, d4, d5, d6⟩ := hr'.at_ hlt
      have i1 : (k : Int) < (es.length : Int) := by omega
      generalize eat es k = e at *
      clear hr hr'
      go_wp2_with fail
      go_region
      all_goals
        go_wp2
        go_roundw
        case rel => exact ⟨k + 1, by omega, by go_num, hb.drew⟩
        case measure => simp [intOf]; omega
    · go_wp2
      go_ret
      exact ⟨rfl, hb⟩
end Go.Proofs.YtclhjgcapalniaaDoor
