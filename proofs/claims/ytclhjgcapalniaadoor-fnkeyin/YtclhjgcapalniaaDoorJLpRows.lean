/-
  laws.lpRows: two slices that read as the same rows are the same. Conditions: both read; at most 1048576 rows.
-/
import Derived.Test.YtclhjgcapalniaaDoorGA
import Derived.Laws.StructEq
namespace Go.Proofs.YtclhjgcapalniaaDoor
open Go.ChangeShapes Go.WideShapes Go.ChangeAt Go.RowKit Go.Joins

set_option maxRecDepth 100000 in
set_option maxHeartbeats 2000000 in
theorem lpRows_same (B : Nat) (a a' : Option Addr) (cap cap' : Nat) (rs : List RowD) (w : World) (hB : B ≤ w.heap.size) (h : RowsAt B w a rs) (h' : RowsAt B w a' rs) (hl : rs.length ≤ 1048576) :
    Calls Tryd.prog 24 #[.slice a rs.length cap, .slice a' rs.length cap'] w (RetBelow (.bool true) w) := by
  go_enter Tryd.func24, Tryd.ntmps24
  go_wp2_with fail
  go_loopw [5] (fun t wr => ∃ k : Nat, k ≤ rs.length ∧ t = .int .i64 k ∧ Below w.heap.size w wr) (fun t _ => rs.length - (intOf t).toNat)
  case atStart => exact ⟨0, Nat.zero_le _, rfl, Below.refl _ _⟩
  case round =>
    obtain ⟨k, hk, rfl, hb⟩ := hrel
    have hr := h.below (hb.mono hB)
    have hr' := h'.below (hb.mono hB)
    by_cases hlt : k < rs.length
    · obtain ⟨b, off, rfl, hbB, c0, c1, c2⟩ := hr.at_ hlt
      obtain ⟨b', off', rfl, hbB', d0, d1, d2⟩ := hr'.at_ hlt
      have i1 : (k : Int) < (rs.length : Int) := by omega
      go_wp2_with fail
      go_region
      all_goals
        go_wp2
        go_roundw
        case rel => exact ⟨k + 1, by omega, by go_num, hb.drew⟩
        case measure => simp [intOf]; omega
    · go_wp2
      go_ret
      exact ⟨rfl, hb⟩
end Go.Proofs.YtclhjgcapalniaaDoor
