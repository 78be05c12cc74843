/-
  laws.lpSame: yes when every row's number stands in the other slice and the lengths agree. Conditions: both slices read; the second fits.
-/
import Derived.Test.YtmenlcdilogmjaaDoorGA
namespace Go.Proofs.YtmenlcdilogmjaaDoor
open Go.ChangeShapes Go.WideShapes Go.ChangeAt Go.RowKit Go.Joins

set_option maxRecDepth 100000 in
set_option maxHeartbeats 2000000 in
theorem lpSame_yes (B : Nat) (a a' : Option Addr) (cap cap' : Nat) (xs rs : List RowD) (w : World) (h : RowsAt B w a xs) (h' : RowsAt B w a' rs) (hf : Fit rs) (hxl : xs.length ≤ 1048576) (hl : xs.length = rs.length) (hm : ∀ i, i < xs.length → atN rs (rat xs i).id < rs.length) :
    Calls Tryd.prog 40 #[.slice a xs.length cap, .slice a' rs.length cap'] w fun e w' => e = .returned (.bool true) ∧ w = w' := by
  have hrl := hf.1
  have HA : Hid (∀ i, i < xs.length → Calls Tryd.prog 35 #[.slice a' rs.length cap', .int .i64 (rat xs i).id] w fun e w' => e = .returned (.int .i64 (atN rs (rat xs i).id : Nat)) ∧ w = w') := by
    intro i hi
    have := lpAt_any B a' cap' rs (rat xs i).id w h' hf
    rwa [atI_pos (hm i hi)] at this
  have hm' := Lib.hid hm
  have hl' := Lib.hid hl
  clear hm hl
  go_enter Tryd.func40, Tryd.ntmps40
  go_wp2_with fail
  go_loopw [5] (fun t wr => ∃ k : Nat, k ≤ xs.length ∧ t = .int .i64 k ∧ w = wr) (fun t _ => xs.length - (intOf t).toNat)
  case atStart => exact ⟨0, Nat.zero_le _, rfl, rfl⟩
  case round =>
    obtain ⟨k, hk, rfl, rfl⟩ := hrel
    by_cases hlt : k < xs.length
    · obtain ⟨b, off, rfl, hbB, c0, c1, c2⟩ := h.at_ hlt
      have i1 : (k : Int) < (xs.length : Int) := by omega
      have hq := hm'.out k hlt
      have HK := Lib.hid (HA.out k hlt)
      generalize (rat xs k).id = z at *
      generalize atN rs z = q at *
      go_wp2_with fail
      refine HK.out.mono ?_
      rintro e w' ⟨rfl, rfl⟩
      go_wp2
      go_roundw
      case rel => exact ⟨k + 1, by omega, by go_num, trivial⟩
      case measure => simp [intOf]; omega
    · have hl := hl'.out
      go_wp2
      go_ret
      exact ⟨by first | rfl | simp, rfl⟩
end Go.Proofs.YtmenlcdilogmjaaDoor
