/-
  The laws' own helpers szRowS, and szEntryS from any number on: what is left. Conditions: as each theorem says.
-/
import Derived.Test.YtogafpfgdonlmaaDoorGN
namespace Go.Proofs.YtogafpfgdonlmaaDoor
open Go.ChangeShapes Go.WideShapes Go.ChangeAt Go.RowKit Go.Joins

def SizedR (rs : List RowD) (w : World) (e : Ending) (w' : World) : Prop := ∃ z : Int, e = .returned (.int .i64 z) ∧ (z < 0 ∨ (0 ≤ z ∧ z ≤ 1048576 - (rs.length : Int))) ∧ Below w.heap.size w w'
theorem szRowS_left (B : Nat) (a : Option Addr) (cap : Nat) (rs : List RowD) (w : World) (hB : B ≤ w.heap.size) (h : RowsAt B w a rs) (hf : FitW rs) (hl : rs.length ≤ maxLen) :
    Calls Tryd.prog 20 #[.slice a rs.length cap, .int .i64 1048576] w (SizedR rs w) := by
  unfold maxLen at hl
  by_cases h0 : (1048576 : Int) - (rs.length : Int) < 0
  · go_enter Tryd.func20, Tryd.ntmps20
    go_wp2
    go_ret
    exact ⟨-1, rfl, .inl (by decide), Below.refl _ _⟩
  · have hlen : rs.length ≤ 1048576 := by omega
    go_enter Tryd.func20, Tryd.ntmps20
    go_wp2_with fail
    go_loopw [1, 5] (fun l t wr => ∃ (k : Nat) (z : Int), k ≤ rs.length ∧ t = .int .i64 k ∧ l = .int .i64 z ∧ 0 ≤ z ∧ z ≤ 1048576 - (rs.length : Int) ∧ Below w.heap.size w wr) (fun _ t _ => rs.length - (intOf t).toNat)
    case atStart => exact ⟨0, _, Nat.zero_le _, rfl, rfl, by omega, by omega, Below.refl _ _⟩
    case round =>
      obtain ⟨k, z, hk, rfl, rfl, z0, z1, hb⟩ := hrel
      have hr := h.below (hb.mono hB)
      by_cases hlt : k < rs.length
      · obtain ⟨b, off, rfl, hbB, c0, c1, c2⟩ := hr.at_ hlt
        obtain ⟨f1, f2, f3⟩ := hf k hlt
        by_cases hz : z - ((rat rs k).txt.size : Int) < 0
        · go_wp2_with fail
          refine (szRow_neg _ _ _ _ _ f3 z0 (by omega) hz).mono ?_
          rintro e w1 ⟨rfl, hb1⟩
          go_wp2
          go_ret
          exact ⟨-1, rfl, .inl (by decide), hb.trans (hb1.mono hb.size)⟩
        · have hz' : 0 ≤ z - ((rat rs k).txt.size : Int) := by omega
          have hz2 : z - ((rat rs k).txt.size : Int) ≤ 1048576 - (rs.length : Int) := by omega
          go_wp2_with fail
          refine (szRow_pos _ _ _ _ _ f3 (by omega) hz').mono ?_
          rintro e w1 ⟨rfl, hb1⟩
          generalize z - ((rat rs k).txt.size : Int) = z' at *
          clear hz
          go_wp2
          go_roundw
          case rel => exact ⟨k + 1, z', by omega, by go_num, rfl, hz', hz2, hb.trans (hb1.mono hb.size)⟩
          case measure => simp [intOf]; omega
      · go_wp2
        go_ret
        exact ⟨z, rfl, .inr ⟨z0, z1⟩, hb⟩
def SizedF (z0 : Int) (es : List EntD) (w : World) (e : Ending) (w' : World) : Prop := ∃ z : Int, e = .returned (.int .i64 z) ∧ (z < 0 ∨ (0 ≤ z ∧ z ≤ 1048576 ∧ (es.length : Int) ≤ z0)) ∧ Below w.heap.size w w'
theorem szEntryS_left (q0 : Int) (hq0 : 0 ≤ q0) (hq1 : q0 ≤ 1048576) (B : Nat) (a : Option Addr) (cap : Nat) (es : List EntD) (w : World) (hB : B ≤ w.heap.size) (h : EntsAt B w a es) (hf : ∀ i, i < es.length → EFit (eat es i)) (hl : es.length ≤ maxLen) :
    Calls Tryd.prog 14 #[.slice a es.length cap, .int .i64 q0] w (SizedF q0 es w) := by
  unfold maxLen at hl
  by_cases h0 : q0 - (es.length : Int) < 0
  · go_enter Tryd.func14, Tryd.ntmps14
    go_wp2
    go_ret
    exact ⟨-1, rfl, .inl (by decide), Below.refl _ _⟩
  · have hlen : (es.length : Int) ≤ q0 := by omega
    go_enter Tryd.func14, Tryd.ntmps14
    go_wp2_with fail
    go_loopw [1, 5] (fun l t wr => ∃ (k : Nat) (z : Int), k ≤ es.length ∧ t = .int .i64 k ∧ l = .int .i64 z ∧ 0 ≤ z ∧ z ≤ 1048576 ∧ Below w.heap.size w wr) (fun _ t _ => es.length - (intOf t).toNat)
    case atStart => exact ⟨0, _, Nat.zero_le _, rfl, rfl, by omega, by omega, Below.refl _ _⟩
    case round =>
      obtain ⟨k, z, hk, rfl, rfl, z0, z1, hb⟩ := hrel
      have hr := h.below (hb.mono hB)
      by_cases hlt : k < es.length
      · obtain ⟨b, off, rfl, hbB, c0, c1, c2, c3, c4, c5, c6⟩ := hr.at_ hlt
        have f3 := (hf k hlt).op.txt
        have i1 : (k : Int) < (es.length : Int) := by omega
        go_wp2_with fail
        refine (szEntry_any (eat es k) _ _ f3 z1 z0).mono ?_
        rintro _ w1 ⟨z', hz1, rfl, hb1⟩
        have hb2 := hb.trans (hb1.mono hb.size)
        by_cases hz : z' < 0
        · go_wp2
          go_ret
          exact ⟨-1, rfl, .inl (by decide), hb2⟩
        · have hz0 : 0 ≤ z' := by omega
          go_wp2
          go_roundw
          case rel => exact ⟨k + 1, z', by omega, by go_num, rfl, hz0, hz1, hb2⟩
          case measure => simp [intOf]; omega
      · go_wp2
        go_ret
        exact ⟨z, rfl, .inr ⟨z0, z1, hlen⟩, hb⟩

end Go.Proofs.YtogafpfgdonlmaaDoor
