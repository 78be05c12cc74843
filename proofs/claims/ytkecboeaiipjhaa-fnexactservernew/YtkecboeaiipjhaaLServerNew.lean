/-
  The walk of the law FnExactServerNew: each call makes a running server without entries. Conditions: none.
-/
import Derived.Test.YtkecboeaiipjhaaBx0
namespace Go.Proofs.Ytkecboeaiipjhaa
open Go.ChangeShapes Go.WideShapes Go.ChangeAt Go.RowKit

def RetNew (w : World) (r : Ending) (w' : World) : Prop := ∃ a, r = .returned (.agg #[.slice a 0 0, .int .i64 0, .bool true]) ∧ Below w.heap.size w w'
def RetB (v : Value) (w : World) (r : Ending) (w' : World) : Prop := r = .returned v ∧ Below w.heap.size w w'
theorem specServerNew_any (w : World) : Calls Try.prog 4 #[] w (RetNew w) := by
  go_enter Try.func4, Try.ntmps4
  go_wp2
  exact bodyPost_ret (v := .agg #[.slice (some ⟨w.heap.size + 1, 0, none⟩) 0 0, .int .i64 0, .bool true]) (by simp [results, Try.results4, go_sem]) rfl ⟨_, rfl, ((Below.refl _ _).alloc (Nat.le_refl _) _).alloc (by simp) _⟩
theorem implServerNew_any (w : World) : Calls Try.prog 5 #[] w (RetNew w) := by
  go_enter Try.func5, Try.ntmps5
  go_wp2
  exact bodyPost_ret (v := .agg #[.slice none 0 0, .int .i64 0, .bool true]) (by simp [results, Try.results5, go_sem]) rfl ⟨_, rfl, (Below.refl _ _).alloc (Nat.le_refl _) _⟩
theorem eqEntryS_0 (a a' : Option Addr) (w : World) : Calls Try.prog 9 #[.slice a 0 0, .slice a' 0 0] w (fun e w' => e = .returned (.bool true) ∧ w = w') := by
  go_enter Try.func9, Try.ntmps9
  go_wp2_with fail
  go_loopw [5] (fun t wr => t = .int .i64 0 ∧ wr = w) (fun _ _ => 0)
  case atStart => exact ⟨rfl, rfl⟩
  case round =>
    obtain ⟨rfl, rfl⟩ := hrel
    go_wp2
    go_ret
    exact ⟨rfl, rfl⟩
theorem markEntryS_0 (a : Option Addr) (w : World) : Calls Try.prog 10 #[.slice a 0 0, .int .i64 1] w (fun e w' => e = .returned (.int .i64 1) ∧ w = w') := by
  go_enter Try.func10, Try.ntmps10
  go_wp2_with fail
  go_loopw [1, 5] (fun m t wr => m = .int .i64 1 ∧ t = .int .i64 0 ∧ wr = w) (fun _ _ _ => 0)
  case atStart => exact ⟨rfl, rfl, rfl⟩
  case round =>
    obtain ⟨rfl, rfl, rfl⟩ := hrel
    go_wp2
    go_ret
    exact ⟨rfl, rfl⟩
theorem heldEntryS_0 (a : Option Addr) (w : World) : Calls Try.prog 11 #[.slice a 0 0, .int .i64 1] w (fun e w' => e = .returned (.int .i64 1) ∧ w = w') := by
  go_enter Try.func11, Try.ntmps11
  go_wp2_with fail
  go_loopw [1, 5] (fun m t wr => m = .int .i64 1 ∧ t = .int .i64 0 ∧ wr = w) (fun _ _ _ => 0)
  case atStart => exact ⟨rfl, rfl, rfl⟩
  case round =>
    obtain ⟨rfl, rfl, rfl⟩ := hrel
    go_wp2
    go_ret
    exact ⟨rfl, rfl⟩
theorem eqServer_0 (a a' : Option Addr) (w : World) : Calls Try.prog 6 #[.agg #[.slice a 0 0, .int .i64 0, .bool true], .agg #[.slice a' 0 0, .int .i64 0, .bool true]] w (RetB (.bool true) w) := by
  go_enter Try.func6, Try.ntmps6
  go_wp2_with fail
  refine (eqEntryS_0 a a' _).mono ?_
  rintro _ _ ⟨rfl, rfl⟩
  go_wp2
  go_ret
  exact ⟨rfl, ((Below.refl _ _).alloc (Nat.le_refl _) _).alloc (by simp) _⟩
theorem markServer_0 (a : Option Addr) (w : World) : Calls Try.prog 7 #[.agg #[.slice a 0 0, .int .i64 0, .bool true], .int .i64 1] w (RetB (.int .i64 1) w) := by
  go_enter Try.func7, Try.ntmps7
  go_wp2_with fail
  refine (markEntryS_0 a _).mono ?_
  rintro _ _ ⟨rfl, rfl⟩
  go_wp2
  go_ret
  exact ⟨rfl, (Below.refl _ _).alloc (Nat.le_refl _) _⟩
theorem heldServer_0 (a : Option Addr) (w : World) : Calls Try.prog 8 #[.agg #[.slice a 0 0, .int .i64 0, .bool true], .int .i64 1] w (RetB (.int .i64 1) w) := by
  go_enter Try.func8, Try.ntmps8
  go_wp2_with fail
  refine (heldEntryS_0 a _).mono ?_
  rintro _ _ ⟨rfl, rfl⟩
  go_wp2
  go_ret
  exact ⟨rfl, (Below.refl _ _).alloc (Nat.le_refl _) _⟩
set_option maxRecDepth 100000 in
set_option maxHeartbeats 1000000 in
theorem fnExactServerNew_walk (w : World) : Calls Try.prog 3 #[] w fun e w' => e = .returned (.bool true) ∧ Below w.heap.size w w' := by
  go_enter Try.func3, Try.ntmps3
  go_wp2_with fail
  refine (specServerNew_any _).mono ?_
  rintro _ w1 ⟨a1, rfl, b1⟩
  have X1 := Bx.new w1 24 #[.slice a1 0 0, .int .i64 0, .bool true]
  have c1 := b1.alloc b1.size (.cells #[.slice a1 0 0, .int .i64 0, .bool true] 24)
  have hs1 : w1.heap.size < (w1.alloc (.cells #[.slice a1 0 0, .int .i64 0, .bool true] 24)).heap.size := by simp
  clear b1
  go_upto_region 2 with fail
  generalize w1.alloc (.cells #[.slice a1 0 0, .int .i64 0, .bool true] 24) = w2 at *
  generalize w1.heap.size = B1 at *
  go_wp2_with fail
  refine (implServerNew_any _).mono ?_
  rintro _ w3 ⟨a2, rfl, b3⟩
  have X3 := X1.below b3 X1.lt
  have c3 := c1.trans (b3.mono c1.size)
  have Y3 := Bx.new w3 24 #[.slice a2 0 0, .int .i64 0, .bool true]
  have d3 := c3.alloc c3.size (.cells #[.slice a2 0 0, .int .i64 0, .bool true] 24)
  have X4 := X3.alloc (.cells #[.slice a2 0 0, .int .i64 0, .bool true] 24)
  clear X1 X3 c1 c3 b3 hs1
  go_upto_region 3 with fail
  generalize w3.alloc (.cells #[.slice a2 0 0, .int .i64 0, .bool true] 24) = w4 at *
  generalize w3.heap.size = B2 at *
  obtain ⟨x0, x1, x2⟩ := X4.srv
  obtain ⟨y0, y1, y2⟩ := Y3.srv
  go_wp2_with fail
  refine (eqServer_0 a2 a1 _).mono ?_
  rintro _ w5 ⟨rfl, b5⟩
  have X5 := X4.below b5 X4.lt
  have Y5 := Y3.below b5 Y3.lt
  have d5 := d3.trans (b5.mono d3.size)
  clear X4 Y3 d3 b5 x0 x1 x2 y0 y1 y2
  obtain ⟨y0, y1, y2⟩ := Y5.srv
  go_wp2_with fail
  refine (markServer_0 a2 _).mono ?_
  rintro _ w6 ⟨rfl, b6⟩
  have X6 := X5.below b6 X5.lt
  have Y6 := Y5.below b6 Y5.lt
  have d6 := d5.trans (b6.mono d5.size)
  clear X5 Y5 d5 b6 y0 y1 y2
  obtain ⟨y0, y1, y2⟩ := Y6.srv
  go_wp2_with fail
  refine (heldServer_0 a2 _).mono ?_
  rintro _ w7 ⟨rfl, b7⟩
  have X7 := X6.below b7 X6.lt
  have Y7 := Y6.below b7 Y6.lt
  have d7 := d6.trans (b7.mono d6.size)
  clear X6 Y6 d6 b7 y0 y1 y2
  go_wp2_with fail
  refine (implServerNew_any _).mono ?_
  rintro _ w8 ⟨a3, rfl, b8⟩
  have X8 := (X7.below b8 X7.lt).alloc (.cells #[.slice a3 0 0, .int .i64 0, .bool true] 24)
  have Y8 := (Y7.below b8 Y7.lt).alloc (.cells #[.slice a3 0 0, .int .i64 0, .bool true] 24)
  have d8 := d7.trans (b8.mono d7.size)
  have Z8 := Bx.new w8 24 #[.slice a3 0 0, .int .i64 0, .bool true]
  have d9 := d8.alloc d8.size (.cells #[.slice a3 0 0, .int .i64 0, .bool true] 24)
  clear X7 Y7 d7 d8 b8
  go_upto_region 14 with fail
  generalize w8.alloc (.cells #[.slice a3 0 0, .int .i64 0, .bool true] 24) = w9 at *
  generalize w8.heap.size = B3 at *
  obtain ⟨x0, x1, x2⟩ := X8.srv
  obtain ⟨y0, y1, y2⟩ := Z8.srv
  go_wp2_with fail
  refine (eqServer_0 a3 a1 _).mono ?_
  rintro _ wa ⟨rfl, ba⟩
  have Ya := Y8.below ba Y8.lt
  have da := d9.trans (ba.mono d9.size)
  clear X8 Y8 Z8 d9 ba x0 x1 x2 y0 y1 y2
  obtain ⟨y0, y1, y2⟩ := Ya.srv
  go_wp2_with fail
  refine (heldServer_0 a2 _).mono ?_
  rintro _ wb ⟨rfl, bb⟩
  have db := da.trans (bb.mono da.size)
  go_wp2
  go_ret
  exact ⟨rfl, db⟩
end Go.Proofs.Ytkecboeaiipjhaa
