/-
  A row that lies in a block of its own. Conditions: none beyond the lemmas' own premises.
-/
import Derived.Test.YtefelnodahcolaaDoorRd
namespace Go.Proofs.YtefelnodahcolaaDoor
open Go.ChangeShapes Go.WideShapes Go.ChangeAt Go.RowKit Go.Joins

theorem below_set {B : Nat} {a w : World} (h : Below B a w) (k o : Nat) (hk : B ≤ k) (u : Value) : Below B a (w.setCell ⟨k, o, none⟩ u) := h.setCell hk u
/-- A row that lies in block k. -/
def RowAt (w : World) (k : Nat) (id d : Int) (t : ByteArray) : Prop :=
  (w.cell? ⟨k, 0, none⟩ = some (.int .i64 id) ∧ w.cell? ⟨k, 1, none⟩ = some (.int .i64 d) ∧ w.cell? ⟨k, 2, none⟩ = some (.string t)) ∧ w.frozen? ⟨k, 0, none⟩ = false ∧ w.frozen? ⟨k, 1, none⟩ = false ∧ w.frozen? ⟨k, 2, none⟩ = false
theorem RowAt.new (w : World) (id d : Int) (t : ByteArray) : RowAt (w.alloc (.cells #[.int .i64 id, .int .i64 d, .string t] 46)) w.heap.size id d t := by
  refine ⟨⟨?_, ?_, ?_⟩, ?_, ?_, ?_⟩ <;> simp [go_sem]
theorem RowAt.below {w w' : World} {k B : Nat} {id d : Int} {t : ByteArray} (h : RowAt w k id d t) (hb : Below B w w') (hk : k < B) : RowAt w' k id d t := by
  unfold RowAt
  rw [hb.cell hk, hb.cell hk, hb.cell hk, hb.frozen hk, hb.frozen hk, hb.frozen hk]; exact h
theorem RowAt.but {w w' : World} {k b B : Nat} {id d : Int} {t : ByteArray} (h : RowAt w k id d t) (hb : But b B w w') (hk : k < B) (hkb : k ≠ b) : RowAt w' k id d t := by
  unfold RowAt
  rw [hb.cell hk hkb, hb.cell hk hkb, hb.cell hk hkb, hb.frozen hk hkb, hb.frozen hk hkb, hb.frozen hk hkb]; exact h
end Go.Proofs.YtefelnodahcolaaDoor
