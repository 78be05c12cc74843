/-
  Boxes of struct variables. Conditions: as each theorem says.
-/
import Derived.Test.YtkecboeaiipjhaaFrame
import Derived.Lib.Hide
import Derived.Deep.OwnRows
import Derived.Deep.Cut
namespace Go.Proofs.Ytkecboeaiipjhaa
open Go.ChangeShapes Go.WideShapes Go.ChangeAt Go.RowKit

/-- Block B is a variable's box with these cells. -/
def Bx (w : World) (B : Nat) (t : TypeId) (cs : Array Value) : Prop := w.heap[B]? = some (.cells cs t (0, 0))
theorem Bx.lt {w : World} {B : Nat} {t : TypeId} {cs : Array Value} (h : Bx w B t cs) : B < w.heap.size := (Array.getElem?_eq_some_iff.1 h).1
theorem Bx.cell {w : World} {B : Nat} {t : TypeId} {cs : Array Value} (h : Bx w B t cs) (j : Nat) {v : Value} (hv : cs[j]? = some v) : w.cell? ⟨B, j, none⟩ = some v := by
  simp [World.cell?, show w.heap[B]? = _ from h, hv]
theorem Bx.frozen {w : World} {B : Nat} {t : TypeId} {cs : Array Value} (h : Bx w B t cs) (j : Nat) : w.frozen? ⟨B, j, none⟩ = false := by simp [World.frozen?, show w.heap[B]? = _ from h]
theorem Bx.below {w w' : World} {B n : Nat} {t : TypeId} {cs : Array Value} (h : Bx w B t cs) (hb : Below n w w') (hn : B < n) : Bx w' B t cs := (hb.block B hn).trans h
theorem Bx.new (w : World) (t : TypeId) (cs : Array Value) : Bx (w.alloc (.cells cs t)) w.heap.size t cs := heap_alloc_new _ _
theorem Bx.put {w : World} {B : Nat} {t : TypeId} {cs : Array Value} (h : Bx w B t cs) (j : Nat) (v : Value) : Bx (w.setCell ⟨B, j, none⟩ v) B t (cs.setIfInBounds j v) := by unfold Bx at h ⊢; simp [World.setCell, Array.getElem?_modify, h]
theorem Bx.other {w : World} {B B' j : Nat} {t : TypeId} {cs : Array Value} (h : Bx w B t cs) (hne : B ≠ B') (v : Value) : Bx (w.setCell ⟨B', j, none⟩ v) B t cs := (Below.heap_setCell _ _ _ _ hne).trans h
theorem Bx.alloc {w : World} {B : Nat} {t : TypeId} {cs : Array Value} (h : Bx w B t cs) (o : Obj) : Bx (w.alloc o) B t cs := h.below ((Below.refl w.heap.size w).alloc (Nat.le_refl _) o) h.lt
theorem Bx.drew {w : World} {B : Nat} {t : TypeId} {cs : Array Value} (h : Bx w B t cs) : Bx w.drew B t cs := h
theorem Bx.srv {w : World} {B : Nat} {t : TypeId} {a : Option Addr} {n c : Nat} {sf : Int} {up : Bool} (h : Bx w B t #[.slice a n c, .int .i64 sf, .bool up]) : w.cell? ⟨B, 0, none⟩ = some (.slice a n c) ∧ w.cell? ⟨B, 1, none⟩ = some (.int .i64 sf) ∧ w.cell? ⟨B, 2, none⟩ = some (.bool up) :=
  ⟨h.cell 0 rfl, h.cell 1 rfl, h.cell 2 rfl⟩
theorem Bx.host {w : World} {B : Nat} {t : TypeId} {v q : Value} {sf : Int} {up : Bool} (h : Bx w B t #[v, .int .i64 sf, q, .bool up]) : w.cell? ⟨B, 0, none⟩ = some v ∧ w.cell? ⟨B, 1, none⟩ = some (.int .i64 sf) ∧ w.cell? ⟨B, 2, none⟩ = some q ∧ w.cell? ⟨B, 3, none⟩ = some (.bool up) :=
  ⟨h.cell 0 rfl, h.cell 1 rfl, h.cell 2 rfl, h.cell 3 rfl⟩
end Go.Proofs.Ytkecboeaiipjhaa
