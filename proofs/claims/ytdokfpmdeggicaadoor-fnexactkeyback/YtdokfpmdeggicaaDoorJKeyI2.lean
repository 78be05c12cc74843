/-
  Contracts of the program's inward and outward: where a command lets a row stand. Conditions: the nodes of an outline lie in memory.
-/
import Derived.Test.YtdokfpmdeggicaaDoorJKeyI
namespace Go.Proofs.YtdokfpmdeggicaaDoor
open Go.ChangeShapes Go.WideShapes Go.ChangeAt Go.RowKit Go.Joins

def spotV (u a : Int) (b : Bool) : Value := .tuple #[.agg #[.int .i64 u, .int .i64 a], .bool b]
/-- Block B is the box of a spot that is returned. -/
def SBox (w : World) (B : Nat) : Prop := w.heap[B]? = some (.cells #[.int .i64 0, .int .i64 0] 76 (0, 0))
theorem SBox.lt {w : World} {B : Nat} (h : SBox w B) : B < w.heap.size := (Array.getElem?_eq_some_iff.1 h).1
theorem SBox.cells {w : World} {B : Nat} (h : SBox w B) : w.cell? ⟨B, 0, none⟩ = some (.int .i64 0) ∧ w.cell? ⟨B, 1, none⟩ = some (.int .i64 0) := by
  refine ⟨?_, ?_⟩ <;> simp [World.cell?, show w.heap[B]? = _ from h]
theorem SBox.frozen {w : World} {B : Nat} (h : SBox w B) (k : Nat) : w.frozen? ⟨B, k, none⟩ = false := by simp [World.frozen?, show w.heap[B]? = _ from h]
theorem SBox.below {w w' : World} {B n : Nat} (h : SBox w B) (hb : Below n w w') (hn : B < n) : SBox w' B := (hb.block B hn).trans h
theorem SBox.new (w : World) : SBox (w.alloc (.cells #[.int .i64 0, .int .i64 0] 76)) w.heap.size := heap_alloc_new _ _
def sgiven (w : World) (B : Nat) (u a : Int) : World := (w.setCell ⟨B, 0, none⟩ (.int .i64 u)).setCell ⟨B, 1, none⟩ (.int .i64 a)
theorem sgiven_below {n : Nat} (w : World) (B : Nat) (u a : Int) (h : n ≤ B) : Below n w (sgiven w B u a) := by
  unfold sgiven
  exact ((Below.refl _ _).setCell (p := ⟨B, 0, none⟩) h _).setCell (p := ⟨B, 1, none⟩) h _
theorem made_dep {rs : List RowD} (ht : treeB rs = true) {k : Nat} (hk : k < rs.length) (hm : madeB (rat rs k).id = true) : 1 ≤ (rat rs k).dep := by
  rcases rok_cases ((treeP_of ht).rok k hk) with ⟨g, _⟩ | ⟨_, _, g, _⟩
  · have := (rootB_iff _).1 g; have := (madeB_iff _).1 hm; omega
  · exact g
def inA (rs : List RowD) (k : Nat) : Int := if ahAt rs k = 0 then 0 else lastK rs (ahAt rs k)
end Go.Proofs.YtdokfpmdeggicaaDoor
