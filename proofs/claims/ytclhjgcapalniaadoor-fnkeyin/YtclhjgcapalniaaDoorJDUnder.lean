/-
  The model's drawings of an outline and one or two rows: DrawTreeUp, DrawTreeUnder. Conditions: the argument reads as bytes.
-/
import Derived.Test.YtclhjgcapalniaaDoorGF
namespace Go.Proofs.YtclhjgcapalniaaDoor
open Go.ChangeShapes Go.WideShapes Go.ChangeAt Go.RowKit Go.Joins

/-- An outline and a row were drawn, and nothing old has turned. -/
def DrewOne (w : World) (e : Ending) (w' : World) : Prop :=
  ∃ (a : Option Addr) (cap : Nat) (rs : List RowD) (z : Int), e = .returned (.tuple #[.slice a rs.length cap, .int .i64 z]) ∧ 0 ≤ z ∧ z ≤ 99 ∧ Loose w.heap.size w' a cap rs ∧ Below w.heap.size w w'
def DrewTwo (w : World) (e : Ending) (w' : World) : Prop :=
  ∃ (a : Option Addr) (cap : Nat) (rs : List RowD) (z u : Int), e = .returned (.tuple #[.slice a rs.length cap, .int .i64 z, .int .i64 u]) ∧ 0 ≤ z ∧ z ≤ 99 ∧ Loose w.heap.size w' a cap rs ∧ Below w.heap.size w w'
theorem Hunt.two {N p : Nat} {w w1 w' : World} {a : Option Addr} {cap : Nat} {rs : List RowD} (h : Hunt N w.heap.size p w1.heap.size w1 w' a cap rs) (hb : Below w.heap.size w w1) (z u : Int) (z0 : 0 ≤ z) (z1 : z ≤ 99) : DrewTwo w (.returned (.tuple #[.slice a rs.length cap, .int .i64 z, .int .i64 u])) w' := by
  obtain ⟨h1, h2, h3, h4, h5⟩ := h
  exact ⟨a, cap, rs, z, u, rfl, z0, z1, h1.base hb.size, hb.trans (h2.below (Nat.le_refl _) hb.size)⟩
end Go.Proofs.YtclhjgcapalniaaDoor
