/-
  The laws' own helpers szRowS, and szEntryS from any number on: what is left. Conditions: as each theorem says.
-/
import Derived.Test.YtcpmahchagjhkaaGN
namespace Go.Proofs.Ytcpmahchagjhkaa
open Go.ChangeShapes Go.WideShapes Go.ChangeAt Go.RowKit Go.Joins

def SizedR (rs : List RowD) (w : World) (e : Ending) (w' : World) : Prop := ∃ z : Int, e = .returned (.int .i64 z) ∧ (z < 0 ∨ (0 ≤ z ∧ z ≤ 1048576 - (rs.length : Int))) ∧ Below w.heap.size w w'
def SizedF (z0 : Int) (es : List EntD) (w : World) (e : Ending) (w' : World) : Prop := ∃ z : Int, e = .returned (.int .i64 z) ∧ (z < 0 ∨ (0 ≤ z ∧ z ≤ 1048576 ∧ (es.length : Int) ≤ z0)) ∧ Below w.heap.size w w'
end Go.Proofs.Ytcpmahchagjhkaa
