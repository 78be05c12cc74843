/-
  spec.DrawOpDo: some outline and some change, in bounds. Conditions: the code reads as bytes.
-/
import Derived.Test.YtclhjgcapalniaaDoorJDFits
namespace Go.Proofs.YtclhjgcapalniaaDoor
open Go.ChangeShapes Go.WideShapes Go.ChangeAt Go.RowKit Go.Joins

def DrewDo (w : World) (e : Ending) (w' : World) : Prop :=
  ∃ (a : Option Addr) (cap : Nat) (rs : List RowD) (o : OpD), OpS o ∧ e = .returned (.tuple #[.slice a rs.length cap, .agg #[.int .i64 o.kind, .int .i64 o.id, .int .i64 o.up, .int .i64 o.at_, .string o.txt]]) ∧ Loose w.heap.size w' a cap rs ∧ Below w.heap.size w w'
end Go.Proofs.YtclhjgcapalniaaDoor
