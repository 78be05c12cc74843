/-
  The laws' own helper eqOp on two equal changes. Conditions: none.
-/
import Derived.Test.YtdokfpmdeggicaaDoorJKeyS
namespace Go.Proofs.YtdokfpmdeggicaaDoor
open Go.ChangeShapes Go.WideShapes Go.ChangeAt Go.RowKit Go.Joins

set_option maxRecDepth 100000 in
set_option maxHeartbeats 1000000 in
theorem eqOp_same (o : OpD) (w : World) :
    Calls Tryd.prog 12 #[.agg #[.int .i64 o.kind, .int .i64 o.id, .int .i64 o.up, .int .i64 o.at_, .string o.txt], .agg #[.int .i64 o.kind, .int .i64 o.id, .int .i64 o.up, .int .i64 o.at_, .string o.txt]] w (RetBelow (.bool true) w) := by
  go_enter Tryd.func12, Tryd.ntmps12
  go_wp2
  go_ret
  exact ⟨rfl, by go_grown⟩
end Go.Proofs.YtdokfpmdeggicaaDoor
