/-
  The walk of the law FnExactTreeOk out of the contracts. Conditions: the argument reads as rows; the table 'creators' holds what its initialiser lays.
-/
import Derived.Test.YtdokfpmdeggicaaDoorGB
import Derived.Test.YtdokfpmdeggicaaDoorGA
namespace Go.Proofs.YtdokfpmdeggicaaDoor
open Go.ChangeShapes Go.WideShapes Go.ChangeAt Go.RowKit Go.Joins

theorem fit_of {rs : List RowD} (h : FitW rs) (hl : rs.length ≤ 1048576) : Fit rs := ⟨hl, h⟩
end Go.Proofs.YtdokfpmdeggicaaDoor
