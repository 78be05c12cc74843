/-
  Contract of the model's ClientOk. Conditions: as each theorem says.
-/
import Derived.Test.YtoofdhooinaneaaDoorJCliA
import Derived.Test.YtoofdhooinaneaaDoorGM
namespace Go.Proofs.YtoofdhooinaneaaDoor
open Go.ChangeShapes Go.WideShapes Go.ChangeAt Go.RowKit Go.Joins

end Go.Proofs.YtoofdhooinaneaaDoor
