/-
  Contracts of the model's and the program's ClientShow. Conditions: as each theorem says.
-/
import Derived.Test.YtclhjgcapalniaaDoorJDesk1
import Derived.Test.YtclhjgcapalniaaDoorJCliS1
import Derived.Test.YtclhjgcapalniaaDoorGG
namespace Go.Proofs.YtclhjgcapalniaaDoor
open Go.ChangeShapes Go.WideShapes Go.ChangeAt Go.RowKit Go.Joins

end Go.Proofs.YtclhjgcapalniaaDoor
