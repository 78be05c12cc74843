/-
  laws.lpSame: yes when every row's number stands in the other slice and the lengths agree. Conditions: both slices read; the second fits.
-/
import Derived.Test.YtclhjgcapalniaaDoorGA
namespace Go.Proofs.YtclhjgcapalniaaDoor
open Go.ChangeShapes Go.WideShapes Go.ChangeAt Go.RowKit Go.Joins

end Go.Proofs.YtclhjgcapalniaaDoor
