/-
  Contracts of the program's KeyIn, KeyOut and KeyGone: they answer as the model's. Conditions: the rows lie in memory as a slice of rows; the table 'creators' holds what its initialiser lays.
-/
import Derived.Test.YtdokfpmdeggicaaDoorJKeyI4
import Derived.Test.YtdokfpmdeggicaaDoorJKeyS1
import Derived.Test.YtdokfpmdeggicaaDoorJKeyS2
namespace Go.Proofs.YtdokfpmdeggicaaDoor
open Go.ChangeShapes Go.WideShapes Go.ChangeAt Go.RowKit Go.Joins

theorem rootB_made {rs : List RowD} {id : Int} (h : hasB rs id = true) : rootB id = !madeB id := by
  obtain ⟨h1, h2⟩ := hasB_iff.1 h
  rw [← root_at h, dep_made h1 h2, atN_id h2]
end Go.Proofs.YtdokfpmdeggicaaDoor
