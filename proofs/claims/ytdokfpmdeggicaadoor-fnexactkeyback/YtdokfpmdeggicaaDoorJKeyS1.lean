/-
  Contract of the model's KeyIn. Conditions: the rows lie in memory as a slice of rows.
-/
import Derived.Test.YtdokfpmdeggicaaDoorJKeyS
namespace Go.Proofs.YtdokfpmdeggicaaDoor
open Go.ChangeShapes Go.WideShapes Go.ChangeAt Go.RowKit Go.Joins

theorem kids_len {rs : List RowD} {id : Int} (hl : rs.length ≤ 1048576) : (kidsL rs id).length ≤ 1048576 := by
  unfold kidsL
  split
  · rename_i h
    have := kidsOf_len rs (atN rs id) (enR rs (atN rs id) - (atN rs id + 1)) (atN rs id + 1)
    have e : enR rs (atN rs id) ≤ rs.length := (en_spec (D := rdep rs) h).2.1
    unfold kidsAt; omega
  · simp
end Go.Proofs.YtdokfpmdeggicaaDoor
