/-
  The walk of the law FnLogSeq out of the contracts. Conditions: the argument reads as bytes; the table 'creators' holds what its initialiser lays.
-/
import Derived.Test.YtclhjgcapalniaaDoorGR
import Derived.Test.YtclhjgcapalniaaDoorGM
namespace Go.Proofs.YtclhjgcapalniaaDoor
open Go.ChangeShapes Go.WideShapes Go.ChangeAt Go.RowKit Go.Joins

theorem step_seq {es : List EntD} {n k : Nat} (h : logTo es n = true) (hk : k < n) : (eat es k).seq = (cntTo es (eat es k).who k : Int) + 1 := by
  have := logTo_at h hk
  simp only [estepB, Bool.and_eq_true, beq_iff_eq] at this
  exact this.2
theorem Logs.tab {w w' : World} {g oc : Nat} {es : List EntD} (h : Logs w w' g oc es) (ht : Tab w) (hz : 0 < w.heap.size) : Tab w' := ht.below h.low hz
end Go.Proofs.YtclhjgcapalniaaDoor
