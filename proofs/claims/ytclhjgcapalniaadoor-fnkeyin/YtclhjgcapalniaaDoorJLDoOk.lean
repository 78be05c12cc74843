/-
  The walk of the law FnDoOk out of the contracts. Conditions: the argument reads as bytes; the table 'creators' holds what its initialiser lays.
-/
import Derived.Test.YtclhjgcapalniaaDoorJLNoLoop
import Derived.Test.YtclhjgcapalniaaDoorJSameM
import Derived.Test.YtclhjgcapalniaaDoorJLpSame
import Derived.Test.YtclhjgcapalniaaDoorGB
namespace Go.Proofs.YtclhjgcapalniaaDoor
open Go.ChangeShapes Go.WideShapes Go.ChangeAt Go.RowKit Go.Joins

theorem doT_made {rs : List RowD} {o : OpD} (h1 : treeB rs = true) (h2 : opokB o = true) (hk : o.kind = 1) (hn : ¬ atN rs o.id < rs.length) : (doT rs o).length = rs.length + 1 ∧ atN (doT rs o) o.id < (doT rs o).length := by
  have e : doT rs o = doR rs o := by simp [doT, h1, h2]
  rw [e]; exact do_made hk hn
theorem doT_same {rs : List RowD} {o : OpD} (h1 : treeB rs = true) (h2 : opokB o = true) (h : o.kind = 1 → atN rs o.id < rs.length) : (doT rs o).length = rs.length ∧ ∀ i, i < (doT rs o).length → atN rs (rat (doT rs o) i).id < rs.length := by
  have e : doT rs o = doR rs o := by simp [doT, h1, h2]
  rw [e]
  obtain ⟨g1, g2⟩ := do_same h2 h
  exact ⟨g1, fun i hi => g2 _ (rat_in hi)⟩
end Go.Proofs.YtclhjgcapalniaaDoor
