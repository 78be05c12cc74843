/-
  The walk of the law FnRootsStay out of the contracts. Conditions: the argument reads as bytes; the table 'creators' holds what its initialiser lays.
-/
import Derived.Test.YtclhjgcapalniaaDoorJDrawOp
import Derived.Test.YtclhjgcapalniaaDoorGG
import Derived.Test.YtclhjgcapalniaaDoorJLpRows
import Derived.Test.YtclhjgcapalniaaDoorGD
import Derived.Test.YtclhjgcapalniaaDoorGE
namespace Go.Proofs.YtclhjgcapalniaaDoor
open Go.ChangeShapes Go.WideShapes Go.ChangeAt Go.RowKit Go.Joins

theorem root_yes {rs : List RowD} (h : treeB rs = true) {k : Nat} (hk : k < rs.length) (hd : (rat rs k).dep = 0) : (rat rs k).id = (nroots rs k : Int) + 1 ∧ nroots rs (k + 1) = nroots rs k + 1 := by
  have hT := treeP_of h
  rcases rok_cases (hT.rok k hk) with ⟨h1, _⟩ | ⟨_, _, h3, _⟩
  · exact ⟨hT.rord k hk h1, by rw [nroots_succ, if_pos h1]⟩
  · omega
theorem root_no {rs : List RowD} (h : treeB rs = true) {k : Nat} (hk : k < rs.length) (hd : ¬ (rat rs k).dep = 0) : nroots rs (k + 1) = nroots rs k := by
  rcases rok_cases ((treeP_of h).rok k hk) with ⟨_, h2, _⟩ | ⟨h1, _⟩
  · exact absurd h2 hd
  · rw [nroots_succ, h1]; simp
theorem doT_tree {rs : List RowD} {o : OpD} (h1 : treeB rs = true) (h2 : opokB o = true) : treeB (doT rs o) = true := by
  have e : doT rs o = doR rs o := by simp [doT, h1, h2]
  rw [e]; exact do_tree h1 h2
end Go.Proofs.YtclhjgcapalniaaDoor
