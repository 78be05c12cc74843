/-
  The walk of the law FnNoLoop out of the contracts. Conditions: the argument reads as bytes; the table 'creators' holds what its initialiser lays.
-/
import Derived.Test.YtclhjgcapalniaaDoorJLRootsStay
import Derived.Test.YtclhjgcapalniaaDoorGB
namespace Go.Proofs.YtclhjgcapalniaaDoor
open Go.ChangeShapes Go.WideShapes Go.ChangeAt Go.RowKit Go.Joins

theorem tree_fit {rs : List RowD} (h : treeB rs = true) (hl : rs.length ≤ 1048576) : Fit rs := by
  refine ⟨hl, fun i hi => ?_⟩
  unfold I64 maxLen
  rcases rok_cases ((treeP_of h).rok i hi) with ⟨h1, h2, h3⟩ | ⟨_, h2, h3, h4, h5⟩
  · have := (rootB_iff _).1 h1
    have h6 := textB_nil (t := (rat rs i).txt) (by rw [beq_iff_eq]; exact List.isEmpty_iff.1 h3)
    simp only [textB, Bool.and_eq_true, decide_eq_true_eq] at h6
    omega
  · have := (madeB_iff _).1 h2
    simp only [textB, Bool.and_eq_true, decide_eq_true_eq] at h5
    omega
theorem loop_no {rs : List RowD} {o : OpD} (hk : o.kind = 3) (h : undT rs o.up o.id = true) : owB rs o = false ∧ (opokB o = true → doT rs o = rs) := by
  simp only [undT, Bool.and_eq_true] at h
  have h2 := h.2
  simp only [undB, Bool.and_eq_true, decide_eq_true_eq] at h2
  have hn : noWhereB rs o = true := by simp [noWhereB, thereB, h.2, h2.1.1.2]
  exact ⟨by simp [owB, hn], fun hk' => by simp [doT, h.1, hk', doR, hk, hn]⟩
theorem up_not_under {rs : List RowD} {id : Int} : upI rs id = 0 ∨ undT rs (upI rs id) id = false := by
  cases hh : hasB rs id
  · exact .inl (by simp [upI, hh])
  · have h' := hh
    simp only [hasB, Bool.and_eq_true, decide_eq_true_eq] at h'
    have e : upI rs id = upAt rs (atN rs id) := by simp [upI, hh]
    rw [e]
    unfold upAt
    split
    · rename_i j hj
      obtain ⟨j1, _, _⟩ := lstBelow_some _ _ _ hj
      have ha := (treeP_of h'.1).at_self (show j < rs.length by omega)
      refine .inr ?_
      rw [Bool.eq_false_iff]
      intro g
      simp only [undT, undB, Bool.and_eq_true, decide_eq_true_eq] at g
      rw [ha] at g
      omega
    · exact .inl rfl
end Go.Proofs.YtclhjgcapalniaaDoor
