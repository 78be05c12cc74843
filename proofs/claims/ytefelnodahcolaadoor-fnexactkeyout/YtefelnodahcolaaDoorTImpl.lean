/-
  Contracts of the program's TreeUp, TreeAhead, TreeUnder: they answer as the model's. Conditions: the rows lie in memory as a slice of rows; the table 'creators' holds what its initialiser lays.
-/
import Derived.Test.YtefelnodahcolaaDoorFind
namespace Go.Proofs.YtefelnodahcolaaDoor
open Go.ChangeShapes Go.WideShapes Go.ChangeAt Go.RowKit Go.Joins

/-- How many nodes there are: the top alone where the rows are no outline. -/
def nodesN (rs : List RowD) : Nat := (if treeB rs then rs.length else 0) + 1
theorem nodesN_deps (rs : List RowD) : Deps (dp rs) (nodesN rs) := by
  unfold nodesN
  cases h : treeB rs
  · exact deps_one _ rfl
  · exact (treeP_of h).deps
theorem find_any (nb : Nat → Nat) (rs : List RowD) (id : Int) (w : World) (hN : Nodes w nb rs (nodesN rs)) :
    Calls Tryd.prog 44 #[.pointer (some ⟨nb 0, 0, none⟩), .int .i64 id] w (Found nb (fndO rs (nodesN rs) id) w) :=
  callsIn_wide.1 (find_in Fence.wide rfl 3 trivial trivial trivial trivial rfl (Nat.le_refl _) nb rs (nodesN rs) id (nodesN_deps rs) w hN)
theorem fnd_no {rs : List RowD} {id : Int} (h : hasB rs id = false) : fndO rs (nodesN rs) id = none := by
  unfold fndO nodesN
  cases ht : treeB rs
  · rfl
  · simp only [hasB, ht, Bool.true_and, decide_eq_false_iff_not] at h
    rw [if_neg]
    exact h
theorem hasB_iff {rs : List RowD} {id : Int} : hasB rs id = true ↔ treeB rs = true ∧ atN rs id < rs.length := by simp [hasB]
theorem fnd_yes {rs : List RowD} {id : Int} (h : hasB rs id = true) : fndO rs (nodesN rs) id = some (atN rs id + 1) := by
  obtain ⟨h1, h2⟩ := hasB_iff.1 h
  unfold fndO nodesN
  rw [h1]
  exact if_pos h2
theorem nodesN_tree {rs : List RowD} (h : treeB rs = true) : nodesN rs = rs.length + 1 := by simp [nodesN, h]

/-! ### TreeAhead -/
theorem ah_shift {rs : List RowD} (h : TreeP rs) {i : Nat} (hi : i < rs.length) (hr : 1 ≤ (rat rs i).dep) :
    (ah (dp rs) (i + 1) = none ∧ ahAt rs i = 0) ∨ (∃ j, j < rs.length ∧ ah (dp rs) (i + 1) = some (j + 1) ∧ ahAt rs i = (rat rs j).id) := by
  have hD := h.deps
  obtain ⟨p1, p2, p3⟩ := par_spec hD (show 1 ≤ i + 1 by omega) (show i + 1 < rs.length + 1 by omega)
  have pd := par_dep hD (show 1 ≤ i + 1 by omega) (show i + 1 < rs.length + 1 by omega)
  have pin := par_in hD (show 1 ≤ i + 1 by omega) (show i + 1 < rs.length + 1 by omega)
  have pne : par (dp rs) (i + 1) ≠ 0 := fun e => by
    rw [e] at pd
    have h0 := hD.top
    have : dp rs (i + 1) = (rat rs i).dep := rfl
    omega
  obtain ⟨q, hq⟩ : ∃ q, par (dp rs) (i + 1) = q + 1 := ⟨par (dp rs) (i + 1) - 1, by omega⟩
  have dq : rdep rs q = rdep rs i - 1 := by rw [hq] at pd; exact pd
  unfold ahAt
  cases e : lstBelow (fun j => decide (rdep rs j ≤ rdep rs i)) i with
  | none =>
    have := lstBelow_none _ _ e q (by omega)
    simp only [decide_eq_false_iff_not] at this
    omega
  | some j =>
    obtain ⟨a, b, c⟩ := lstBelow_some _ _ _ e
    simp only [decide_eq_true_eq] at b
    have hqj : q ≤ j := by
      rcases Nat.lt_or_ge j q with g | g
      · have := c q g (by omega)
        simp only [decide_eq_false_iff_not] at this; omega
      · exact g
    by_cases ej : rdep rs j = rdep rs i
    · right
      refine ⟨j, by omega, ?_, by simp only; rw [if_pos ej]⟩
      unfold ah
      have hjq : q < j := by
        rcases Nat.lt_or_ge q j with g | g
        · exact g
        · have : j = q := by omega
          rw [this] at ej; omega
      refine lstBelow_mk _ _ _ (by omega) ?_ (fun l h1 h2 => ?_)
      · refine (kid_iff hD (by omega) (by omega)).2 ⟨by omega, by omega, ?_⟩
        rw [pd]
        show rdep rs j = rdep rs i - 1 + 1
        omega
      · obtain ⟨l', rfl⟩ : ∃ l', l = l' + 1 := ⟨l - 1, by omega⟩
        rw [Bool.eq_false_iff]; intro g
        have k := ((kid_iff hD (show par (dp rs) (i + 1) < rs.length + 1 by omega) (show l' + 1 < rs.length + 1 by omega)).1 g).2.2
        rw [pd] at k
        have := c l' (by omega) (by omega)
        simp only [decide_eq_false_iff_not] at this
        have k' : rdep rs l' = rdep rs i - 1 + 1 := k
        omega
    · left
      have hj : j = q := by
        rcases Nat.lt_or_ge q j with g | g
        · have := p3 (j + 1) (by omega) (by omega)
          have t : rdep rs i ≤ rdep rs j := this
          omega
        · omega
      refine ⟨?_, by simp only; rw [if_neg ej]⟩
      unfold ah
      refine lstBelow_mk_none _ _ (fun l hl => ?_)
      rw [Bool.eq_false_iff]; intro g
      have k := (kid_iff hD (show par (dp rs) (i + 1) < rs.length + 1 by omega) (show l < rs.length + 1 by omega)).1 g
      obtain ⟨l', rfl⟩ : ∃ l', l = l' + 1 := ⟨l - 1, by omega⟩
      have := c l' (by omega) (by omega)
      simp only [decide_eq_false_iff_not] at this
      have k' : rdep rs l' = dp rs (par (dp rs) (i + 1)) + 1 := k.2.2
      rw [pd] at k'
      have : dp rs (i + 1) = rdep rs i := rfl
      omega
theorem ahB_iff {rs : List RowD} {id : Int} (h : hasB rs id = true) : ahB rs id = !rootB id := by simp [ahB, h]
theorem root_at {rs : List RowD} {id : Int} (h : hasB rs id = true) : ((rat rs (atN rs id)).dep == 0) = rootB id := by
  obtain ⟨h1, h2⟩ := hasB_iff.1 h
  have h3 := rok_root ((treeP_of h1).rok _ h2)
  rw [atN_id h2] at h3
  rw [Bool.eq_iff_iff, beq_iff_eq]; exact h3
end Go.Proofs.YtefelnodahcolaaDoor
