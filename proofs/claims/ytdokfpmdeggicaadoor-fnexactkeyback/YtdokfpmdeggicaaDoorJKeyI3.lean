/-
  Contracts of the program's outward, root and away. Conditions: the nodes of an outline lie in memory.
-/
import Derived.Test.YtdokfpmdeggicaaDoorJKeyI2
namespace Go.Proofs.YtdokfpmdeggicaaDoor
open Go.ChangeShapes Go.WideShapes Go.ChangeAt Go.RowKit Go.Joins

def outA (rs : List RowD) (k : Nat) : Int := if madeB (upAt rs k) then upAt rs k else 0
def outU (rs : List RowD) (k : Nat) : Int := if madeB (upAt rs k) then upAt rs (atN rs (upAt rs k)) else 0
theorem par_row {rs : List RowD} (ht : treeB rs = true) {k : Nat} (hk : k < rs.length) (hd : 1 ≤ (rat rs k).dep) : ∃ u, u < k ∧ par (dp rs) (k + 1) = u + 1 ∧ upAt rs k = (rat rs u).id ∧ (rat rs u).dep + 1 = (rat rs k).dep := by
  have hT := treeP_of ht
  have h1 := par_spec hT.deps (i := k + 1) (by omega) (by omega)
  have h2 := par_dep hT.deps (i := k + 1) (by omega) (by omega)
  have h3 := par_shift hT hk
  rcases hp : par (dp rs) (k + 1) with _ | u
  · rw [hp] at h2
    have e0 : dp rs 0 = -1 := rfl
    have e1 : dp rs (k + 1) = (rat rs k).dep := rfl
    omega
  · rw [hp] at h1 h2 h3
    refine ⟨u, by omega, rfl, h3.symm, ?_⟩
    have e0 : dp rs (u + 1) = (rat rs u).dep := rfl
    have e1 : dp rs (k + 1) = (rat rs k).dep := rfl
    omega
theorem dep_made {rs : List RowD} (ht : treeB rs = true) {k : Nat} (hk : k < rs.length) : ((rat rs k).dep == 0) = !madeB (rat rs k).id := by
  rcases rok_cases ((treeP_of ht).rok k hk) with ⟨g, h, _⟩ | ⟨_, g, h, _⟩
  · have : madeB (rat rs k).id = false := by rw [Bool.eq_false_iff]; intro q; have := (rootB_iff _).1 g; have := (madeB_iff _).1 q; omega
    rw [h, this]; rfl
  · rw [g]; simp; omega
theorem tree_two {rs : List RowD} (ht : treeB rs = true) : thereB rs 2 = true := by
  have hT := treeP_of ht
  have key : ∀ k, nroots rs k = 2 → ∃ i, i < k ∧ rootB (rat rs i).id = true ∧ nroots rs i = 1 := by
    intro k
    induction k with
    | zero => intro h; simp [nroots] at h
    | succ k ih =>
      intro h
      unfold nroots at h
      by_cases hr : rootB (rat rs k).id = true
      · rw [if_pos hr] at h
        exact ⟨k, by omega, hr, by omega⟩
      · rw [if_neg hr] at h
        obtain ⟨i, a, b⟩ := ih (by omega)
        exact ⟨i, by omega, b⟩
  obtain ⟨i, a, b, c⟩ := third_root rs rs.length hT.three
  obtain ⟨j, a', b', c'⟩ := key i c
  have e := hT.rord j (by omega) b'
  rw [c'] at e
  have := there_at (rs := rs) (i := j) (by omega)
  rw [e] at this
  exact there_iff.2 this
def RootOf (nb : Nat → Nat) (rs : List RowD) (k : Nat) (w : World) (e : Ending) (w' : World) : Prop :=
  ∃ r, r < rs.length ∧ e = .returned (.pointer (some ⟨nb (r + 1), 0, none⟩)) ∧ (undB rs (rat rs k).id 2 = ((rat rs r).id == 2)) ∧ w = w'
end Go.Proofs.YtdokfpmdeggicaaDoor
