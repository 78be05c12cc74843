/-
  Plain mathematics of children in outlines (lists of rows), and the contracts of the laws' own helpers on slices of ints. Conditions: as each theorem says.
-/
import Derived.Test.YtefelnodahcolaaDoorTImpl3
import Derived.Test.YtefelnodahcolaaDoorMarks2
namespace Go.Proofs.YtefelnodahcolaaDoor
open Go.ChangeShapes Go.WideShapes Go.ChangeAt Go.RowKit Go.Joins

theorem kidsOf_iff (rs : List RowD) (x : Nat) : ∀ k s (q : Int), q ∈ kidsOf rs x s k ↔ ∃ j, s ≤ j ∧ j < s + k ∧ rdep rs j = rdep rs x + 1 ∧ (rat rs j).id = q
  | 0, s, q => by simp [kidsOf]; intro j h1 h2; omega
  | k + 1, s, q => by
    rw [kidsOf, List.mem_append, kidsOf_iff rs x k (s + 1) q]
    constructor
    · rintro (h | ⟨j, a, b, c⟩)
      · split at h
        · rename_i hd
          simp at h; exact ⟨s, Nat.le_refl _, by omega, hd, h.symm⟩
        · simp at h
      · exact ⟨j, by omega, by omega, c⟩
    · rintro ⟨j, a, b, c, d⟩
      by_cases e : j = s
      · subst e; left; rw [if_pos c]; simp [d]
      · right; exact ⟨j, by omega, by omega, c, d⟩
theorem kidsT_row {rs : List RowD} (ht : treeB rs = true) {k : Nat} (hk : k < rs.length) : kidsT rs (rat rs k).id = kidsOf rs k (k + 1) (enR rs k - (k + 1)) := by
  have ha := (treeP_of ht).at_self hk
  unfold kidsT
  rw [if_pos ht, kidsL_yes (by rw [ha]; exact hk), ha]
/-- A row is among the children of place k just if its parent is there. -/
theorem kid_par {rs : List RowD} (ht : treeB rs = true) {k j : Nat} (hk : k < rs.length) (hj : j < rs.length) : (rat rs j).id ∈ kidsT rs (rat rs k).id ↔ par (dp rs) (j + 1) = k + 1 := by
  have hT := treeP_of ht
  have hD := hT.deps
  have h1 := kid_iff hD (p := k + 1) (j := j + 1) (by omega) (by omega)
  rw [isKid_iff, en_shift hk] at h1
  rw [kidsT_row ht hk, kidsOf_iff]
  constructor
  · rintro ⟨l, a, b, c, d⟩
    have hl : enR rs k ≤ rs.length := (en_spec (D := rdep rs) hk).2.1
    have e : l = j := hT.id_inj (by omega) hj d
    subst e
    exact (h1.2 ⟨by omega, by omega, c⟩).2
  · intro h
    obtain ⟨a, b, c⟩ := h1.1 ⟨by omega, h⟩
    exact ⟨j, by omega, by omega, c, rfl⟩
theorem up_row {rs : List RowD} (ht : treeB rs = true) {j : Nat} (hj : j < rs.length) : upI rs (rat rs j).id = (nd rs (par (dp rs) (j + 1))).id := by
  have hT := treeP_of ht
  have ha := hT.at_self hj
  rw [par_shift hT hj]
  unfold upI hasB
  rw [ht, ha]
  simp [hj]
def amongB (xs : List Int) (n : Int) : Bool := xs.any (· == n)
theorem amongB_iff {xs : List Int} {n : Int} : amongB xs n = true ↔ n ∈ xs := by simp [amongB]
theorem among_up {rs : List RowD} {z : Int} (hh : hasB rs z = true) {k : Nat} (hk : k < rs.length) : amongB (kidsT rs (rat rs k).id) z = ((rat rs k).id == upI rs z) := by
  obtain ⟨ht, hz⟩ := hasB_iff.1 hh
  have hT := treeP_of ht
  have e := atN_id hz
  have hp := par_spec hT.deps (i := atN rs z + 1) (by omega) (by omega)
  have h1 := kid_par ht hk hz
  have h2 := up_row ht hz
  rw [e] at h1 h2
  rw [Bool.eq_iff_iff, amongB_iff, h1, h2, beq_iff_eq]
  rcases hc : par (dp rs) (atN rs z + 1) with _ | p
  · have := rok_id (hT.rok k hk)
    have e0 : (nd rs 0).id = 0 := rfl
    rw [e0]
    exact ⟨fun h => by omega, fun h => by omega⟩
  · rw [hc] at hp
    constructor
    · intro h; rw [show k = p by omega]; rfl
    · intro h; rw [hT.id_inj hk (show p < rs.length by omega) h]
/-! ### the laws' helpers -/
end Go.Proofs.YtefelnodahcolaaDoor
