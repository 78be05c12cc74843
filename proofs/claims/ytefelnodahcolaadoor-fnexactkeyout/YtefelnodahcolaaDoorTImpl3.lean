/-
  Contract of the program's TreeKids: it answers as the model's, in memory of its own. Conditions: the rows lie in memory as a slice of rows; the table 'creators' holds what its initialiser lays.
-/
import Derived.Test.YtefelnodahcolaaDoorTImpl2
namespace Go.Proofs.YtefelnodahcolaaDoor
open Go.ChangeShapes Go.WideShapes Go.ChangeAt Go.RowKit Go.Joins

theorem kidsOf_skip {rs : List RowD} {x : Nat} : ∀ k s, (∀ j, s ≤ j → j < s + k → rdep rs j ≠ rdep rs x + 1) → kidsOf rs x s k = []
  | 0, s, _ => rfl
  | k + 1, s, h => by
    rw [kidsOf, if_neg (h s (Nat.le_refl _) (by omega)), kidsOf_skip k (s + 1) (fun j h1 h2 => h j (by omega) (by omega))]; rfl
theorem kidsOf_add (rs : List RowD) (x : Nat) : ∀ a s b, kidsOf rs x s (a + b) = kidsOf rs x s a ++ kidsOf rs x (s + a) b
  | 0, s, b => by simp [kidsOf]
  | a + 1, s, b => by
    rw [show a + 1 + b = (a + b) + 1 by omega, kidsOf, kidsOf, kidsOf_add rs x a (s + 1) b, List.append_assoc, show s + 1 + a = s + (a + 1) by omega]
theorem kids_jump {rs : List RowD} {x c c' : Nat} (h1 : x + 2 ≤ c) (h2 : c < c') (h3 : rdep rs (c - 1) = rdep rs x + 1) (h4 : ∀ j, c ≤ j → j < c' - 1 → rdep rs x + 1 < rdep rs j) :
    kidsOf rs x (x + 1) (c' - (x + 2)) = kidsOf rs x (x + 1) (c - (x + 2)) ++ [(rat rs (c - 1)).id] := by
  rw [show c' - (x + 2) = (c - (x + 2)) + (1 + (c' - 1 - c)) by omega, kidsOf_add, kidsOf_add, show x + 1 + (c - (x + 2)) = c - 1 by omega, show c - 1 + 1 = c by omega,
    kidsOf_skip (c' - 1 - c) c (fun j a b => by have := h4 j a (by omega); omega)]
  simp [kidsOf, h3]
theorem kidsT_no {rs : List RowD} {id : Int} (h : hasB rs id = false) : kidsT rs id = [] := by
  unfold kidsT
  cases ht : treeB rs
  · rfl
  · simp only [hasB, ht, Bool.true_and, decide_eq_false_iff_not] at h
    exact kidsL_no h
theorem kidsT_yes {rs : List RowD} {id : Int} (h : hasB rs id = true) : kidsT rs id = kidsOf rs (atN rs id) (atN rs id + 1) (enR rs (atN rs id) + 1 - (atN rs id + 2)) := by
  obtain ⟨h1, h2⟩ := hasB_iff.1 h
  unfold kidsT
  rw [h1, if_pos rfl, kidsL_yes h2]
  congr 1
  omega
end Go.Proofs.YtefelnodahcolaaDoor
