/-
  Plain mathematics of undoing: a row that was made is thrown away. Nothing of the program is run here. Conditions: none beyond the lemmas' own premises.
-/
import Derived.Test.YtklefdhjfadhpaaDoorJKBackM3
namespace Go.Proofs.YtklefdhjfadhpaaDoor
open Go.RowKit

/-- Rows that are put under one stand under it. -/
theorem putF_under {rest rows x : List RowD} {u P : Nat} {D : Int} (h : PutF rest rows x u P D) {j : Nat} (hj : j < rows.length) : undB x (rat rows j).id (rat rest u).id = true := by
  have hl := h.len
  have hle := h.le
  have hlt := h.lt
  have h1 := h.at_mid hj
  have h2 := h.at_rest (show u < rest.length by omega)
  rw [if_pos hlt] at h2
  obtain ⟨e1, e2, e3, e4⟩ := en_spec (D := rdep x) (m := x.length) (i := u) (by omega)
  have e' : enR x u = en (rdep x) x.length u := rfl
  have hen : P + rows.length ≤ enR x u := by
    rcases Nat.lt_or_ge (enR x u) (P + rows.length) with g | g
    · exfalso
      have g1 := e4 (by omega)
      rw [← e', h.dlo hlt] at g1
      by_cases q : enR x u < P
      · rw [h.dlo q] at g1
        have := h.btw (enR x u) (by omega) q
        omega
      · have := h.dge (show enR x u - P < rows.length by omega)
        rw [show P + (enR x u - P) = enR x u by omega] at this
        omega
    · exact g
  unfold undB
  rw [h1, h2]
  simp only [Bool.and_eq_true, decide_eq_true_eq]
  exact ⟨⟨⟨by omega, by omega⟩, by omega⟩, by omega⟩
theorem gone_any {rs : List RowD} {id : Int} (ht : treeB rs = true) (hm : madeB id = true) (hid : thereB rs id = true) : undT (doT rs (moveO id 2 0)) id 2 = true ∧ (doT rs (moveO id 2 0)).length = rs.length := by
  have hok : opokB (moveO id 2 0) = true := opok_move hm (by decide) (.inl rfl)
  have hx := do_tree ht hok
  have h2 := tree_two (rest_tree ht hm hid)
  obtain ⟨hP, ex⟩ := move_to (at' := 0) ht hm hid h2
  have F := hP.facts
  rw [← ex] at F
  have := putF_under F hP.h0
  rw [sub_head hid, atN_id (there_iff.1 h2)] at this
  rw [doT_is ht hok]
  exact ⟨by simp [undT, hx, this], (do_same hok (fun g => absurd g (by show ¬ (3 : Int) = 1; decide))).1⟩
theorem make_gone {rs : List RowD} {o : OpD} (h : kbackB rs o = true) (hk : o.kind = 1) : OpFit (kbackO rs o) ∧ treeB (doT rs o) = true ∧ undT (doT (doT rs o) (kbackO rs o)) o.id 2 = true ∧ (doT (doT rs o) (kbackO rs o)).length = rs.length + 1 := by
  obtain ⟨ht, hok, hne⟩ := kback_iff.1 h
  have hm := opok_made hok
  have hx := do_tree ht hok
  have hn : ¬ atN rs o.id < rs.length := fun g => hne (no_where (by omega) (by rw [noWhere1 hk]; exact there_iff.2 g))
  obtain ⟨g1, g2⟩ := do_made hk hn
  rw [kback_is h, show kbackP rs o = moveO o.id 2 0 by simp [kbackP, hk], doT_is ht hok]
  obtain ⟨q1, q2⟩ := gone_any hx hm (there_iff.2 g2)
  exact ⟨kb_fit hm (by decide) (.inl rfl), hx, q1, by rw [q2, g1]⟩
end Go.Proofs.YtklefdhjfadhpaaDoor
