/-
  Plain mathematics of throwing a row away. Nothing of the program is run here. Conditions: none beyond the lemmas' own premises.
-/
import Derived.Test.YtlhlkbbjmbpgpaaDoorJKeyM
import Derived.Test.YtlhlkbbjmbpgpaaDoorGI
namespace Go.Proofs.YtlhlkbbjmbpgpaaDoor

/-- Rows that are put under one stand under it. -/
theorem PutF.under {rest rows x : List RowD} {u P : Nat} {D : Int} (h : PutF rest rows x u P D) {j : Nat} (hj : j < rows.length) : undB x (rat rows j).id (rat rest u).id = true := by
  have hl := h.len
  have hle := h.le
  have hlt := h.lt
  have h1 := h.at_mid hj
  have h2 := h.at_rest (show u < rest.length by omega)
  rw [if_pos hlt] at h2
  obtain ⟨e1, e2, e3, e4⟩ := en_spec (D := rdep x) (m := x.length) (i := u) (by omega)
  have e' : enR x u = en (rdep x) x.length u := rfl
  have hen : P + rows.length ≤ enR x u := by
    rcases Nat.lt_or_ge (enR x u) (P + rows.length) with g | g
    · exfalso
      have g1 := e4 (by omega)
      rw [← e', h.dlo hlt] at g1
      by_cases q : enR x u < P
      · rw [h.dlo q] at g1
        have := h.btw (enR x u) (by omega) q
        omega
      · have := h.dge (show enR x u - P < rows.length by omega)
        rw [show P + (enR x u - P) = enR x u by omega] at this
        omega
    · exact g
  unfold undB
  rw [h1, h2]
  simp only [Bool.and_eq_true, decide_eq_true_eq]
  exact ⟨⟨⟨by omega, by omega⟩, by omega⟩, by omega⟩
section
variable {rs : List RowD} {id : Int}
theorem kgone_parts (h : kgoneB rs id = true) : treeB rs = true ∧ madeB id = true ∧ thereB rs id = true ∧ kgoneO rs id = moveO id 2 0 ∧ thereB (restR rs (atN rs id)) 2 = true := by
  have h' := h
  unfold kgoneB at h
  simp only [Bool.and_eq_true, Bool.not_eq_true'] at h
  obtain ⟨⟨⟨ht, hm⟩, hid⟩, _⟩ := h
  refine ⟨ht, hm, hid, by unfold kgoneO; rw [h', if_pos rfl], tree_two (rest_tree ht hm hid)⟩
theorem kgone_ok (h : kgoneB rs id = true) : opokB (kgoneO rs id) = true := by
  obtain ⟨_, hm, _, e, _⟩ := kgone_parts h
  rw [e]; exact opok_move hm (by decide) (.inl rfl)
theorem kgone_tree (h : kgoneB rs id = true) : treeB (doT rs (kgoneO rs id)) = true := by
  rw [doT_is (kgone_parts h).1 (kgone_ok h)]; exact do_tree (kgone_parts h).1 (kgone_ok h)
/-- What stands under a row that is thrown away stands under the second root then. -/
theorem gone_under (h : kgoneB rs id = true) : (∀ i, i < rs.length → undT rs (rat rs i).id id = true → undT (doT rs (kgoneO rs id)) (rat rs i).id 2 = true) ∧ kgoneB (doT rs (kgoneO rs id)) id = false := by
  have hx := kgone_tree h
  have hok := kgone_ok h
  obtain ⟨ht, hm, hid, e, h2⟩ := kgone_parts h
  have hil := there_iff.1 hid
  have hT := treeP_of ht
  obtain ⟨hP, ex⟩ := move_to (at' := 0) ht hm hid h2
  have ex' : doT rs (kgoneO rs id) = putR (restR rs (atN rs id)) (subR rs (atN rs id)) 2 (goA (restR rs (atN rs id)) (moveO id 2 0)) := by rw [doT_is ht hok, e, ex]
  have F := hP.facts
  rw [← ex'] at F
  have hu : ∀ j, j < (subR rs (atN rs id)).length → undB (doT rs (kgoneO rs id)) (rat (subR rs (atN rs id)) j).id 2 = true := fun j hj => by
    have := F.under hj
    rw [atN_id (there_iff.1 h2)] at this; exact this
  have hsl := sub_len hil
  refine ⟨fun i hi g => ?_, ?_⟩
  · simp only [undT, ht, Bool.true_and, undB, hT.at_self hi, Bool.and_eq_true, decide_eq_true_eq] at g
    have := hu (i - atN rs id) (by omega)
    rw [sub_rat (by omega), show atN rs id + (i - atN rs id) = i by omega] at this
    simp [undT, hx, this]
  · have := hu 0 hP.h0
    rw [sub_head hid] at this
    simp [kgoneB, this]
theorem gone_same (h : kgoneB rs id = true) : (doT rs (kgoneO rs id)).length = rs.length ∧ ∀ i, i < (doT rs (kgoneO rs id)).length → atN rs (rat (doT rs (kgoneO rs id)) i).id < rs.length :=
  doT_same (kgone_parts h).1 (kgone_ok h) (fun g => by rw [(kgone_parts h).2.2.2.1] at g; exact absurd g (by show ¬ (3 : Int) = 1; decide))
theorem gone_no (ht : treeB rs = true) (h : kgoneB rs id = false) : whoI id = 0 ∨ atI rs id < 0 ∨ undT rs id 2 = true := by
  cases hm : madeB id
  · left; unfold whoI; rw [hm]; rfl
  · right
    cases hth : thereB rs id
    · left
      rw [there_no hth]; decide
    · right
      unfold kgoneB at h
      rw [ht, hm, hth] at h
      simp only [Bool.true_and, Bool.not_eq_false'] at h
      simp [undT, ht, h]
end
end Go.Proofs.YtlhlkbbjmbpgpaaDoor
