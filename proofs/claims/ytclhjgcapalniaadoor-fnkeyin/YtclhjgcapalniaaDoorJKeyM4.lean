/-
  Plain mathematics: behind the command in, a row is the last child of the one ahead. Nothing of the program is run here. Conditions: none beyond the lemmas' own premises.
-/
import Derived.Test.YtclhjgcapalniaaDoorJKeyM2
namespace Go.Proofs.YtclhjgcapalniaaDoor

theorem kidsOf_same {l m : List RowD} {x : Nat} (hx : rdep l x = rdep m x) : ∀ k s, (∀ j, s ≤ j → j < s + k → rat l j = rat m j) → kidsOf l x s k = kidsOf m x s k
  | 0, _, _ => rfl
  | k + 1, s, h => by
    have h0 := h s (Nat.le_refl _) (by omega)
    have ih := kidsOf_same hx k (s + 1) (fun j a b => h j (by omega) (by omega))
    rw [kidsOf, kidsOf, ih, hx]
    unfold rdep
    rw [h0]
section
variable {rs : List RowD} {id : Int}
theorem in_kids (h : kinB rs id = true) : kidsL (doT rs (kinO rs id)) (ahAt rs (atN rs id)) = kidsL rs (ahAt rs (atN rs id)) ++ [id] ∧ hasB (doT rs (kinO rs id)) id = true ∧ upI (doT rs (kinO rs id)) id = ahAt rs (atN rs id) ∧
    rdep (doT rs (kinO rs id)) (atN (doT rs (kinO rs id)) id) = rdep rs (atN rs id) + 1 := by
  have hok := kin_ok h
  obtain ⟨ht, hm, hid, ha, e, _⟩ := kin_parts h
  have hx : treeB (doT rs (kinO rs id)) = true := by rw [doT_is ht hok]; exact do_tree ht hok
  obtain ⟨f2, g, hP, ex, hpl, hD, hat, hlt, hen⟩ := in_put h
  have f5 := (ahead_facts ht hm hid ha).2.2.2.2
  have hil := there_iff.1 hid
  have hT := treeP_of ht
  obtain ⟨e1, e2, e3, e4⟩ := en_spec (D := rdep rs) hil
  have e' : enR rs (atN rs id) = en (rdep rs) rs.length (atN rs id) := rfl
  obtain ⟨r1, r2⟩ := rest_rat hil
  have hlen := (rest_len hil).1
  have hsl := sub_len hil
  have F := hP.facts
  rw [← ex, hpl, hD, hat] at F
  have hn := F.n0
  have hxl := F.len
  have hxa : atN (doT rs (kinO rs id)) (ahAt rs (atN rs id)) = atN rs (ahAt rs (atN rs id)) := by
    have := F.at_rest (there_iff.1 f2)
    rw [atN_id (there_iff.1 f2), hat, if_pos hlt] at this; exact this
  have hlo : ∀ j, j < atN rs id → rat (doT rs (kinO rs id)) j = rat rs j := fun j hj => by rw [F.lo j hj, r1 j hj]
  have hdl : ∀ j, j < atN rs id → rdep (doT rs (kinO rs id)) j = rdep rs j := fun j hj => by unfold rdep; rw [hlo j hj]
  have d1 : ∀ j, j < atN rs id → rdep (restR rs (atN rs id)) j = rdep rs j := fun j hj => by unfold rdep; rw [r1 j hj]
  have hal := there_iff.1 f5
  obtain ⟨w1, w2, w3, w4⟩ := en_spec (D := rdep rs) hal
  have w' : enR rs (atN rs (ahAt rs (atN rs id))) = en (rdep rs) rs.length (atN rs (ahAt rs (atN rs id))) := rfl
  have hda : rdep rs (atN rs id) ≤ rdep rs (atN rs (ahAt rs (atN rs id))) := by
    have := w4 (by rw [← w', hen]; exact hil)
    rw [← w', hen] at this; exact this
  have hhead : rdep (doT rs (kinO rs id)) (atN rs id) = rdep rs (atN rs (ahAt rs (atN rs id))) + 1 := by rw [F.d0, d1 _ hlt]
  have hdeq : rdep rs (atN rs (ahAt rs (atN rs id))) = rdep rs (atN rs id) := by
    have q := F.hD
    have s0 : rdep (subR rs (atN rs id)) 0 = rdep rs (atN rs id) := by unfold rdep; rw [sub_rat (by omega)]; rfl
    rw [s0, d1 _ hlt] at q
    omega
  have hxen : enR (doT rs (kinO rs id)) (atN rs (ahAt rs (atN rs id))) = atN rs id + (subR rs (atN rs id)).length := by
    unfold enR
    refine en_uniq (by omega) (by have := F.le; omega) (fun j j1 j2 => ?_) (fun q => ?_)
    · by_cases c : j < atN rs id
      · rw [hdl _ hlt, hdl j c]; exact w3 j j1 (by rw [← w', hen]; exact c)
      · obtain ⟨i, rfl⟩ : ∃ i, j = atN rs id + i := ⟨j - atN rs id, by omega⟩
        have := F.dge (show i < (subR rs (atN rs id)).length by omega)
        rw [d1 _ hlt] at this
        rw [hdl _ hlt]; omega
    · rw [F.dhi (Nat.le_refl _), hdl _ hlt]
      have q2 : rdep (restR rs (atN rs id)) (atN rs id) = rdep rs (enR rs (atN rs id)) := by unfold rdep; rw [r2 _ (Nat.le_refl _), show atN rs id + (enR rs (atN rs id) - atN rs id) = enR rs (atN rs id) by omega]
      rw [q2, hdeq]
      exact e4 (by omega)
  have hxh : atN (doT rs (kinO rs id)) id = atN rs id := by
    have := F.at_mid hn
    rw [sub_head hid, Nat.add_zero] at this; exact this
  have hth : hasB (doT rs (kinO rs id)) id = true := hasB_iff.2 ⟨hx, by rw [hxh]; have := F.le; omega⟩
  refine ⟨?_, hth, ?_, by rw [hxh, hhead, hdeq]⟩
  · rw [kidsL_yes (by rw [hxa]; have := F.le; omega), hxa, hxen, kidsL_yes hal, hen,
      show atN rs id + (subR rs (atN rs id)).length - (atN rs (ahAt rs (atN rs id)) + 1) = (atN rs id - (atN rs (ahAt rs (atN rs id)) + 1)) + (1 + ((subR rs (atN rs id)).length - 1)) by omega,
      kidsOf_add, kidsOf_add, show atN rs (ahAt rs (atN rs id)) + 1 + (atN rs id - (atN rs (ahAt rs (atN rs id)) + 1)) = atN rs id by omega]
    rw [kidsOf_same (hdl _ hlt) _ _ (fun j _ b => hlo j (by omega))]
    rw [kidsOf_skip ((subR rs (atN rs id)).length - 1) (atN rs id + 1) (fun j a b => ?_)]
    · have hidr : (rat (doT rs (kinO rs id)) (atN rs id)).id = id := by
        have := F.mid 0 hn
        rw [Nat.add_zero] at this
        rw [this]; exact sub_head hid
      rw [kidsOf, if_pos (by rw [hhead, hdl _ hlt]), hidr]
      simp [kidsOf]
    · obtain ⟨i, rfl⟩ : ∃ i, j = atN rs id + i := ⟨j - atN rs id, by omega⟩
      rw [F.dmid (by omega), hdl _ hlt]
      have q1 := F.deep i (by omega) (by omega)
      have q2 := F.hD
      rw [d1 _ hlt] at q2
      omega
  · unfold upI
    rw [hth, if_pos rfl, hxh]
    have := F.up_head
    rw [← hat, atN_id (there_iff.1 f2)] at this
    exact this
end
end Go.Proofs.YtclhjgcapalniaaDoor
