/-
  Plain mathematics: a row is moved with all that stands under it, and nothing else is. Nothing of the program is run here. Conditions: none beyond the lemmas' own premises.
-/
import Derived.Test.YtlhlkbbjmbpgpaaDoorGH
namespace Go.Proofs.YtlhlkbbjmbpgpaaDoor

/-- Of an outline as a put: who stands under the first of the rows. -/
theorem PutF.und_rest {rest rows x : List RowD} {u P : Nat} {D : Int} (h : PutF rest rows x u P D) {c : Int} (hc : thereB rest c = true) : undB x c (rat rows 0).id = false := by
  have h1 := h.at_rest (there_iff.1 hc)
  rw [atN_id (there_iff.1 hc)] at h1
  have h2 := h.at_mid h.n0
  rw [Nat.add_zero] at h2
  have he := h.enP
  unfold undB
  rw [h2, he, h1]
  by_cases q : atN rest c < P
  · rw [if_pos q]; simp; omega
  · rw [if_neg q]; simp; omega
theorem PutF.und_mid {rest rows x : List RowD} {u P : Nat} {D : Int} (h : PutF rest rows x u P D) {j : Nat} (hj : j < rows.length) : undB x (rat rows j).id (rat rows 0).id = true := by
  have h1 := h.at_mid hj
  have h2 := h.at_mid h.n0
  rw [Nat.add_zero] at h2
  have he := h.enP
  have hl := h.len
  have hle := h.le
  unfold undB
  rw [h2, he, h1]
  simp
  omega
theorem two_puts {rest rows x y : List RowD} {u P v Q : Nat} {D E : Int} (h : PutF rest rows x u P D) (g : PutF rest rows y v Q E) {i : Nat} (hi : i < x.length) :
    ((rat x i).id ≠ (rat rows 0).id → upAt x i = upAt y (atN y (rat x i).id)) ∧ undB x (rat x i).id (rat rows 0).id = undB y (rat x i).id (rat rows 0).id ∧ atN y (rat x i).id < y.length ∧
    ((rat x i).id ≠ (rat rows 0).id → undB x (rat x i).id (rat rows 0).id = true → kidsAt x i = kidsAt y (atN y (rat x i).id)) := by
  have hl := h.len
  have hle := h.le
  have gl := g.len
  have gle := g.le
  -- where the row stands
  have key : (∃ q, q < rest.length ∧ (rat x i).id = (rat rest q).id ∧ i = (if q < P then q else q + rows.length)) ∨ (∃ j, j < rows.length ∧ i = P + j ∧ (rat x i).id = (rat rows j).id) := by
    by_cases c1 : i < P
    · exact .inl ⟨i, by omega, by rw [h.lo i c1], by rw [if_pos c1]⟩
    · by_cases c2 : i < P + rows.length
      · have := h.mid (i - P) (by omega)
        rw [show P + (i - P) = i by omega] at this
        exact .inr ⟨i - P, by omega, by omega, by rw [this]; rfl⟩
      · have := h.hi (i - rows.length) (by omega)
        rw [show i - rows.length + rows.length = i by omega] at this
        exact .inl ⟨i - rows.length, by omega, by rw [this], by rw [if_neg (by omega)]; omega⟩
  rcases key with ⟨q, hq, e, ei⟩ | ⟨j, hj, ei, e⟩
  · have hth : thereB rest (rat rest q).id = true := there_iff.2 (mem_there (rat_in hq))
    have u1 := h.und_rest hth
    have u2 := g.und_rest hth
    have a2 := g.at_rest hq
    refine ⟨fun _ => ?_, by rw [e, u1, u2], ?_, fun _ w => ?_⟩
    · rw [e, a2, g.up_rest hq, ei, h.up_rest hq]
    · rw [e, a2]; split <;> omega
    · rw [e, u1] at w; cases w
  · have a2 := g.at_mid hj
    refine ⟨fun hne => ?_, by rw [e, h.und_mid hj, g.und_mid hj], by rw [e, a2]; omega, fun hne _ => ?_⟩
    · have hj0 : 1 ≤ j := by
        rcases Nat.eq_zero_or_pos j with z | z
        · subst z; exact absurd e hne
        · exact z
      rw [e, a2, ei, h.up_mid hj0 hj, g.up_mid hj0 hj]
    · rw [e, a2, ei, h.kids_mid hj, g.kids_mid hj]
/-- A row is moved with all that stands under it. -/
theorem move_all {rs : List RowD} {o : OpD} (ht : treeB rs = true) (hok : opokB o = true) (hk : o.kind = 3) {i : Nat} (hi : i < rs.length) :
    ((rat rs i).id ≠ o.id → upI rs (rat rs i).id = upI (doR rs o) (rat rs i).id) ∧ undT rs (rat rs i).id o.id = undT (doR rs o) (rat rs i).id o.id ∧ ((rat rs i).id ≠ o.id → undT rs (rat rs i).id o.id = true → kidsT rs (rat rs i).id = kidsT (doR rs o) (rat rs i).id) := by
  have hm := opok_made hok
  have hx := do_tree ht hok
  cases hid : thereB rs o.id
  · rw [do_move_no hk hid]; exact ⟨fun _ => rfl, rfl, fun _ _ => rfl⟩
  · have e := do_move ht hk hm hid
    cases hg : goNo (subR rs (atN rs o.id)) o
    · rw [hg] at e
      simp only [Bool.false_eq_true, if_false] at e
      have hil := there_iff.1 hid
      obtain ⟨u0, D0, F0⟩ := tree_putF ht hil (by rw [atN_id hil]; exact made_root hm)
      have F := (go_put o (rest_tree ht hm hid) (sub_ok ht hil)).facts
      rw [← e] at F
      obtain ⟨k1, k2, k3, k4⟩ := two_puts F0 F hi
      rw [sub_head hid] at k1 k2 k4
      have ha := (treeP_of ht).at_self hi
      have h1 : hasB rs (rat rs i).id = true := hasB_iff.2 ⟨ht, by rw [ha]; exact hi⟩
      have h2 : hasB (doR rs o) (rat rs i).id = true := hasB_iff.2 ⟨hx, k3⟩
      refine ⟨fun hne => ?_, ?_, fun hne hu => ?_⟩
      · unfold upI
        rw [h1, h2, if_pos rfl, if_pos rfl, ha]; exact k1 hne
      · unfold undT; rw [ht, hx, k2]
      · have hu' : undB rs (rat rs i).id o.id = true := by simpa [undT, ht] using hu
        unfold kidsT
        rw [ht, hx, if_pos rfl, if_pos rfl]
        unfold kidsL
        rw [ha, if_pos hi, if_pos k3]; exact k4 hne hu'
    · rw [hg] at e
      simp only [if_true] at e
      rw [e]; exact ⟨fun _ => rfl, rfl, fun _ _ => rfl⟩
end Go.Proofs.YtlhlkbbjmbpgpaaDoor
