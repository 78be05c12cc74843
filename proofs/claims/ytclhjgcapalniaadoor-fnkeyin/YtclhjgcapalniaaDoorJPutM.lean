/-
  Plain mathematics: rows that are put into an outline: where they stand, what stands ahead of them, and what is left when they are taken out again. Nothing of the program is run here. Conditions: none beyond the lemmas' own premises.
-/
import Derived.Test.YtclhjgcapalniaaDoorJMakeM
import Derived.Test.YtclhjgcapalniaaDoorGB
namespace Go.Proofs.YtclhjgcapalniaaDoor

/-- What a put is, by places: rows come behind place P of an outline, under place u, shifted by D. -/
structure PutF (rest rows x : List RowD) (u P : Nat) (D : Int) : Prop where
  len : x.length = rest.length + rows.length
  lt : u < P
  le : P ≤ rest.length
  lo : ∀ j, j < P → rat x j = rat rest j
  mid : ∀ j, j < rows.length → rat x (P + j) = shiftR D (rat rows j)
  hi : ∀ j, P ≤ j → rat x (j + rows.length) = rat rest j
  n0 : 0 < rows.length
  hD : rdep rows 0 + D = rdep rest u + 1
  deep : ∀ i, 1 ≤ i → i < rows.length → rdep rows 0 < rdep rows i
  btw : ∀ j, u < j → j < P → rdep rest u < rdep rest j
  nxt : P < rest.length → rdep rest P ≤ rdep rest u + 1
  dj : ∀ i j, i < rows.length → j < rest.length → (rat rows i).id ≠ (rat rest j).id
  ndp : ∀ i j, i < j → j < rows.length → (rat rows i).id ≠ (rat rows j).id
  fr : ∀ i j, j < i → i < rest.length → (rat rest j).id ≠ (rat rest i).id

section
variable {rest rows x : List RowD} {u P : Nat} {D : Int}
theorem PutF.dlo (h : PutF rest rows x u P D) {j : Nat} (hj : j < P) : rdep x j = rdep rest j := by unfold rdep; rw [h.lo j hj]
theorem PutF.dmid (h : PutF rest rows x u P D) {j : Nat} (hj : j < rows.length) : rdep x (P + j) = rdep rows j + D := by unfold rdep; rw [h.mid j hj]; rfl
theorem PutF.dhi (h : PutF rest rows x u P D) {j : Nat} (hj : P ≤ j) : rdep x (j + rows.length) = rdep rest j := by unfold rdep; rw [h.hi j hj]
theorem PutF.d0 (h : PutF rest rows x u P D) : rdep x P = rdep rest u + 1 := by
  have := h.dmid h.n0
  rw [Nat.add_zero] at this
  rw [this, h.hD]
theorem PutF.dge (h : PutF rest rows x u P D) {j : Nat} (hj : j < rows.length) : rdep rest u + 1 ≤ rdep x (P + j) := by
  rw [h.dmid hj]
  have := h.hD
  by_cases e : j = 0
  · subst e; omega
  · have := h.deep j (by omega) hj; omega
theorem PutF.enP (h : PutF rest rows x u P D) : enR x P = P + rows.length := by
  have hl := h.len
  have hle := h.le
  have hn := h.n0
  unfold enR
  refine en_uniq (by omega) (by omega) (fun j a b => ?_) (fun a => ?_)
  · obtain ⟨i, rfl⟩ : ∃ i, j = P + i := ⟨j - P, by omega⟩
    rw [h.d0, h.dmid (by omega)]
    have := h.deep i (by omega) (by omega)
    have := h.hD
    omega
  · rw [h.d0, h.dhi (Nat.le_refl _)]
    exact h.nxt (by omega)
theorem PutF.at_mid (h : PutF rest rows x u P D) {j : Nat} (hj : j < rows.length) : atN x (rat rows j).id = P + j := by
  have hl := h.len
  have hle := h.le
  refine atN_mk (by omega) (by rw [h.mid j hj]; rfl) (fun i hi => ?_)
  by_cases e : i < P
  · rw [h.lo i e]; exact (h.dj j i hj (by omega)).symm
  · obtain ⟨q, rfl⟩ : ∃ q, i = P + q := ⟨i - P, by omega⟩
    rw [h.mid q (by omega)]
    exact h.ndp q j (by omega) hj
theorem PutF.at_rest (h : PutF rest rows x u P D) {i : Nat} (hi : i < rest.length) : atN x (rat rest i).id = if i < P then i else i + rows.length := by
  have hl := h.len
  have hle := h.le
  split
  · rename_i e
    exact atN_mk (by omega) (by rw [h.lo i e]) (fun j hj => by rw [h.lo j (by omega)]; exact h.fr i j hj hi)
  · rename_i e
    refine atN_mk (by omega) (by rw [h.hi i (by omega)]) (fun j hj => ?_)
    by_cases e1 : j < P
    · rw [h.lo j e1]; exact h.fr i j (by omega) hi
    · by_cases e2 : j < P + rows.length
      · obtain ⟨q, rfl⟩ : ∃ q, j = P + q := ⟨j - P, by omega⟩
        rw [h.mid q (by omega)]
        exact h.dj q i (by omega) hi
      · obtain ⟨q, rfl⟩ : ∃ q, j = q + rows.length := ⟨j - rows.length, by omega⟩
        rw [h.hi q (by omega)]
        exact h.fr i q (by omega) hi
theorem PutF.up_head (h : PutF rest rows x u P D) : upAt x P = (rat rest u).id := by
  unfold upAt
  rw [lstBelow_mk _ P u h.lt (by simp only [decide_eq_true_eq]; rw [h.d0, h.dlo h.lt]; omega) (fun j a b => by
    simp only [decide_eq_false_iff_not, Int.not_lt]; rw [h.d0, h.dlo b]; have := h.btw j a b; omega)]
  simp only [h.lo u h.lt]
theorem PutF.ah_first (h : PutF rest rows x u P D) (e : P = u + 1) : ahAt x P = 0 := by
  unfold ahAt
  rw [lstBelow_mk _ P u h.lt (by simp only [decide_eq_true_eq]; rw [h.d0, h.dlo h.lt]; omega) (fun j a b => by omega)]
  simp only [h.d0, h.dlo h.lt]
  rw [if_neg (by omega)]
theorem PutF.ah_next (h : PutF rest rows x u P D) {a : Nat} (h2 : a < P) (h3 : rdep rest a = rdep rest u + 1) (h4 : ∀ j, a < j → j < P → rdep rest a < rdep rest j) : ahAt x P = (rat rest a).id := by
  unfold ahAt
  rw [lstBelow_mk _ P a h2 (by simp only [decide_eq_true_eq]; rw [h.d0, h.dlo h2]; omega) (fun j c b => by
    simp only [decide_eq_false_iff_not, Int.not_le]; rw [h.d0, h.dlo b]; have := h4 j c b; omega)]
  simp only [h.d0, h.dlo h2]
  rw [if_pos h3, h.lo a h2]
/-- Who was there stands under the same as before. -/
theorem PutF.up_rest (h : PutF rest rows x u P D) {i : Nat} (hi : i < rest.length) : upAt x (if i < P then i else i + rows.length) = upAt rest i := by
  have hn := h.n0
  split
  · rename_i e
    unfold upAt
    rw [lstBelow_congr (fun j => decide (rdep x j < rdep x i)) (fun j => decide (rdep rest j < rdep rest i)) i (fun j hj => by simp only [h.dlo e, h.dlo (show j < P by omega)])]
    cases q : lstBelow (fun j => decide (rdep rest j < rdep rest i)) i with
    | none => rfl
    | some j => have := (lstBelow_some _ _ _ q).1; simp only [h.lo j (by omega)]
  · rename_i e
    have hlt := h.lt
    unfold upAt
    rw [h.dhi (show P ≤ i by omega)]
    cases q : lstBelow (fun j => decide (rdep rest j < rdep rest i)) i with
    | none =>
      have n := lstBelow_none _ _ q
      have nu := n u (by omega)
      simp only [decide_eq_false_iff_not, Int.not_lt] at nu
      rw [lstBelow_mk_none _ _ (fun j hj => ?_)]
      simp only [decide_eq_false_iff_not, Int.not_lt]
      by_cases e1 : j < P
      · have := n j (by omega)
        simp only [decide_eq_false_iff_not, Int.not_lt] at this
        rw [h.dlo e1]; exact this
      · by_cases e2 : j < P + rows.length
        · obtain ⟨l, rfl⟩ : ∃ l, j = P + l := ⟨j - P, by omega⟩
          have := h.dge (show l < rows.length by omega); omega
        · obtain ⟨l, rfl⟩ : ∃ l, j = l + rows.length := ⟨j - rows.length, by omega⟩
          have := n l (by omega)
          simp only [decide_eq_false_iff_not, Int.not_lt] at this
          rw [h.dhi (by omega)]; exact this
    | some j =>
      obtain ⟨a, b, c⟩ := lstBelow_some _ _ _ q
      simp only [decide_eq_true_eq] at b
      by_cases e1 : j < P
      · rw [lstBelow_mk _ (i + rows.length) j (by omega) (by simp only [decide_eq_true_eq]; rw [h.dlo e1]; exact b) (fun l l1 l2 => ?_)]
        · simp only [h.lo j e1]
        · simp only [decide_eq_false_iff_not, Int.not_lt]
          by_cases e2 : l < P
          · have := c l l1 (by omega)
            simp only [decide_eq_false_iff_not, Int.not_lt] at this
            rw [h.dlo e2]; exact this
          · by_cases e3 : l < P + rows.length
            · obtain ⟨q, rfl⟩ : ∃ q, l = P + q := ⟨l - P, by omega⟩
              have g1 := h.dge (show q < rows.length by omega)
              have g2 := h.nxt (by omega)
              by_cases e4 : i = P
              · subst e4; omega
              · have := c P e1 (by omega)
                simp only [decide_eq_false_iff_not, Int.not_lt] at this
                omega
            · obtain ⟨q, rfl⟩ : ∃ q, l = q + rows.length := ⟨l - rows.length, by omega⟩
              have := c q (by omega) (by omega)
              simp only [decide_eq_false_iff_not, Int.not_lt] at this
              rw [h.dhi (by omega)]; exact this
      · rw [lstBelow_mk _ (i + rows.length) (j + rows.length) (by omega) (by simp only [decide_eq_true_eq]; rw [h.dhi (by omega)]; exact b) (fun l l1 l2 => ?_)]
        · simp only [h.hi j (by omega)]
        · simp only [decide_eq_false_iff_not, Int.not_lt]
          obtain ⟨q, rfl⟩ : ∃ q, l = q + rows.length := ⟨l - rows.length, by omega⟩
          have := c q (by omega) (by omega)
          simp only [decide_eq_false_iff_not, Int.not_lt] at this
          rw [h.dhi (by omega)]; exact this
/-- What stands under the rows' first one stands where it stood among them. -/
theorem PutF.up_mid (h : PutF rest rows x u P D) {j : Nat} (h1 : 1 ≤ j) (hj : j < rows.length) : upAt x (P + j) = upAt rows j := by
  unfold upAt
  cases q : lstBelow (fun l => decide (rdep rows l < rdep rows j)) j with
  | none =>
    have := lstBelow_none _ _ q 0 (by omega)
    simp only [decide_eq_false_iff_not, Int.not_lt] at this
    have := h.deep j h1 hj
    omega
  | some l =>
    obtain ⟨a, b, c⟩ := lstBelow_some _ _ _ q
    simp only [decide_eq_true_eq] at b
    rw [lstBelow_mk _ (P + j) (P + l) (by omega) (by simp only [decide_eq_true_eq]; rw [h.dmid (j := l) (by omega), h.dmid hj]; omega) (fun i i1 i2 => ?_)]
    · simp only [h.mid l (by omega)]; rfl
    · obtain ⟨s, rfl⟩ : ∃ s, i = P + s := ⟨i - P, by omega⟩
      have := c s (by omega) (by omega)
      simp only [decide_eq_false_iff_not, Int.not_lt] at this ⊢
      rw [h.dmid (j := s) (by omega), h.dmid hj]; omega
theorem PutF.en_mid (h : PutF rest rows x u P D) {j : Nat} (hj : j < rows.length) : enR x (P + j) = P + enR rows j := by
  obtain ⟨e1, e2, e3, e4⟩ := en_spec (D := rdep rows) hj
  have hl := h.len
  have hle := h.le
  have e' : enR rows j = en (rdep rows) rows.length j := rfl
  unfold enR
  rw [← e'] at e1 e2 e3 e4 ⊢
  refine en_uniq (by omega) (by omega) (fun i a b => ?_) (fun a => ?_)
  · obtain ⟨s, rfl⟩ : ∃ s, i = P + s := ⟨i - P, by omega⟩
    rw [h.dmid hj, h.dmid (by omega)]
    have := e3 s (by omega) (by omega); omega
  · by_cases e : enR rows j < rows.length
    · rw [h.dmid hj, h.dmid e]
      have := e4 e; omega
    · have e5 : enR rows j = rows.length := by omega
      rw [e5, h.dhi (Nat.le_refl _)]
      have := h.nxt (by omega)
      have := h.dge hj
      omega
theorem PutF.kids_run (h : PutF rest rows x u P D) (j : Nat) (hj : j < rows.length) : ∀ k s, s + k ≤ rows.length → kidsOf x (P + j) (P + s) k = kidsOf rows j s k
  | 0, s, _ => rfl
  | k + 1, s, hs => by
    have ih := h.kids_run j hj k (s + 1) (by omega)
    rw [kidsOf, kidsOf, h.dmid hj, h.dmid (show s < rows.length by omega), h.mid s (by omega)]
    rw [show P + s + 1 = P + (s + 1) by omega, ih]
    have e : (rdep rows s + D = rdep rows j + D + 1) ↔ (rdep rows s = rdep rows j + 1) := by omega
    by_cases g : rdep rows s = rdep rows j + 1
    · rw [if_pos g, if_pos (e.2 g)]; rfl
    · rw [if_neg g, if_neg (fun q => g (e.1 q))]
theorem PutF.kids_mid (h : PutF rest rows x u P D) {j : Nat} (hj : j < rows.length) : kidsAt x (P + j) = kidsAt rows j := by
  obtain ⟨e1, e2, _, _⟩ := en_spec (D := rdep rows) hj
  have e' : enR rows j = en (rdep rows) rows.length j := rfl
  unfold kidsAt
  rw [h.en_mid hj, show P + enR rows j - (P + j + 1) = enR rows j - (j + 1) by omega, show P + j + 1 = P + (j + 1) by omega]
  exact h.kids_run j hj _ _ (by omega)
end

structure PutOk (rest rows : List RowD) (up at' : Int) : Prop where
  tree : TreeL rest
  hu : atN rest up < rest.length
  ha : 0 < at' → atN rest up < atN rest at' ∧ atN rest at' < enR rest (atN rest up) ∧ rdep rest (atN rest at') = rdep rest (atN rest up) + 1
  a0 : 0 ≤ at'
  h0 : 0 < rows.length
  deep : ∀ i, 1 ≤ i → i < rows.length → rdep rows 0 < rdep rows i
  dj : ∀ r ∈ rows, ∀ s ∈ rest, r.id ≠ s.id
  nd : (rows.map (·.id)).Nodup
theorem nodup_rat {l : List RowD} (h : (l.map (·.id)).Nodup) {i j : Nat} (hij : i < j) (hj : j < l.length) : (rat l i).id ≠ (rat l j).id := by
  rw [List.nodup_iff_pairwise_ne, List.pairwise_iff_getElem] at h
  have := h i j (by simp; omega) (by simpa using hj) hij
  simp only [List.getElem_map] at this
  rw [rat_lt (show i < l.length by omega), rat_lt hj]
  exact this
theorem putR_rat {rest rows : List RowD} {up at' : Int} (hP : placeN rest up at' ≤ rest.length) :
    (∀ j, j < placeN rest up at' → rat (putR rest rows up at') j = rat rest j) ∧ (∀ j, j < rows.length → rat (putR rest rows up at') (placeN rest up at' + j) = shiftR (deepI' rest rows up) (rat rows j)) ∧
    (∀ j, placeN rest up at' ≤ j → rat (putR rest rows up at') (j + rows.length) = rat rest j) := by
  unfold putR
  generalize placeN rest up at' = P at *
  generalize deepI' rest rows up = D
  have hl : (rest.take P).length = P := by rw [List.length_take]; omega
  refine ⟨fun j hj => ?_, fun j hj => ?_, fun j hj => ?_⟩
  · unfold rat
    rw [List.getD_eq_getElem?_getD, List.getD_eq_getElem?_getD, List.append_assoc, List.getElem?_append_left (by omega), List.getElem?_take_of_lt hj]
  · unfold rat
    rw [List.getD_eq_getElem?_getD, List.getD_eq_getElem?_getD, List.append_assoc, List.getElem?_append_right (by omega), hl, Nat.add_sub_cancel_left, List.getElem?_append_left (by simpa using hj), List.getElem?_map, List.getElem?_eq_getElem hj]
    rfl
  · unfold rat
    rw [List.getD_eq_getElem?_getD, List.getD_eq_getElem?_getD, List.getElem?_append_right (by simp; omega), List.getElem?_drop]
    congr 2
    simp only [List.length_append, hl, List.length_map]
    omega
section
variable {rest rows : List RowD} {up at' : Int}
theorem PutOk.place (h : PutOk rest rows up at') : atN rest up < placeN rest up at' ∧ placeN rest up at' ≤ rest.length ∧
    (∀ j, atN rest up < j → j < placeN rest up at' → rdep rest (atN rest up) < rdep rest j) ∧ (placeN rest up at' < rest.length → rdep rest (placeN rest up at') ≤ rdep rest (atN rest up) + 1) := by
  obtain ⟨u1, u2, u3, u4⟩ := en_spec (D := rdep rest) h.hu
  have eu : enR rest (atN rest up) = en (rdep rest) rest.length (atN rest up) := rfl
  have ha' : 0 < at' → atN rest at' < rest.length ∧ rdep rest (atN rest at') = rdep rest (atN rest up) + 1 := fun g => by
    obtain ⟨a1, a2, a3⟩ := h.ha g
    exact ⟨by omega, a3⟩
  have hb := placeN_bd h.hu (fun g => (ha' g).1)
  have hn := place_next h.tree ha'
  refine ⟨?_, hb.2, fun j j1 j2 => ?_, hn⟩
  · unfold placeN
    split
    · rename_i g
      obtain ⟨a1, a2, a3⟩ := h.ha g
      have := (en_spec (D := rdep rest) (ha' g).1).1
      have e' : enR rest (atN rest at') = en (rdep rest) rest.length (atN rest at') := rfl
      omega
    · omega
  · unfold placeN at j2
    split at j2
    · rename_i g
      obtain ⟨a1, a2, a3⟩ := h.ha g
      have := (en_spec (D := rdep rest) (ha' g).1).2.2.1
      have e' : enR rest (atN rest at') = en (rdep rest) rest.length (atN rest at') := rfl
      by_cases q : j ≤ atN rest at'
      · exact u3 j j1 (by omega)
      · have := this j (by omega) (by omega); omega
    · omega
theorem PutOk.facts (h : PutOk rest rows up at') : PutF rest rows (putR rest rows up at') (atN rest up) (placeN rest up at') (deepI' rest rows up) := by
  obtain ⟨p1, p2, p3, p4⟩ := h.place
  obtain ⟨r1, r2, r3⟩ := putR_rat (rows := rows) p2
  refine ⟨put_length _ _ _ _, p1, p2, r1, r2, r3, h.h0, by unfold deepI'; omega, h.deep, p3, p4, fun i j hi hj => h.dj _ (rat_in hi) _ (rat_in hj), fun i j hij hj => nodup_rat h.nd hij hj, fun i j hij hi => nodup_rat h.tree.nd hij hi⟩
theorem PutOk.upH (h : PutOk rest rows up at') : upAt (putR rest rows up at') (placeN rest up at') = up := by
  rw [h.facts.up_head, atN_id h.hu]
theorem PutOk.ahH (h : PutOk rest rows up at') : ahAt (putR rest rows up at') (placeN rest up at') = at' := by
  by_cases g : 0 < at'
  · obtain ⟨a1, a2, a3⟩ := h.ha g
    have hl : atN rest at' < rest.length := by
      have := (en_spec (D := rdep rest) h.hu).2.1
      have eu : enR rest (atN rest up) = en (rdep rest) rest.length (atN rest up) := rfl
      omega
    obtain ⟨e1, e2, e3, e4⟩ := en_spec (D := rdep rest) hl
    have e' : enR rest (atN rest at') = en (rdep rest) rest.length (atN rest at') := rfl
    have hp : placeN rest up at' = enR rest (atN rest at') := by unfold placeN; rw [if_pos g]
    rw [h.facts.ah_next (a := atN rest at') (by omega) a3 (fun j j1 j2 => e3 j j1 (by omega)), atN_id hl]
  · rw [h.facts.ah_first (by unfold placeN; rw [if_neg g])]
    have := h.a0; omega
theorem PutOk.rest_back (h : PutOk rest rows up at') : restR (putR rest rows up at') (placeN rest up at') = rest ∧ subR (putR rest rows up at') (placeN rest up at') = rows.map (shiftR (deepI' rest rows up)) := by
  have he := h.facts.enP
  have hp := h.facts.le
  unfold restR subR
  rw [he]
  unfold putR
  generalize placeN rest up at' = P at *
  generalize deepI' rest rows up = D at *
  have hl : (rest.take P).length = P := by rw [List.length_take]; omega
  have hm : (rows.map (shiftR D)).length = rows.length := by simp
  refine ⟨?_, ?_⟩
  · rw [List.append_assoc, List.take_left' hl, ← List.append_assoc, List.drop_left' (by rw [List.length_append, hl, hm]), List.take_append_drop]
  · rw [List.append_assoc, List.drop_left' hl, List.take_left' (by rw [hm]; omega)]
theorem PutOk.at_head (h : PutOk rest rows up at') {id : Int} (hid : (rat rows 0).id = id) : atN (putR rest rows up at') id = placeN rest up at' := by
  have := h.facts.at_mid h.h0
  rw [hid] at this
  simpa using this
end
theorem shift_shift (d e : Int) (l : List RowD) : (l.map (shiftR d)).map (shiftR e) = l.map (shiftR (d + e)) := by
  rw [List.map_map]
  congr 1
  funext r
  simp [shiftR, Int.add_assoc]
theorem put_shift (rest rows : List RowD) (up at' e : Int) (h0 : 0 < rows.length) : putR rest (rows.map (shiftR e)) up at' = putR rest rows up at' := by
  unfold putR
  have h1 : rdep (rows.map (shiftR e)) 0 = rdep rows 0 + e := by
    unfold rdep rat
    rw [List.getD_eq_getElem?_getD, List.getD_eq_getElem?_getD, List.getElem?_map, List.getElem?_eq_getElem h0]
    rfl
  rw [shift_shift]
  have h2 : e + deepI' rest (rows.map (shiftR e)) up = deepI' rest rows up := by unfold deepI'; rw [h1]; omega
  rw [h2]
end Go.Proofs.YtclhjgcapalniaaDoor
