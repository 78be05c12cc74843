/-
  Joined texts, each with its own head: what it holds, and its conditions.
-/
import Derived.Test.YtlhlkbbjmbpgpaaDoorGG
import Derived.Test.YtlhlkbbjmbpgpaaDoorGD
import Derived.Test.YtlhlkbbjmbpgpaaDoorGB

/-
  Plain mathematics: the numbers of an outline that was changed. Nothing of the program is run here. Conditions: none beyond the lemmas' own premises.
-/
namespace Go.Proofs.YtlhlkbbjmbpgpaaDoor

theorem put_length (rest rows : List RowD) (up at' : Int) : (putR rest rows up at').length = rest.length + rows.length := by
  unfold putR
  have h := congrArg List.length (List.take_append_drop (placeN rest up at') rest)
  simp only [List.length_append, List.length_map] at h ⊢
  omega
theorem put_mem {rest rows : List RowD} {up at' : Int} {r : RowD} : r ∈ putR rest rows up at' → r ∈ rest ∨ ∃ s ∈ rows, s.id = r.id := by
  unfold putR
  intro h
  rcases List.mem_append.1 h with h | h
  · rcases List.mem_append.1 h with h | h
    · exact .inl (List.mem_of_mem_take h)
    · obtain ⟨s, hs, e⟩ := List.mem_map.1 h
      exact .inr ⟨s, hs, by rw [← e]; rfl⟩
  · exact .inl (List.mem_of_mem_drop h)
/-- A row was made: one more, and it stands there. -/
theorem do_made {rs : List RowD} {o : OpD} (hk : o.kind = 1) (hn : ¬ atN rs o.id < rs.length) : (doR rs o).length = rs.length + 1 ∧ atN (doR rs o) o.id < (doR rs o).length := by
  have h : noWhereB rs o = false := by rw [noWhere1 hk]; simp [thereB, hn]
  rw [doR_put hk h]
  refine ⟨put_length _ _ _ _, ?_⟩
  have hm : (⟨o.id, 0 + deepI' rs [⟨o.id, 0, o.txt⟩] (whereU rs o), o.txt⟩ : RowD) ∈ putR rs [⟨o.id, 0, o.txt⟩] (whereU rs o) (whereA rs o) := by
    unfold putR
    refine List.mem_append_left _ (List.mem_append_right _ ?_)
    simp [shiftR]
  exact mem_there hm
/-- No row was made: the numbers are the same. -/
theorem do_same {rs : List RowD} {o : OpD} (hok : opokB o = true) (h : o.kind = 1 → atN rs o.id < rs.length) : (doR rs o).length = rs.length ∧ ∀ r ∈ doR rs o, atN rs r.id < rs.length := by
  rcases opok_kind hok with k | k | k
  · have hn : noWhereB rs o = true := by rw [noWhere1 k]; exact there_iff.2 (h k)
    rw [doR_no k hn]
    exact ⟨rfl, fun r hr => mem_there hr⟩
  · have e : doR rs o = if thereB rs o.id then setTxt rs (atN rs o.id) o.txt else rs := by simp [doR, k]
    rw [e]
    split
    · refine ⟨by simp [setTxt], fun r hr => ?_⟩
      have hi : (setTxt rs (atN rs o.id) o.txt).map (·.id) = rs.map (·.id) := by
        unfold setTxt
        apply List.ext_getElem
        · simp
        · intro i h1 h2
          simp only [List.getElem_map, List.getElem_modify]
          split <;> rfl
      have : r.id ∈ rs.map (·.id) := by rw [← hi]; exact List.mem_map_of_mem hr
      obtain ⟨s, hs, e⟩ := List.mem_map.1 this
      have e' : s.id = r.id := e
      rw [← e']; exact mem_there hs
    · exact ⟨rfl, fun r hr => mem_there hr⟩
  · cases hn : noWhereB rs o
    · rw [doR_move k hn]
      have ht : atN rs o.id < rs.length := by
        have : thereB rs o.id = true := by
          cases g : thereB rs o.id
          · simp [noWhereB, k, g] at hn
          · rfl
        exact there_iff.1 this
      refine ⟨by rw [put_length]; exact (rest_len ht).1, fun r hr => ?_⟩
      rcases put_mem hr with h | ⟨s, hs, e⟩
      · exact mem_there (mem_rest h)
      · rw [← e]
        obtain ⟨i, _, i2, e2, _⟩ := sub_mem ht hs
        have he : enR rs (atN rs o.id) ≤ rs.length := (en_spec (D := rdep rs) ht).2.1
        rw [e2]; exact mem_there (rat_in (show i < rs.length by omega))
    · have e : doR rs o = rs := by simp [doR, k, hn]
      rw [e]
      exact ⟨rfl, fun r hr => mem_there hr⟩
end Go.Proofs.YtlhlkbbjmbpgpaaDoor
/-
  Plain mathematics: a row that was made has nothing under it, and its text. Nothing of the program is run here. Conditions: none beyond the lemmas' own premises.
-/
namespace Go.Proofs.YtlhlkbbjmbpgpaaDoor

theorem place_next {rest : List RowD} {up at' : Int} (h : TreeL rest) (ha : 0 < at' → atN rest at' < rest.length ∧ rdep rest (atN rest at') = rdep rest (atN rest up) + 1) (hP : placeN rest up at' < rest.length) : rdep rest (placeN rest up at') ≤ rdep rest (atN rest up) + 1 := by
  unfold placeN at hP ⊢
  split
  · rename_i g
    rw [if_pos g] at hP
    obtain ⟨a1, a2⟩ := ha g
    obtain ⟨e1, e2, e3, e4⟩ := en_spec (D := rdep rest) a1
    have := e4 hP
    have e' : enR rest (atN rest at') = en (rdep rest) rest.length (atN rest at') := rfl
    rw [e']; omega
  · rename_i g
    rw [if_neg g] at hP
    have := rise_at h.rise (atN rest up + 1) hP
    rw [if_neg (by omega), Nat.add_sub_cancel] at this
    exact this
theorem rat_put {l : List RowD} {P : Nat} (hP : P ≤ l.length) (r : RowD) : (∀ j, j < P → rat (l.take P ++ [r] ++ l.drop P) j = rat l j) ∧ rat (l.take P ++ [r] ++ l.drop P) P = r ∧ rat (l.take P ++ [r] ++ l.drop P) (P + 1) = rat l P := by
  have hl : (l.take P).length = P := by rw [List.length_take]; omega
  refine ⟨fun j hj => ?_, ?_, ?_⟩
  · unfold rat
    rw [List.getD_eq_getElem?_getD, List.getD_eq_getElem?_getD, List.append_assoc, List.getElem?_append_left (by omega), List.getElem?_take_of_lt hj]
  · unfold rat
    rw [List.getD_eq_getElem?_getD, List.append_assoc, List.getElem?_append_right (by omega), hl, Nat.sub_self]
    rfl
  · unfold rat
    rw [List.getD_eq_getElem?_getD, List.getD_eq_getElem?_getD, List.append_assoc, List.getElem?_append_right (by omega), hl, show P + 1 - P = 1 by omega, List.singleton_append, List.getElem?_cons_succ, List.getElem?_drop, Nat.add_zero]
/-- A row that was made: its place, its text, nothing under it. -/
theorem make_leaf {rs : List RowD} {o : OpD} (ht : treeB rs = true) (hk : o.kind = 1) (hn : ¬ atN rs o.id < rs.length) : (rat (doR rs o) (atN (doR rs o) o.id)).txt = o.txt ∧ kidsL (doR rs o) o.id = [] := by
  have h : noWhereB rs o = false := by rw [noWhere1 hk]; simp [thereB, hn]
  have hL := treeL_of ht
  have hu := whereU_there h (tree_three ht)
  have ha : 0 < whereA rs o → atN rs (whereA rs o) < rs.length ∧ rdep rs (atN rs (whereA rs o)) = rdep rs (atN rs (whereU rs o)) + 1 := by
    intro g
    refine ⟨whereA_there g, ?_⟩
    obtain ⟨g1, g2, g3, g4, g5⟩ := whereA_up ht h g
    have hl := there_iff.1 g1
    have := par_dep (treeP_of ht).deps (show 1 ≤ atN rs (whereA rs o) + 1 by omega) (by omega)
    rw [g2] at this
    show dp rs (atN rs (whereA rs o) + 1) = dp rs (atN rs (whereU rs o) + 1) + 1
    omega
  have hlen := (do_made hk hn).1
  obtain ⟨p1, p2⟩ := placeN_bd hu (fun g => (ha g).1)
  have hnx := place_next hL ha
  have hx : doR rs o = rs.take (placeN rs (whereU rs o) (whereA rs o)) ++ [⟨o.id, 0 + deepI' rs [⟨o.id, 0, o.txt⟩] (whereU rs o), o.txt⟩] ++ rs.drop (placeN rs (whereU rs o) (whereA rs o)) := by
    rw [doR_put hk h]; rfl
  have hD : (0 : Int) + deepI' rs [⟨o.id, 0, o.txt⟩] (whereU rs o) = rdep rs (atN rs (whereU rs o)) + 1 := by
    simp [deepI', rdep, rat]
  rw [hD] at hx
  generalize placeN rs (whereU rs o) (whereA rs o) = P at *
  obtain ⟨r1, r2, r3⟩ := rat_put p2 (⟨o.id, rdep rs (atN rs (whereU rs o)) + 1, o.txt⟩ : RowD)
  rw [← hx] at r1 r2 r3
  have hat : atN (doR rs o) o.id = P := atN_mk (by omega) (by rw [r2]) (fun j hj => by
    rw [r1 j hj]
    intro e
    have := mem_there (rat_in (show j < rs.length by omega))
    rw [e] at this
    exact hn this)
  rw [hat]
  refine ⟨by rw [r2], ?_⟩
  unfold kidsL
  rw [hat, if_pos (by omega)]
  have he : enR (doR rs o) P = P + 1 := by
    unfold enR
    refine en_uniq (Nat.le_refl _) (by omega) (fun j a b => by omega) (fun a => ?_)
    unfold rdep
    rw [r3, r2]
    exact hnx (by omega)
  unfold kidsAt
  rw [he, Nat.sub_self]
  rfl
end Go.Proofs.YtlhlkbbjmbpgpaaDoor
/-
  Plain mathematics: rows that are put into an outline: where they stand, what stands ahead of them, and what is left when they are taken out again. Nothing of the program is run here. Conditions: none beyond the lemmas' own premises.
-/
namespace Go.Proofs.YtlhlkbbjmbpgpaaDoor

/-- What a put is, by places: rows come behind place P of an outline, under place u, shifted by D. -/
structure PutF (rest rows x : List RowD) (u P : Nat) (D : Int) : Prop where
  len : x.length = rest.length + rows.length
  lt : u < P
  le : P ≤ rest.length
  lo : ∀ j, j < P → rat x j = rat rest j
  mid : ∀ j, j < rows.length → rat x (P + j) = shiftR D (rat rows j)
  hi : ∀ j, P ≤ j → rat x (j + rows.length) = rat rest j
  n0 : 0 < rows.length
  hD : rdep rows 0 + D = rdep rest u + 1
  deep : ∀ i, 1 ≤ i → i < rows.length → rdep rows 0 < rdep rows i
  btw : ∀ j, u < j → j < P → rdep rest u < rdep rest j
  nxt : P < rest.length → rdep rest P ≤ rdep rest u + 1
  dj : ∀ i j, i < rows.length → j < rest.length → (rat rows i).id ≠ (rat rest j).id
  ndp : ∀ i j, i < j → j < rows.length → (rat rows i).id ≠ (rat rows j).id
  fr : ∀ i j, j < i → i < rest.length → (rat rest j).id ≠ (rat rest i).id

section
variable {rest rows x : List RowD} {u P : Nat} {D : Int}
theorem PutF.dlo (h : PutF rest rows x u P D) {j : Nat} (hj : j < P) : rdep x j = rdep rest j := by unfold rdep; rw [h.lo j hj]
theorem PutF.dmid (h : PutF rest rows x u P D) {j : Nat} (hj : j < rows.length) : rdep x (P + j) = rdep rows j + D := by unfold rdep; rw [h.mid j hj]; rfl
theorem PutF.dhi (h : PutF rest rows x u P D) {j : Nat} (hj : P ≤ j) : rdep x (j + rows.length) = rdep rest j := by unfold rdep; rw [h.hi j hj]
theorem PutF.d0 (h : PutF rest rows x u P D) : rdep x P = rdep rest u + 1 := by
  have := h.dmid h.n0
  rw [Nat.add_zero] at this
  rw [this, h.hD]
theorem PutF.dge (h : PutF rest rows x u P D) {j : Nat} (hj : j < rows.length) : rdep rest u + 1 ≤ rdep x (P + j) := by
  rw [h.dmid hj]
  have := h.hD
  by_cases e : j = 0
  · subst e; omega
  · have := h.deep j (by omega) hj; omega
theorem PutF.enP (h : PutF rest rows x u P D) : enR x P = P + rows.length := by
  have hl := h.len
  have hle := h.le
  have hn := h.n0
  unfold enR
  refine en_uniq (by omega) (by omega) (fun j a b => ?_) (fun a => ?_)
  · obtain ⟨i, rfl⟩ : ∃ i, j = P + i := ⟨j - P, by omega⟩
    rw [h.d0, h.dmid (by omega)]
    have := h.deep i (by omega) (by omega)
    have := h.hD
    omega
  · rw [h.d0, h.dhi (Nat.le_refl _)]
    exact h.nxt (by omega)
theorem PutF.at_mid (h : PutF rest rows x u P D) {j : Nat} (hj : j < rows.length) : atN x (rat rows j).id = P + j := by
  have hl := h.len
  have hle := h.le
  refine atN_mk (by omega) (by rw [h.mid j hj]; rfl) (fun i hi => ?_)
  by_cases e : i < P
  · rw [h.lo i e]; exact (h.dj j i hj (by omega)).symm
  · obtain ⟨q, rfl⟩ : ∃ q, i = P + q := ⟨i - P, by omega⟩
    rw [h.mid q (by omega)]
    exact h.ndp q j (by omega) hj
theorem PutF.at_rest (h : PutF rest rows x u P D) {i : Nat} (hi : i < rest.length) : atN x (rat rest i).id = if i < P then i else i + rows.length := by
  have hl := h.len
  have hle := h.le
  split
  · rename_i e
    exact atN_mk (by omega) (by rw [h.lo i e]) (fun j hj => by rw [h.lo j (by omega)]; exact h.fr i j hj hi)
  · rename_i e
    refine atN_mk (by omega) (by rw [h.hi i (by omega)]) (fun j hj => ?_)
    by_cases e1 : j < P
    · rw [h.lo j e1]; exact h.fr i j (by omega) hi
    · by_cases e2 : j < P + rows.length
      · obtain ⟨q, rfl⟩ : ∃ q, j = P + q := ⟨j - P, by omega⟩
        rw [h.mid q (by omega)]
        exact h.dj q i (by omega) hi
      · obtain ⟨q, rfl⟩ : ∃ q, j = q + rows.length := ⟨j - rows.length, by omega⟩
        rw [h.hi q (by omega)]
        exact h.fr i q (by omega) hi
theorem PutF.up_head (h : PutF rest rows x u P D) : upAt x P = (rat rest u).id := by
  unfold upAt
  rw [lstBelow_mk _ P u h.lt (by simp only [decide_eq_true_eq]; rw [h.d0, h.dlo h.lt]; omega) (fun j a b => by
    simp only [decide_eq_false_iff_not, Int.not_lt]; rw [h.d0, h.dlo b]; have := h.btw j a b; omega)]
  simp only [h.lo u h.lt]
theorem PutF.ah_first (h : PutF rest rows x u P D) (e : P = u + 1) : ahAt x P = 0 := by
  unfold ahAt
  rw [lstBelow_mk _ P u h.lt (by simp only [decide_eq_true_eq]; rw [h.d0, h.dlo h.lt]; omega) (fun j a b => by omega)]
  simp only [h.d0, h.dlo h.lt]
  rw [if_neg (by omega)]
theorem PutF.ah_next (h : PutF rest rows x u P D) {a : Nat} (h2 : a < P) (h3 : rdep rest a = rdep rest u + 1) (h4 : ∀ j, a < j → j < P → rdep rest a < rdep rest j) : ahAt x P = (rat rest a).id := by
  unfold ahAt
  rw [lstBelow_mk _ P a h2 (by simp only [decide_eq_true_eq]; rw [h.d0, h.dlo h2]; omega) (fun j c b => by
    simp only [decide_eq_false_iff_not, Int.not_le]; rw [h.d0, h.dlo b]; have := h4 j c b; omega)]
  simp only [h.d0, h.dlo h2]
  rw [if_pos h3, h.lo a h2]
/-- Who was there stands under the same as before. -/
theorem PutF.up_rest (h : PutF rest rows x u P D) {i : Nat} (hi : i < rest.length) : upAt x (if i < P then i else i + rows.length) = upAt rest i := by
  have hn := h.n0
  split
  · rename_i e
    unfold upAt
    rw [lstBelow_congr (fun j => decide (rdep x j < rdep x i)) (fun j => decide (rdep rest j < rdep rest i)) i (fun j hj => by simp only [h.dlo e, h.dlo (show j < P by omega)])]
    cases q : lstBelow (fun j => decide (rdep rest j < rdep rest i)) i with
    | none => rfl
    | some j => have := (lstBelow_some _ _ _ q).1; simp only [h.lo j (by omega)]
  · rename_i e
    have hlt := h.lt
    unfold upAt
    rw [h.dhi (show P ≤ i by omega)]
    cases q : lstBelow (fun j => decide (rdep rest j < rdep rest i)) i with
    | none =>
      have n := lstBelow_none _ _ q
      have nu := n u (by omega)
      simp only [decide_eq_false_iff_not, Int.not_lt] at nu
      rw [lstBelow_mk_none _ _ (fun j hj => ?_)]
      simp only [decide_eq_false_iff_not, Int.not_lt]
      by_cases e1 : j < P
      · have := n j (by omega)
        simp only [decide_eq_false_iff_not, Int.not_lt] at this
        rw [h.dlo e1]; exact this
      · by_cases e2 : j < P + rows.length
        · obtain ⟨l, rfl⟩ : ∃ l, j = P + l := ⟨j - P, by omega⟩
          have := h.dge (show l < rows.length by omega); omega
        · obtain ⟨l, rfl⟩ : ∃ l, j = l + rows.length := ⟨j - rows.length, by omega⟩
          have := n l (by omega)
          simp only [decide_eq_false_iff_not, Int.not_lt] at this
          rw [h.dhi (by omega)]; exact this
    | some j =>
      obtain ⟨a, b, c⟩ := lstBelow_some _ _ _ q
      simp only [decide_eq_true_eq] at b
      by_cases e1 : j < P
      · rw [lstBelow_mk _ (i + rows.length) j (by omega) (by simp only [decide_eq_true_eq]; rw [h.dlo e1]; exact b) (fun l l1 l2 => ?_)]
        · simp only [h.lo j e1]
        · simp only [decide_eq_false_iff_not, Int.not_lt]
          by_cases e2 : l < P
          · have := c l l1 (by omega)
            simp only [decide_eq_false_iff_not, Int.not_lt] at this
            rw [h.dlo e2]; exact this
          · by_cases e3 : l < P + rows.length
            · obtain ⟨q, rfl⟩ : ∃ q, l = P + q := ⟨l - P, by omega⟩
              have g1 := h.dge (show q < rows.length by omega)
              have g2 := h.nxt (by omega)
              by_cases e4 : i = P
              · subst e4; omega
              · have := c P e1 (by omega)
                simp only [decide_eq_false_iff_not, Int.not_lt] at this
                omega
            · obtain ⟨q, rfl⟩ : ∃ q, l = q + rows.length := ⟨l - rows.length, by omega⟩
              have := c q (by omega) (by omega)
              simp only [decide_eq_false_iff_not, Int.not_lt] at this
              rw [h.dhi (by omega)]; exact this
      · rw [lstBelow_mk _ (i + rows.length) (j + rows.length) (by omega) (by simp only [decide_eq_true_eq]; rw [h.dhi (by omega)]; exact b) (fun l l1 l2 => ?_)]
        · simp only [h.hi j (by omega)]
        · simp only [decide_eq_false_iff_not, Int.not_lt]
          obtain ⟨q, rfl⟩ : ∃ q, l = q + rows.length := ⟨l - rows.length, by omega⟩
          have := c q (by omega) (by omega)
          simp only [decide_eq_false_iff_not, Int.not_lt] at this
          rw [h.dhi (by omega)]; exact this
/-- What stands under the rows' first one stands where it stood among them. -/
theorem PutF.up_mid (h : PutF rest rows x u P D) {j : Nat} (h1 : 1 ≤ j) (hj : j < rows.length) : upAt x (P + j) = upAt rows j := by
  unfold upAt
  cases q : lstBelow (fun l => decide (rdep rows l < rdep rows j)) j with
  | none =>
    have := lstBelow_none _ _ q 0 (by omega)
    simp only [decide_eq_false_iff_not, Int.not_lt] at this
    have := h.deep j h1 hj
    omega
  | some l =>
    obtain ⟨a, b, c⟩ := lstBelow_some _ _ _ q
    simp only [decide_eq_true_eq] at b
    rw [lstBelow_mk _ (P + j) (P + l) (by omega) (by simp only [decide_eq_true_eq]; rw [h.dmid (j := l) (by omega), h.dmid hj]; omega) (fun i i1 i2 => ?_)]
    · simp only [h.mid l (by omega)]; rfl
    · obtain ⟨s, rfl⟩ : ∃ s, i = P + s := ⟨i - P, by omega⟩
      have := c s (by omega) (by omega)
      simp only [decide_eq_false_iff_not, Int.not_lt] at this ⊢
      rw [h.dmid (j := s) (by omega), h.dmid hj]; omega
theorem PutF.en_mid (h : PutF rest rows x u P D) {j : Nat} (hj : j < rows.length) : enR x (P + j) = P + enR rows j := by
  obtain ⟨e1, e2, e3, e4⟩ := en_spec (D := rdep rows) hj
  have hl := h.len
  have hle := h.le
  have e' : enR rows j = en (rdep rows) rows.length j := rfl
  unfold enR
  rw [← e'] at e1 e2 e3 e4 ⊢
  refine en_uniq (by omega) (by omega) (fun i a b => ?_) (fun a => ?_)
  · obtain ⟨s, rfl⟩ : ∃ s, i = P + s := ⟨i - P, by omega⟩
    rw [h.dmid hj, h.dmid (by omega)]
    have := e3 s (by omega) (by omega); omega
  · by_cases e : enR rows j < rows.length
    · rw [h.dmid hj, h.dmid e]
      have := e4 e; omega
    · have e5 : enR rows j = rows.length := by omega
      rw [e5, h.dhi (Nat.le_refl _)]
      have := h.nxt (by omega)
      have := h.dge hj
      omega
theorem PutF.kids_run (h : PutF rest rows x u P D) (j : Nat) (hj : j < rows.length) : ∀ k s, s + k ≤ rows.length → kidsOf x (P + j) (P + s) k = kidsOf rows j s k
  | 0, s, _ => rfl
  | k + 1, s, hs => by
    have ih := h.kids_run j hj k (s + 1) (by omega)
    rw [kidsOf, kidsOf, h.dmid hj, h.dmid (show s < rows.length by omega), h.mid s (by omega)]
    rw [show P + s + 1 = P + (s + 1) by omega, ih]
    have e : (rdep rows s + D = rdep rows j + D + 1) ↔ (rdep rows s = rdep rows j + 1) := by omega
    by_cases g : rdep rows s = rdep rows j + 1
    · rw [if_pos g, if_pos (e.2 g)]; rfl
    · rw [if_neg g, if_neg (fun q => g (e.1 q))]
theorem PutF.kids_mid (h : PutF rest rows x u P D) {j : Nat} (hj : j < rows.length) : kidsAt x (P + j) = kidsAt rows j := by
  obtain ⟨e1, e2, _, _⟩ := en_spec (D := rdep rows) hj
  have e' : enR rows j = en (rdep rows) rows.length j := rfl
  unfold kidsAt
  rw [h.en_mid hj, show P + enR rows j - (P + j + 1) = enR rows j - (j + 1) by omega, show P + j + 1 = P + (j + 1) by omega]
  exact h.kids_run j hj _ _ (by omega)
end

structure PutOk (rest rows : List RowD) (up at' : Int) : Prop where
  tree : TreeL rest
  hu : atN rest up < rest.length
  ha : 0 < at' → atN rest up < atN rest at' ∧ atN rest at' < enR rest (atN rest up) ∧ rdep rest (atN rest at') = rdep rest (atN rest up) + 1
  a0 : 0 ≤ at'
  h0 : 0 < rows.length
  deep : ∀ i, 1 ≤ i → i < rows.length → rdep rows 0 < rdep rows i
  dj : ∀ r ∈ rows, ∀ s ∈ rest, r.id ≠ s.id
  nd : (rows.map (·.id)).Nodup
theorem nodup_rat {l : List RowD} (h : (l.map (·.id)).Nodup) {i j : Nat} (hij : i < j) (hj : j < l.length) : (rat l i).id ≠ (rat l j).id := by
  rw [List.nodup_iff_pairwise_ne, List.pairwise_iff_getElem] at h
  have := h i j (by simp; omega) (by simpa using hj) hij
  simp only [List.getElem_map] at this
  rw [rat_lt (show i < l.length by omega), rat_lt hj]
  exact this
theorem putR_rat {rest rows : List RowD} {up at' : Int} (hP : placeN rest up at' ≤ rest.length) :
    (∀ j, j < placeN rest up at' → rat (putR rest rows up at') j = rat rest j) ∧ (∀ j, j < rows.length → rat (putR rest rows up at') (placeN rest up at' + j) = shiftR (deepI' rest rows up) (rat rows j)) ∧
    (∀ j, placeN rest up at' ≤ j → rat (putR rest rows up at') (j + rows.length) = rat rest j) := by
  unfold putR
  generalize placeN rest up at' = P at *
  generalize deepI' rest rows up = D
  have hl : (rest.take P).length = P := by rw [List.length_take]; omega
  refine ⟨fun j hj => ?_, fun j hj => ?_, fun j hj => ?_⟩
  · unfold rat
    rw [List.getD_eq_getElem?_getD, List.getD_eq_getElem?_getD, List.append_assoc, List.getElem?_append_left (by omega), List.getElem?_take_of_lt hj]
  · unfold rat
    rw [List.getD_eq_getElem?_getD, List.getD_eq_getElem?_getD, List.append_assoc, List.getElem?_append_right (by omega), hl, Nat.add_sub_cancel_left, List.getElem?_append_left (by simpa using hj), List.getElem?_map, List.getElem?_eq_getElem hj]
    rfl
  · unfold rat
    rw [List.getD_eq_getElem?_getD, List.getD_eq_getElem?_getD, List.getElem?_append_right (by simp; omega), List.getElem?_drop]
    congr 2
    simp only [List.length_append, hl, List.length_map]
    omega
section
variable {rest rows : List RowD} {up at' : Int}
theorem PutOk.place (h : PutOk rest rows up at') : atN rest up < placeN rest up at' ∧ placeN rest up at' ≤ rest.length ∧
    (∀ j, atN rest up < j → j < placeN rest up at' → rdep rest (atN rest up) < rdep rest j) ∧ (placeN rest up at' < rest.length → rdep rest (placeN rest up at') ≤ rdep rest (atN rest up) + 1) := by
  obtain ⟨u1, u2, u3, u4⟩ := en_spec (D := rdep rest) h.hu
  have eu : enR rest (atN rest up) = en (rdep rest) rest.length (atN rest up) := rfl
  have ha' : 0 < at' → atN rest at' < rest.length ∧ rdep rest (atN rest at') = rdep rest (atN rest up) + 1 := fun g => by
    obtain ⟨a1, a2, a3⟩ := h.ha g
    exact ⟨by omega, a3⟩
  have hb := placeN_bd h.hu (fun g => (ha' g).1)
  have hn := place_next h.tree ha'
  refine ⟨?_, hb.2, fun j j1 j2 => ?_, hn⟩
  · unfold placeN
    split
    · rename_i g
      obtain ⟨a1, a2, a3⟩ := h.ha g
      have := (en_spec (D := rdep rest) (ha' g).1).1
      have e' : enR rest (atN rest at') = en (rdep rest) rest.length (atN rest at') := rfl
      omega
    · omega
  · unfold placeN at j2
    split at j2
    · rename_i g
      obtain ⟨a1, a2, a3⟩ := h.ha g
      have := (en_spec (D := rdep rest) (ha' g).1).2.2.1
      have e' : enR rest (atN rest at') = en (rdep rest) rest.length (atN rest at') := rfl
      by_cases q : j ≤ atN rest at'
      · exact u3 j j1 (by omega)
      · have := this j (by omega) (by omega); omega
    · omega
theorem PutOk.facts (h : PutOk rest rows up at') : PutF rest rows (putR rest rows up at') (atN rest up) (placeN rest up at') (deepI' rest rows up) := by
  obtain ⟨p1, p2, p3, p4⟩ := h.place
  obtain ⟨r1, r2, r3⟩ := putR_rat (rows := rows) p2
  refine ⟨put_length _ _ _ _, p1, p2, r1, r2, r3, h.h0, by unfold deepI'; omega, h.deep, p3, p4, fun i j hi hj => h.dj _ (rat_in hi) _ (rat_in hj), fun i j hij hj => nodup_rat h.nd hij hj, fun i j hij hi => nodup_rat h.tree.nd hij hi⟩
theorem PutOk.upH (h : PutOk rest rows up at') : upAt (putR rest rows up at') (placeN rest up at') = up := by
  rw [h.facts.up_head, atN_id h.hu]
theorem PutOk.ahH (h : PutOk rest rows up at') : ahAt (putR rest rows up at') (placeN rest up at') = at' := by
  by_cases g : 0 < at'
  · obtain ⟨a1, a2, a3⟩ := h.ha g
    have hl : atN rest at' < rest.length := by
      have := (en_spec (D := rdep rest) h.hu).2.1
      have eu : enR rest (atN rest up) = en (rdep rest) rest.length (atN rest up) := rfl
      omega
    obtain ⟨e1, e2, e3, e4⟩ := en_spec (D := rdep rest) hl
    have e' : enR rest (atN rest at') = en (rdep rest) rest.length (atN rest at') := rfl
    have hp : placeN rest up at' = enR rest (atN rest at') := by unfold placeN; rw [if_pos g]
    rw [h.facts.ah_next (a := atN rest at') (by omega) a3 (fun j j1 j2 => e3 j j1 (by omega)), atN_id hl]
  · rw [h.facts.ah_first (by unfold placeN; rw [if_neg g])]
    have := h.a0; omega
theorem PutOk.rest_back (h : PutOk rest rows up at') : restR (putR rest rows up at') (placeN rest up at') = rest ∧ subR (putR rest rows up at') (placeN rest up at') = rows.map (shiftR (deepI' rest rows up)) := by
  have he := h.facts.enP
  have hp := h.facts.le
  unfold restR subR
  rw [he]
  unfold putR
  generalize placeN rest up at' = P at *
  generalize deepI' rest rows up = D at *
  have hl : (rest.take P).length = P := by rw [List.length_take]; omega
  have hm : (rows.map (shiftR D)).length = rows.length := by simp
  refine ⟨?_, ?_⟩
  · rw [List.append_assoc, List.take_left' hl, ← List.append_assoc, List.drop_left' (by rw [List.length_append, hl, hm]), List.take_append_drop]
  · rw [List.append_assoc, List.drop_left' hl, List.take_left' (by rw [hm]; omega)]
theorem PutOk.at_head (h : PutOk rest rows up at') {id : Int} (hid : (rat rows 0).id = id) : atN (putR rest rows up at') id = placeN rest up at' := by
  have := h.facts.at_mid h.h0
  rw [hid] at this
  simpa using this
end
theorem shift_shift (d e : Int) (l : List RowD) : (l.map (shiftR d)).map (shiftR e) = l.map (shiftR (d + e)) := by
  rw [List.map_map]
  congr 1
  funext r
  simp [shiftR, Int.add_assoc]
theorem put_shift (rest rows : List RowD) (up at' e : Int) (h0 : 0 < rows.length) : putR rest (rows.map (shiftR e)) up at' = putR rest rows up at' := by
  unfold putR
  have h1 : rdep (rows.map (shiftR e)) 0 = rdep rows 0 + e := by
    unfold rdep rat
    rw [List.getD_eq_getElem?_getD, List.getD_eq_getElem?_getD, List.getElem?_map, List.getElem?_eq_getElem h0]
    rfl
  rw [shift_shift]
  have h2 : e + deepI' rest (rows.map (shiftR e)) up = deepI' rest rows up := by unfold deepI'; rw [h1]; omega
  rw [h2]
end Go.Proofs.YtlhlkbbjmbpgpaaDoor
/-
  Plain mathematics: what making and moving a row do, said by what is left when the row is taken out. Nothing of the program is run here. Conditions: none beyond the lemmas' own premises.
-/
namespace Go.Proofs.YtlhlkbbjmbpgpaaDoor

theorem rest_rat {rs : List RowD} {k : Nat} (hk : k < rs.length) : (∀ j, j < k → rat (restR rs k) j = rat rs j) ∧ (∀ j, k ≤ j → rat (restR rs k) j = rat rs (j + (enR rs k - k))) := by
  obtain ⟨e1, e2, _, _⟩ := en_spec (D := rdep rs) hk
  have e' : enR rs k = en (rdep rs) rs.length k := rfl
  have hl : (rs.take k).length = k := by rw [List.length_take]; omega
  unfold restR rat
  refine ⟨fun j hj => ?_, fun j hj => ?_⟩
  · rw [List.getD_eq_getElem?_getD, List.getD_eq_getElem?_getD, List.getElem?_append_left (by omega), List.getElem?_take_of_lt hj]
  · rw [List.getD_eq_getElem?_getD, List.getD_eq_getElem?_getD, List.getElem?_append_right (by omega), List.getElem?_drop, hl]
    congr 2
    omega
theorem sub_len {rs : List RowD} {k : Nat} (hk : k < rs.length) : (subR rs k).length = enR rs k - k := by
  obtain ⟨e1, e2, _, _⟩ := en_spec (D := rdep rs) hk
  have e' : enR rs k = en (rdep rs) rs.length k := rfl
  unfold subR
  rw [List.length_take, List.length_drop]; omega
theorem sub_rat {rs : List RowD} {k : Nat} {j : Nat} (hj : j < enR rs k - k) : rat (subR rs k) j = rat rs (k + j) := rat_drop_take rs k _ j hj
/-- The row under which a row stands, by its place. -/
theorem up_spec {rs : List RowD} (ht : treeB rs = true) {k : Nat} (hk : k < rs.length) (hr : rootB (rat rs k).id = false) : ∃ u, u < k ∧ upAt rs k = (rat rs u).id ∧ rdep rs u + 1 = rdep rs k ∧ ∀ j, u < j → j < k → rdep rs k ≤ rdep rs j := by
  have hT := treeP_of ht
  have hd : 1 ≤ rdep rs k := by
    rcases rok_cases (hT.rok k hk) with ⟨g, _⟩ | ⟨_, _, g, _⟩
    · rw [g] at hr; cases hr
    · exact g
  have h0 : rdep rs 0 = 0 := (rok_root (hT.rok 0 (by omega))).2 ((rootB_iff _).2 (by have := hT.head; omega))
  have hk0 : 0 < k := by
    rcases Nat.eq_zero_or_pos k with e | e
    · subst e; omega
    · exact e
  unfold upAt
  cases e : lstBelow (fun j => decide (rdep rs j < rdep rs k)) k with
  | none =>
    have := lstBelow_none _ _ e 0 hk0
    simp only [decide_eq_false_iff_not] at this
    omega
  | some u =>
    obtain ⟨a, b, c⟩ := lstBelow_some _ _ _ e
    simp only [decide_eq_true_eq] at b
    refine ⟨u, a, rfl, ?_, fun j j1 j2 => by have := c j j1 j2; simpa using this⟩
    have hs := hT.rise (u + 1) (by omega) (by omega)
    rw [Nat.add_sub_cancel] at hs
    have hs' : rdep rs (u + 1) ≤ rdep rs u + 1 := hs
    by_cases q : u + 1 = k
    · rw [q] at hs'; omega
    · have := c (u + 1) (by omega) (by omega)
      simp only [decide_eq_false_iff_not] at this
      omega
/-- The row ahead of a row, by its place. -/
theorem ah_spec {rs : List RowD} (ht : treeB rs = true) {k u : Nat} (hk : k < rs.length) (hu : u < k) (hd : rdep rs u + 1 = rdep rs k) (hb : ∀ j, u < j → j < k → rdep rs k ≤ rdep rs j) :
    (ahAt rs k = 0 ∧ k = u + 1) ∨ ∃ a, u < a ∧ a < k ∧ rdep rs a = rdep rs k ∧ ahAt rs k = (rat rs a).id ∧ ∀ j, a < j → j < k → rdep rs k < rdep rs j := by
  have hT := treeP_of ht
  unfold ahAt
  cases e : lstBelow (fun j => decide (rdep rs j ≤ rdep rs k)) k with
  | none =>
    have := lstBelow_none _ _ e u hu
    simp only [decide_eq_false_iff_not] at this
    omega
  | some a =>
    obtain ⟨a1, a2, a3⟩ := lstBelow_some _ _ _ e
    simp only [decide_eq_true_eq] at a2
    have a3' : ∀ j, a < j → j < k → rdep rs k < rdep rs j := fun j j1 j2 => by have := a3 j j1 j2; simpa using this
    simp only
    by_cases q : rdep rs a = rdep rs k
    · rw [if_pos q]
      refine .inr ⟨a, ?_, a1, q, rfl, a3'⟩
      rcases Nat.lt_trichotomy u a with g | g | g
      · exact g
      · subst g; omega
      · have := a3' u g hu; omega
    · rw [if_neg q]
      have hau : a = u := by
        rcases Nat.lt_trichotomy u a with g | g | g
        · have := hb a g a1; omega
        · exact g.symm
        · have := a3' u g hu; omega
      subst hau
      refine .inl ⟨rfl, ?_⟩
      have hs := hT.rise (a + 1) (by omega) (by omega)
      rw [Nat.add_sub_cancel] at hs
      have hs' : rdep rs (a + 1) ≤ rdep rs a + 1 := hs
      by_cases g : a + 1 < k
      · have := a3' (a + 1) (by omega) g; omega
      · omega
structure RowsOk (rest rows : List RowD) : Prop where
  h0 : 0 < rows.length
  deep : ∀ i, 1 ≤ i → i < rows.length → rdep rows 0 < rdep rows i
  dj : ∀ r ∈ rows, ∀ s ∈ rest, r.id ≠ s.id
  nd : (rows.map (·.id)).Nodup
theorem sub_ok {rs : List RowD} (ht : treeB rs = true) {k : Nat} (hk : k < rs.length) : RowsOk (restR rs k) (subR rs k) := by
  obtain ⟨e1, e2, e3, e4⟩ := en_spec (D := rdep rs) hk
  have e' : enR rs k = en (rdep rs) rs.length k := rfl
  have hl := sub_len hk
  have hnd := (treeL_of ht).nd
  rw [parts hk] at hnd
  simp only [List.map_append, List.nodup_append, List.mem_append] at hnd
  refine ⟨by omega, fun i h1 h2 => ?_, fun r hr s hs e => ?_, hnd.2.1.1⟩
  · unfold rdep
    rw [sub_rat (by omega), sub_rat (by omega)]
    exact e3 (k + i) (by omega) (by omega)
  · have m1 : r.id ∈ (subR rs k).map (·.id) := List.mem_map.2 ⟨r, hr, rfl⟩
    rcases List.mem_append.1 hs with q | q
    · exact hnd.2.2 s.id (List.mem_map.2 ⟨s, q, rfl⟩) r.id (.inl m1) e.symm
    · exact hnd.2.1.2.2 r.id m1 s.id (List.mem_map.2 ⟨s, q, rfl⟩) e
theorem shift_zero (l : List RowD) : l.map (shiftR 0) = l := by
  have : shiftR 0 = id := by funext r; simp [shiftR]
  rw [this, List.map_id]
/-- An outline is what is left without a row, and the row put where it stands. -/
theorem tree_put {rs : List RowD} (ht : treeB rs = true) {k : Nat} (hk : k < rs.length) (hr : rootB (rat rs k).id = false) :
    PutOk (restR rs k) (subR rs k) (upAt rs k) (ahAt rs k) ∧ placeN (restR rs k) (upAt rs k) (ahAt rs k) = k ∧ putR (restR rs k) (subR rs k) (upAt rs k) (ahAt rs k) = rs := by
  have hT := treeP_of ht
  have hL := treeL_of ht
  obtain ⟨u, hu, eu, hd, hb⟩ := up_spec ht hk hr
  have hah := ah_spec ht hk hu hd hb
  obtain ⟨e1, e2, e3, e4⟩ := en_spec (D := rdep rs) hk
  have e' : enR rs k = en (rdep rs) rs.length k := rfl
  obtain ⟨r1, r2⟩ := rest_rat hk
  have hlen := (rest_len hk).1
  have hsl := sub_len hk
  have hkl : k ≤ (restR rs k).length := by omega
  have hat : ∀ j, j < k → atN (restR rs k) (rat rs j).id = j := fun j hj => atN_mk (by omega) (by rw [r1 j hj]) (fun i hi => by rw [r1 i (by omega)]; exact hT.fresh j i hi (by omega))
  have d1 : ∀ j, j < k → rdep (restR rs k) j = rdep rs j := fun j hj => by unfold rdep; rw [r1 j hj]
  have hen : u < k → ∀ a, u < a → a < k → a < enR (restR rs k) u := fun _ a a1 a2 => by
    obtain ⟨f1, f2, f3, f4⟩ := en_spec (D := rdep (restR rs k)) (m := (restR rs k).length) (i := u) (by omega)
    have f' : enR (restR rs k) u = en (rdep (restR rs k)) (restR rs k).length u := rfl
    rcases Nat.lt_or_ge a (enR (restR rs k) u) with g | g
    · exact g
    · have := f4 (by omega)
      rw [d1 u hu, d1 _ (by omega)] at this
      have := hb (en (rdep (restR rs k)) (restR rs k).length u) (by omega) (by omega)
      omega
  have hso := sub_ok ht hk
  have hsub0 : rdep (subR rs k) 0 = rdep rs k := by unfold rdep; rw [sub_rat (by omega)]; rfl
  have hplace : placeN (restR rs k) (upAt rs k) (ahAt rs k) = k := by
    unfold placeN
    rcases hah with ⟨h1, h2⟩ | ⟨a, h1, h2, h3, h4, h5⟩
    · rw [h1, if_neg (by omega), eu, hat u hu]; exact h2.symm
    · have := rok_id (hT.rok a (by omega))
      rw [h4, if_pos (by omega), hat a h2]
      unfold enR
      refine en_uniq (by omega) hkl (fun j j1 j2 => by rw [d1 a h2, d1 j j2, h3]; exact h5 j j1 j2) (fun g => ?_)
      have := e4 (by omega)
      have q : rdep (restR rs k) k = rdep rs (enR rs k) := by unfold rdep; rw [r2 k (Nat.le_refl _), show k + (enR rs k - k) = enR rs k by omega]
      rw [q, d1 a h2, h3]; exact this
  refine ⟨⟨rest_treeL hL hk hr, by rw [eu, hat u hu]; omega, fun g => ?_, ?_, hso.h0, hso.deep, hso.dj, hso.nd⟩, hplace, ?_⟩
  · rcases hah with ⟨h1, h2⟩ | ⟨a, h1, h2, h3, h4, h5⟩
    · omega
    · rw [h4, eu, hat u hu, hat a h2]
      exact ⟨h1, hen hu a h1 h2, by rw [d1 a h2, d1 u hu]; omega⟩
  · rcases hah with ⟨h1, h2⟩ | ⟨a, h1, h2, h3, h4, h5⟩
    · omega
    · have := rok_id (hT.rok a (by omega)); omega
  · unfold putR
    have hD : deepI' (restR rs k) (subR rs k) (upAt rs k) = 0 := by unfold deepI'; rw [eu, hat u hu, d1 u hu, hsub0]; omega
    rw [hD, shift_zero, hplace]
    have hl : (rs.take k).length = k := by rw [List.length_take]; omega
    conv => rhs; rw [parts hk]
    unfold restR
    rw [List.take_left' hl, List.drop_left' hl, List.append_assoc]
theorem kids_up {rs : List RowD} (ht : treeB rs = true) {up at' : Int} (hu : thereB rs up = true) : at' ∈ kidsL rs up ↔ (thereB rs at' = true ∧ upAt rs (atN rs at') = up) := by
  have hT := treeP_of ht
  have hul := there_iff.1 hu
  rw [kids_at ht hu]
  constructor
  · rintro ⟨h1, h2⟩
    refine ⟨h1, ?_⟩
    rw [← par_shift hT (there_iff.1 h1), h2]
    exact atN_id hul
  · rintro ⟨h1, h2⟩
    refine ⟨h1, ?_⟩
    have hl := there_iff.1 h1
    rw [← par_shift hT hl] at h2
    have hp := (par_spec hT.deps (i := atN rs at' + 1) (by omega) (by omega)).1
    rcases hq : par (dp rs) (atN rs at' + 1) with _ | q
    · rw [hq] at h2
      have := (there_pos ht hu).1
      have e0 : (nd rs 0).id = 0 := rfl
      rw [e0] at h2; omega
    · rw [hq] at h2 hp
      have e : (rat rs q).id = up := h2
      have := hT.at_self (show q < rs.length by omega)
      rw [e] at this; omega
theorem kid_place {rs : List RowD} (ht : treeB rs = true) {up at' : Int} (hu : thereB rs up = true) (h1 : thereB rs at' = true) (h2 : upAt rs (atN rs at') = up) : atN rs up < atN rs at' ∧ atN rs at' < enR rs (atN rs up) ∧ rdep rs (atN rs at') = rdep rs (atN rs up) + 1 := by
  have hk := (kids_up ht hu).2 ⟨h1, h2⟩
  have hul := there_iff.1 hu
  obtain ⟨e1, e2, _, _⟩ := en_spec (D := rdep rs) hul
  have e' : enR rs (atN rs up) = en (rdep rs) rs.length (atN rs up) := rfl
  rw [kidsL_yes hul, kidsOf_iff] at hk
  obtain ⟨j, a, b, c, d⟩ := hk
  have := (treeP_of ht).at_self (show j < rs.length by omega)
  rw [d] at this
  rw [this]
  exact ⟨by omega, by omega, c⟩
def goU (rest : List RowD) (o : OpD) : Int := if thereB rest o.up then o.up else 3
def goA (rest : List RowD) (o : OpD) : Int := if thereB rest o.up && (thereB rest o.at_ && (upAt rest (atN rest o.at_) == o.up)) then o.at_ else 0
def goNo (rows : List RowD) (o : OpD) : Bool := rows.any (fun r => r.id == o.up)
theorem goNo_iff {rows : List RowD} {o : OpD} : goNo rows o = true ↔ ∃ j, j < rows.length ∧ (rat rows j).id = o.up := by
  unfold goNo
  rw [List.any_eq_true]
  constructor
  · rintro ⟨r, hr, e⟩
    obtain ⟨j, hj, q⟩ := mem_rat hr
    exact ⟨j, hj, by rw [q]; simpa using e⟩
  · rintro ⟨j, hj, e⟩
    exact ⟨_, rat_in hj, by simpa using e⟩
theorem goNo_shift (d : Int) (rows : List RowD) (o : OpD) : goNo (rows.map (shiftR d)) o = goNo rows o := by
  unfold goNo
  rw [List.any_map]
  rfl
theorem goU_there {rest : List RowD} {o : OpD} (hR : treeB rest = true) : thereB rest (goU rest o) = true := by
  unfold goU; split
  · assumption
  · exact tree_three hR
theorem goA_pos {rest : List RowD} {o : OpD} (h : 0 < goA rest o) : goU rest o = o.up ∧ goA rest o = o.at_ ∧ thereB rest o.up = true ∧ thereB rest o.at_ = true ∧ upAt rest (atN rest o.at_) = o.up := by
  unfold goA at h ⊢
  split at h
  · rename_i g
    rw [if_pos g]
    simp only [Bool.and_eq_true, beq_iff_eq] at g
    exact ⟨by unfold goU; rw [if_pos g.1], rfl, g.1, g.2.1, g.2.2⟩
  · omega
theorem go_put {rest rows : List RowD} (o : OpD) (hR : treeB rest = true) (h : RowsOk rest rows) : PutOk rest rows (goU rest o) (goA rest o) := by
  refine ⟨treeL_of hR, there_iff.1 (goU_there hR), fun g => ?_, ?_, h.h0, h.deep, h.dj, h.nd⟩
  · obtain ⟨g1, g2, g3, g4, g5⟩ := goA_pos g
    rw [g1, g2]
    exact kid_place hR g3 g4 g5
  · unfold goA
    split
    · rename_i g
      simp only [Bool.and_eq_true] at g
      have := (there_pos hR g.2.1).1; omega
    · omega
theorem atOf_eq {ks : List Int} {o : OpD} : atOfL ks o = if o.at_ ∈ ks ∧ o.at_ ≠ o.id then o.at_ else 0 := by
  have hany : (ks.any (fun x => (x == o.at_) && (o.at_ != o.id))) = true ↔ (o.at_ ∈ ks ∧ o.at_ ≠ o.id) := by
    simp only [List.any_eq_true, Bool.and_eq_true, beq_iff_eq, bne_iff_ne, ne_eq]
    constructor
    · rintro ⟨x, h1, rfl, h2⟩; exact ⟨h1, h2⟩
    · rintro ⟨h1, h2⟩; exact ⟨_, h1, rfl, h2⟩
  unfold atOfL
  by_cases h : o.at_ ∈ ks ∧ o.at_ ≠ o.id
  · rw [if_pos h, if_pos (hany.2 h)]
  · rw [if_neg h, if_neg (fun g => h (hany.1 g))]
theorem where_make {rs : List RowD} {o : OpD} (ht : treeB rs = true) (hk : o.kind = 1) (hn : thereB rs o.id = false) : whereU rs o = goU rs o ∧ whereA rs o = goA rs o := by
  have h : noWhereB rs o = false := by rw [noWhere1 hk]; exact hn
  refine ⟨by simp [whereU, goU, h], ?_⟩
  unfold whereA goA
  rw [h]
  simp only [Bool.false_eq_true, if_false]
  cases hu : thereB rs o.up
  · simp
  · rw [if_pos rfl, atOf_eq]
    have hku := kids_up (at' := o.at_) ht hu
    by_cases g : thereB rs o.at_ = true ∧ upAt rs (atN rs o.at_) = o.up
    · rw [if_pos ⟨hku.2 g, fun e => by rw [e, hn] at g; cases g.1⟩, if_pos (by simp [g.1, g.2])]
    · rw [if_neg (fun q => g (hku.1 q.1)), if_neg (fun q => g (by simpa using q))]
theorem PutF.there {rest rows x : List RowD} {u P : Nat} {D : Int} (h : PutF rest rows x u P D) {c : Int} : thereB x c = true ↔ (thereB rest c = true ∨ ∃ j, j < rows.length ∧ (rat rows j).id = c) := by
  have hl := h.len
  have hle := h.le
  constructor
  · intro g
    have hc := there_iff.1 g
    have e := atN_id hc
    by_cases q1 : atN x c < P
    · rw [h.lo _ q1] at e
      exact .inl (there_iff.2 (by rw [← e]; exact mem_there (rat_in (show atN x c < rest.length by omega))))
    · by_cases q2 : atN x c < P + rows.length
      · have := h.mid (atN x c - P) (by omega)
        rw [show P + (atN x c - P) = atN x c by omega] at this
        rw [this] at e
        exact .inr ⟨_, by omega, e⟩
      · have := h.hi (atN x c - rows.length) (by omega)
        rw [show atN x c - rows.length + rows.length = atN x c by omega] at this
        rw [this] at e
        exact .inl (there_iff.2 (by rw [← e]; exact mem_there (rat_in (show atN x c - rows.length < rest.length by omega))))
  · rintro (g | ⟨j, hj, e⟩)
    · have hc := there_iff.1 g
      have := h.at_rest hc
      rw [atN_id hc] at this
      refine there_iff.2 ?_
      rw [this]; split <;> omega
    · have := h.at_mid hj
      rw [e] at this
      exact there_iff.2 (by omega)
theorem PutF.up_in {rest rows x : List RowD} {u P : Nat} {D : Int} (h : PutF rest rows x u P D) {j : Nat} (h1 : 1 ≤ j) (hj : j < rows.length) : ∃ l, l < rows.length ∧ upAt x (P + j) = (rat rows l).id := by
  rw [h.up_mid h1 hj]
  unfold upAt
  cases q : lstBelow (fun l => decide (rdep rows l < rdep rows j)) j with
  | none =>
    have := lstBelow_none _ _ q 0 (by omega)
    simp only [decide_eq_false_iff_not, Int.not_lt] at this
    have := h.deep j h1 hj
    omega
  | some l => exact ⟨l, by have := (lstBelow_some _ _ _ q).1; omega, rfl⟩
/-- A row of the rest stands under the same in the whole. -/
theorem PutF.up_at {rest rows x : List RowD} {u P : Nat} {D : Int} (h : PutF rest rows x u P D) {c : Int} (hc : thereB rest c = true) : upAt x (atN x c) = upAt rest (atN rest c) := by
  have hl := there_iff.1 hc
  have := h.at_rest hl
  rw [atN_id hl] at this
  rw [this, h.up_rest hl]
theorem made_root {id : Int} (h : madeB id = true) : rootB id = false := by
  rw [Bool.eq_false_iff]; intro g; have := (rootB_iff _).1 g; have := (madeB_iff _).1 h; omega
/-- An outline as a put of the row k in what is left without it. -/
theorem tree_putF {rs : List RowD} (ht : treeB rs = true) {k : Nat} (hk : k < rs.length) (hr : rootB (rat rs k).id = false) : ∃ u D, PutF (restR rs k) (subR rs k) rs u k D := by
  obtain ⟨h1, h2, h3⟩ := tree_put ht hk hr
  have := h1.facts
  rw [h2, h3] at this
  exact ⟨_, _, this⟩
theorem where_move {rs : List RowD} {o : OpD} (ht : treeB rs = true) (hk : o.kind = 3) (hm : madeB o.id = true) (hid : thereB rs o.id = true) :
    noWhereB rs o = goNo (subR rs (atN rs o.id)) o ∧ (goNo (subR rs (atN rs o.id)) o = false → whereU rs o = goU (restR rs (atN rs o.id)) o ∧ whereA rs o = goA (restR rs (atN rs o.id)) o) := by
  have hil := there_iff.1 hid
  have hrt : rootB (rat rs (atN rs o.id)).id = false := by rw [atN_id hil]; exact made_root hm
  obtain ⟨u, D, F⟩ := tree_putF ht hil hrt
  have hen := F.enP
  have hsl := F.n0
  have h0 : (rat (subR rs (atN rs o.id)) 0).id = o.id := by
    rw [sub_rat (by omega), Nat.add_zero, atN_id hil]
  have hno : noWhereB rs o = goNo (subR rs (atN rs o.id)) o := by
    rw [noWhere3 hk, hid]
    simp only [Bool.not_true, Bool.false_or]
    rw [Bool.eq_iff_iff, goNo_iff]
    unfold undB
    simp only [Bool.and_eq_true, decide_eq_true_eq]
    constructor
    · rintro ⟨⟨⟨a, b⟩, c⟩, d⟩
      refine ⟨atN rs o.up - atN rs o.id, by omega, ?_⟩
      have := F.mid (atN rs o.up - atN rs o.id) (by omega)
      rw [show atN rs o.id + (atN rs o.up - atN rs o.id) = atN rs o.up by omega] at this
      have e := atN_id a
      rw [this] at e
      exact e
    · rintro ⟨j, hj, e⟩
      have := F.at_mid hj
      rw [e] at this
      have hle := F.len
      have := F.le
      exact ⟨⟨⟨by omega, hil⟩, by omega⟩, by omega⟩
  refine ⟨hno, fun hg => ?_⟩
  have hn : noWhereB rs o = false := by rw [hno]; exact hg
  have hup : thereB rs o.up = thereB (restR rs (atN rs o.id)) o.up := by
    rw [Bool.eq_iff_iff, F.there]
    constructor
    · rintro (g | g)
      · exact g
      · rw [goNo_iff.2 g] at hg; cases hg
    · exact .inl
  refine ⟨by simp [whereU, goU, hn, hup], ?_⟩
  unfold whereA goA
  rw [hn]
  simp only [Bool.false_eq_true, if_false]
  rw [← hup]
  cases hu : thereB rs o.up
  · simp
  · rw [if_pos rfl, atOf_eq]
    have hku := kids_up (at' := o.at_) ht hu
    have key : ((thereB rs o.at_ = true ∧ upAt rs (atN rs o.at_) = o.up) ∧ o.at_ ≠ o.id) ↔ (thereB (restR rs (atN rs o.id)) o.at_ = true ∧ upAt (restR rs (atN rs o.id)) (atN (restR rs (atN rs o.id)) o.at_) = o.up) := by
      constructor
      · rintro ⟨⟨a, b⟩, c⟩
        rcases F.there.1 a with g | ⟨j, hj, e⟩
        · exact ⟨g, by rw [← F.up_at g]; exact b⟩
        · exfalso
          have hj0 : j ≠ 0 := fun q => by subst q; exact c (by rw [← e, h0])
          obtain ⟨l, hl, q⟩ := F.up_in (show 1 ≤ j by omega) hj
          have hat := F.at_mid hj
          rw [e] at hat
          rw [hat, q] at b
          rw [goNo_iff.2 ⟨l, hl, b⟩] at hg; cases hg
      · rintro ⟨a, b⟩
        refine ⟨⟨F.there.2 (.inl a), by rw [F.up_at a]; exact b⟩, fun e => ?_⟩
        have hl := there_iff.1 a
        have := F.dj 0 _ F.n0 hl
        rw [h0, atN_id hl] at this
        exact this e.symm
    by_cases g : thereB (restR rs (atN rs o.id)) o.at_ = true ∧ upAt (restR rs (atN rs o.id)) (atN (restR rs (atN rs o.id)) o.at_) = o.up
    · rw [if_pos ⟨hku.2 (key.2 g).1, (key.2 g).2⟩, if_pos (by simp [g.1, g.2])]
    · rw [if_neg (fun q => g (key.1 ⟨hku.1 q.1, q.2⟩)), if_neg (fun q => g (by simpa using q))]
/-! ### making and moving -/
theorem do_make {rs : List RowD} {o : OpD} (ht : treeB rs = true) (hk : o.kind = 1) (hn : thereB rs o.id = false) : doR rs o = putR rs [⟨o.id, 0, o.txt⟩] (goU rs o) (goA rs o) ∧ RowsOk rs [⟨o.id, 0, o.txt⟩] := by
  have h : noWhereB rs o = false := by rw [noWhere1 hk]; exact hn
  obtain ⟨h1, h2⟩ := where_make ht hk hn
  refine ⟨by rw [doR_put hk h, h1, h2], by simp, fun i a b => by simp at b; omega, fun r hr s hs e => ?_, by simp⟩
  simp only [List.mem_singleton] at hr
  subst hr
  have := mem_there hs
  rw [← e] at this
  simp only [thereB, decide_eq_false_iff_not] at hn
  exact hn this
theorem do_move {rs : List RowD} {o : OpD} (ht : treeB rs = true) (hk : o.kind = 3) (hm : madeB o.id = true) (hid : thereB rs o.id = true) :
    doR rs o = if goNo (subR rs (atN rs o.id)) o then rs else putR (restR rs (atN rs o.id)) (subR rs (atN rs o.id)) (goU (restR rs (atN rs o.id)) o) (goA (restR rs (atN rs o.id)) o) := by
  obtain ⟨h1, h2⟩ := where_move ht hk hm hid
  cases hg : goNo (subR rs (atN rs o.id)) o
  · rw [doR_move hk (by rw [h1]; exact hg), (h2 hg).1, (h2 hg).2]; simp
  · have hn : noWhereB rs o = true := by rw [h1]; exact hg
    simp [doR, hk, hn]
theorem do_move_no {rs : List RowD} {o : OpD} (hk : o.kind = 3) (hid : thereB rs o.id = false) : doR rs o = rs := by
  have hn : noWhereB rs o = true := by rw [noWhere3 hk, hid]; rfl
  simp [doR, hk, hn]
theorem rest_tree {rs : List RowD} (ht : treeB rs = true) {id : Int} (hm : madeB id = true) (hid : thereB rs id = true) : treeB (restR rs (atN rs id)) = true := by
  have hil := there_iff.1 hid
  exact tree_of (rest_treeL (treeL_of ht) hil (by rw [atN_id hil]; exact made_root hm))
theorem sub_head {rs : List RowD} {id : Int} (hid : thereB rs id = true) : (rat (subR rs (atN rs id)) 0).id = id := by
  have hil := there_iff.1 hid
  have := sub_len hil
  have h2 := (rest_len hil).2
  rw [sub_rat (by omega), Nat.add_zero, atN_id hil]
/-- A row that was put somewhere is moved: the same as if it were put there. -/
theorem move_put {rest rows : List RowD} {up at' : Int} {p : OpD} (h : PutOk rest rows up at') (hx : treeB (putR rest rows up at') = true) (hk : p.kind = 3) (hm : madeB p.id = true) (hid : (rat rows 0).id = p.id) :
    doR (putR rest rows up at') p = if goNo rows p then putR rest rows up at' else putR rest rows (goU rest p) (goA rest p) := by
  have hat := h.at_head hid
  have hth : thereB (putR rest rows up at') p.id = true := h.facts.there.2 (.inr ⟨0, h.h0, hid⟩)
  rw [do_move hx hk hm hth, hat, h.rest_back.1, h.rest_back.2, goNo_shift, put_shift _ _ _ _ _ h.h0]
/-- The same done twice is done once. -/
theorem do_twice {rs : List RowD} {o : OpD} (ht : treeB rs = true) (hok : opokB o = true) : doR (doR rs o) o = doR rs o := by
  have hx := do_tree ht hok
  have hm := opok_made hok
  rcases opok_kind hok with k | k | k
  · cases hn : thereB rs o.id
    · have h1 := do_made (rs := rs) k (fun g => by rw [there_iff.2 g] at hn; cases hn)
      exact doR_no k (by rw [noWhere1 k]; exact there_iff.2 h1.2)
    · have e : doR rs o = rs := doR_no k (by rw [noWhere1 k]; exact hn)
      rw [e, e]
  · have e : ∀ l, doR l o = if thereB l o.id then setTxt l (atN l o.id) o.txt else l := fun l => by simp [doR, k]
    cases hn : thereB rs o.id
    · have e1 : doR rs o = rs := by rw [e, hn]; rfl
      rw [e1, e1]
    · have e1 : doR rs o = setTxt rs (atN rs o.id) o.txt := by rw [e, hn]; rfl
      have hil := there_iff.1 hn
      have hlen : (setTxt rs (atN rs o.id) o.txt).length = rs.length := by simp [setTxt]
      have hat : atN (setTxt rs (atN rs o.id) o.txt) o.id = atN rs o.id := by
        refine atN_mk (by omega) ?_ (fun j hj => ?_)
        · rw [rat_setTxt hil, if_pos rfl]; exact atN_id hil
        · rw [rat_setTxt (by omega), if_neg (by omega)]; exact atN_not hj
      rw [e1, e, there_iff.2 (by rw [hat, hlen]; exact hil), hat]
      simp only [if_true]
      unfold setTxt
      apply List.ext_getElem
      · simp
      · intro i h1 h2
        simp only [List.getElem_modify]
        split <;> rfl
  · cases hn : thereB rs o.id
    · rw [do_move_no k hn, do_move_no k hn]
    · have e := do_move ht k hm hn
      cases hg : goNo (subR rs (atN rs o.id)) o
      · rw [hg] at e
        simp only [Bool.false_eq_true, if_false] at e
        rw [e] at hx ⊢
        rw [move_put (go_put o (rest_tree ht hm hn) (sub_ok ht (there_iff.1 hn))) hx k hm (sub_head hn), hg]
        rfl
      · rw [hg] at e
        simp only [if_true] at e
        rw [e, e]
/-- The last one to move a row counts. -/
theorem move_two {rs : List RowD} {o p : OpD} (ht : treeB rs = true) (hok : opokB o = true) (hk : o.kind = 3) (hp : p.kind = 3) (hid : p.id = o.id) (hup : rootB p.up = true) : doR (doR rs o) p = doR rs p := by
  have hx := do_tree ht hok
  have hm := opok_made hok
  cases hn : thereB rs o.id
  · rw [do_move_no hk hn]
  · have hil := there_iff.1 hn
    have e := do_move ht hk hm hn
    have e2 := do_move (o := p) ht hp (by rw [hid]; exact hm) (by rw [hid]; exact hn)
    rw [hid] at e2
    have hgp : goNo (subR rs (atN rs o.id)) p = false := by
      rw [Bool.eq_false_iff]
      intro g
      obtain ⟨j, hj, q⟩ := goNo_iff.1 g
      obtain ⟨i, _, _, q2, hd⟩ := sub_mem hil (rat_in hj)
      have hL := treeL_of ht
      have hd1 : 1 ≤ rdep rs (atN rs o.id) := by
        rcases hL.rk _ (rat_in hil) with g | g
        · rw [atN_id hil, made_root hm] at g; cases g.1
        · exact g.2.2.1
      rcases hL.rk _ (mem_sub (rat_in hj)) with g | g
      · have := g.2.1; omega
      · rw [q, hup] at g; cases g.1
    rw [hgp] at e2
    simp only [Bool.false_eq_true, if_false] at e2
    cases hg : goNo (subR rs (atN rs o.id)) o
    · rw [hg] at e
      simp only [Bool.false_eq_true, if_false] at e
      rw [e] at hx ⊢
      rw [move_put (go_put o (rest_tree ht hm hn) (sub_ok ht hil)) hx hp (by rw [hid]; exact hm) (by rw [hid]; exact sub_head hn), hgp, e2]
      rfl
    · rw [hg] at e
      simp only [if_true] at e
      rw [e]
/-- Made, and moved, is made there. -/
theorem make_move {rs : List RowD} {o p q : OpD} (ht : treeB rs = true) (hok : opokB o = true) (hk : o.kind = 1) (hn : thereB rs o.id = false) (hp : p.kind = 3) (hid : p.id = o.id) (hup : thereB rs p.up = true) (hq : q.kind = 1) (hqi : q.id = o.id) (hqt : q.txt = o.txt) (hqu : q.up = p.up) (hqa : q.at_ = p.at_) : doR (doR rs o) p = doR rs q := by
  have hx := do_tree ht hok
  have hm := opok_made hok
  obtain ⟨e1, r1⟩ := do_make ht hk hn
  obtain ⟨e2, r2⟩ := do_make (o := q) ht hq (by rw [hqi]; exact hn)
  rw [e1] at hx ⊢
  have hg : goNo [(⟨o.id, 0, o.txt⟩ : RowD)] p = false := by
    unfold goNo
    simp only [List.any_cons, List.any_nil, Bool.or_false, beq_eq_false_iff_ne, ne_eq]
    intro g
    rw [← g, hn] at hup; cases hup
  rw [move_put (go_put o ht r1) hx hp (by rw [hid]; exact hm) (by rw [hid]; rfl), hg, e2]
  have u1 : goU rs q = goU rs p := by unfold goU; rw [hqu]
  have u2 : goA rs q = goA rs p := by unfold goA; rw [hqu, hqa]
  rw [hqi, hqt, u1, u2]
  rfl
/-- A row is put where a change says. -/
theorem do_where {rs : List RowD} {o : OpD} (ht : treeB rs = true) (hok : opokB o = true) (hn : noWhereB rs o = false) : thereB (doR rs o) o.id = true ∧ upAt (doR rs o) (atN (doR rs o) o.id) = whereU rs o ∧ ahAt (doR rs o) (atN (doR rs o) o.id) = whereA rs o := by
  have hm := opok_made hok
  rcases opok_kind hok with k | k | k
  · have hnt : thereB rs o.id = false := by rw [← noWhere1 (rs := rs) k]; exact hn
    obtain ⟨h1, h2⟩ := where_make ht k hnt
    obtain ⟨e1, r1⟩ := do_make ht k hnt
    have hP := go_put o ht r1
    rw [e1, h1, h2, hP.at_head (id := o.id) rfl, hP.upH, hP.ahH]
    exact ⟨hP.facts.there.2 (.inr ⟨0, by simp, rfl⟩), rfl, rfl⟩
  · rw [noWhere2 k] at hn; cases hn
  · have hid : thereB rs o.id = true := by
      have hno := noWhere3 (rs := rs) k
      rw [hn] at hno
      cases h : thereB rs o.id <;> simp [h] at hno ⊢
    obtain ⟨h1, h2⟩ := where_move ht k hm hid
    have hg : goNo (subR rs (atN rs o.id)) o = false := by rw [← h1]; exact hn
    have e := do_move ht k hm hid
    rw [hg] at e
    simp only [Bool.false_eq_true, if_false] at e
    have hP := go_put o (rest_tree ht hm hid) (sub_ok ht (there_iff.1 hid))
    rw [e, (h2 hg).1, (h2 hg).2, hP.at_head (sub_head hid), hP.upH, hP.ahH]
    exact ⟨hP.facts.there.2 (.inr ⟨0, hP.h0, sub_head hid⟩), rfl, rfl⟩
/-- Moved back to where it stood, a row is where it was. -/
theorem move_back {rs : List RowD} {o b : OpD} (ht : treeB rs = true) (hok : opokB o = true) (hk : o.kind = 3) (hid : thereB rs o.id = true) (hb : b.kind = 3) (hbi : b.id = o.id) (hbu : b.up = upAt rs (atN rs o.id)) (hba : b.at_ = ahAt rs (atN rs o.id)) : doR (doR rs o) b = rs := by
  have hx := do_tree ht hok
  have hm := opok_made hok
  have hil := there_iff.1 hid
  obtain ⟨p1, p2, p3⟩ := tree_put ht hil (by rw [atN_id hil]; exact made_root hm)
  have hR := rest_tree ht hm hid
  have hgb : goNo (subR rs (atN rs o.id)) b = false := by
    rw [Bool.eq_false_iff]
    intro g
    obtain ⟨j, hj, q⟩ := goNo_iff.1 g
    have h1 := p1.hu
    have := p1.dj _ (rat_in hj) _ (rat_in h1)
    rw [q, atN_id h1, hbu] at this
    exact this rfl
  have hu : goU (restR rs (atN rs o.id)) b = upAt rs (atN rs o.id) := by
    unfold goU
    rw [hbu, there_iff.2 p1.hu, if_pos rfl]
  have hup1 : upAt (restR rs (atN rs o.id)) (atN (restR rs (atN rs o.id)) (ahAt rs (atN rs o.id))) = upAt rs (atN rs o.id) ∨ ahAt rs (atN rs o.id) = 0 := by
    by_cases g : 0 < ahAt rs (atN rs o.id)
    · left
      obtain ⟨a1, a2, a3⟩ := p1.ha g
      have hen := (en_spec (D := rdep (restR rs (atN rs o.id))) p1.hu).2.1
      have e' : enR (restR rs (atN rs o.id)) (atN (restR rs (atN rs o.id)) (upAt rs (atN rs o.id))) = en (rdep (restR rs (atN rs o.id))) (restR rs (atN rs o.id)).length (atN (restR rs (atN rs o.id)) (upAt rs (atN rs o.id))) := rfl
      have hal : atN (restR rs (atN rs o.id)) (ahAt rs (atN rs o.id)) < (restR rs (atN rs o.id)).length := by omega
      refine ((kids_up hR (there_iff.2 p1.hu)).1 ?_).2
      rw [kidsL_yes p1.hu, kidsOf_iff]
      exact ⟨_, by omega, by omega, a3, atN_id hal⟩
    · right
      have := p1.a0; omega
  have hA : goA (restR rs (atN rs o.id)) b = ahAt rs (atN rs o.id) := by
    unfold goA
    rw [hbu, hba, there_iff.2 p1.hu]
    by_cases g : 0 < ahAt rs (atN rs o.id)
    · obtain ⟨a1, a2, a3⟩ := p1.ha g
      have hen := (en_spec (D := rdep (restR rs (atN rs o.id))) p1.hu).2.1
      have e' : enR (restR rs (atN rs o.id)) (atN (restR rs (atN rs o.id)) (upAt rs (atN rs o.id))) = en (rdep (restR rs (atN rs o.id))) (restR rs (atN rs o.id)).length (atN (restR rs (atN rs o.id)) (upAt rs (atN rs o.id))) := rfl
      have hal : thereB (restR rs (atN rs o.id)) (ahAt rs (atN rs o.id)) = true := there_iff.2 (by omega)
      rcases hup1 with q | q
      · rw [hal, q]; simp
      · omega
    · have h0 : ahAt rs (atN rs o.id) = 0 := by have := p1.a0; omega
      rw [h0]; simp
  have e := do_move ht hk hm hid
  have fin : putR (restR rs (atN rs o.id)) (subR rs (atN rs o.id)) (goU (restR rs (atN rs o.id)) b) (goA (restR rs (atN rs o.id)) b) = rs := by rw [hu, hA, p3]
  cases hg : goNo (subR rs (atN rs o.id)) o
  · rw [hg] at e
    simp only [Bool.false_eq_true, if_false] at e
    rw [e] at hx ⊢
    rw [move_put (go_put o hR (sub_ok ht hil)) hx hb (by rw [hbi]; exact hm) (by rw [hbi]; exact sub_head hid), hgb]
    simp only [Bool.false_eq_true, if_false]
    exact fin
  · rw [hg] at e
    simp only [if_true] at e
    rw [e]
    have e2 := do_move (o := b) ht hb (by rw [hbi]; exact hm) (by rw [hbi]; exact hid)
    rw [hbi, hgb] at e2
    simp only [Bool.false_eq_true, if_false] at e2
    rw [e2]; exact fin
end Go.Proofs.YtlhlkbbjmbpgpaaDoor
/-
  Plain mathematics: texts do not matter to places, and changes of texts commute with other changes. Nothing of the program is run here. Conditions: none beyond the lemmas' own premises.
-/
namespace Go.Proofs.YtlhlkbbjmbpgpaaDoor

/-- Two lists of rows with the same numbers and depths. -/
structure Shp (l rs : List RowD) : Prop where
  len : l.length = rs.length
  ids : ∀ i, (rat l i).id = (rat rs i).id
  dep : rdep l = rdep rs
theorem Shp.at_ {l rs : List RowD} (h : Shp l rs) (c : Int) : atN l c = atN rs c := by
  unfold atN
  rw [h.len]
  congr 1
  funext i
  rw [h.ids i]
theorem Shp.there {l rs : List RowD} (h : Shp l rs) (c : Int) : thereB l c = thereB rs c := by unfold thereB; rw [h.at_, h.len]
theorem Shp.en {l rs : List RowD} (h : Shp l rs) (i : Nat) : enR l i = enR rs i := by unfold enR; rw [h.dep, h.len]
theorem Shp.kidsOf {l rs : List RowD} (h : Shp l rs) (x : Nat) : ∀ k s, kidsOf l x s k = kidsOf rs x s k
  | 0, _ => rfl
  | k + 1, s => by rw [Go.Proofs.YtlhlkbbjmbpgpaaDoor.kidsOf, Go.Proofs.YtlhlkbbjmbpgpaaDoor.kidsOf, h.kidsOf x k (s + 1), h.dep, h.ids s]
theorem Shp.kids {l rs : List RowD} (h : Shp l rs) (c : Int) : kidsL l c = kidsL rs c := by
  unfold kidsL kidsAt
  rw [h.at_, h.len, h.en, h.kidsOf]
theorem Shp.und {l rs : List RowD} (h : Shp l rs) (a b : Int) : undB l a b = undB rs a b := by unfold undB; rw [h.at_, h.at_, h.len, h.en]
theorem Shp.noWh {l rs : List RowD} (h : Shp l rs) (o : OpD) : noWhereB l o = noWhereB rs o := by unfold noWhereB; rw [h.there, h.und]
theorem Shp.whU {l rs : List RowD} (h : Shp l rs) (o : OpD) : whereU l o = whereU rs o := by unfold whereU; rw [h.noWh, h.there]
theorem Shp.whA {l rs : List RowD} (h : Shp l rs) (o : OpD) : whereA l o = whereA rs o := by unfold whereA; rw [h.noWh, h.there, h.kids]
theorem shp_text {rs : List RowD} {p : OpD} (hk : p.kind = 2) : Shp (doR rs p) rs := by
  have e : doR rs p = if thereB rs p.id then setTxt rs (atN rs p.id) p.txt else rs := by simp [doR, hk]
  rw [e]
  split
  · have hl : (setTxt rs (atN rs p.id) p.txt).length = rs.length := by simp [setTxt]
    have key : ∀ i, (rat (setTxt rs (atN rs p.id) p.txt) i).id = (rat rs i).id ∧ (rat (setTxt rs (atN rs p.id) p.txt) i).dep = (rat rs i).dep := fun i => by
      by_cases hi : i < rs.length
      · rw [rat_setTxt hi]; split <;> exact ⟨rfl, rfl⟩
      · have e1 : rat (setTxt rs (atN rs p.id) p.txt) i = rz := by unfold rat; rw [List.getD_eq_getElem?_getD, List.getElem?_eq_none (by omega)]; rfl
        have e2 : rat rs i = rz := by unfold rat; rw [List.getD_eq_getElem?_getD, List.getElem?_eq_none (by omega)]; rfl
        rw [e1, e2]; exact ⟨rfl, rfl⟩
    exact ⟨hl, fun i => (key i).1, by funext i; exact (key i).2⟩
  · exact ⟨rfl, fun _ => rfl, rfl⟩
/-! ### a text by a map -/
def txf (id : Int) (t : ByteArray) (r : RowD) : RowD := if r.id = id then ⟨r.id, r.dep, t⟩ else r
theorem txf_id (id : Int) (t : ByteArray) (r : RowD) : (txf id t r).id = r.id := by unfold txf; split <;> rfl
theorem txf_dep (id : Int) (t : ByteArray) (r : RowD) : (txf id t r).dep = r.dep := by unfold txf; split <;> rfl
theorem txf_shift (id : Int) (t : ByteArray) (d : Int) (r : RowD) : shiftR d (txf id t r) = txf id t (shiftR d r) := by
  unfold txf shiftR
  by_cases h : r.id = id <;> simp [h]
theorem rat_map' (f : RowD → RowD) {rs : List RowD} {i : Nat} (h : i < rs.length) : rat (rs.map f) i = f (rat rs i) := by
  unfold rat
  rw [List.getD_eq_getElem?_getD, List.getD_eq_getElem?_getD, List.getElem?_map, List.getElem?_eq_getElem h]
  rfl
theorem shp_map (id : Int) (t : ByteArray) (rs : List RowD) : Shp (rs.map (txf id t)) rs := by
  have key : ∀ i, (rat (rs.map (txf id t)) i).id = (rat rs i).id ∧ (rat (rs.map (txf id t)) i).dep = (rat rs i).dep := fun i => by
    by_cases hi : i < rs.length
    · rw [rat_map' _ hi]; exact ⟨txf_id _ _ _, txf_dep _ _ _⟩
    · have e1 : rat (rs.map (txf id t)) i = rz := by unfold rat; rw [List.getD_eq_getElem?_getD, List.getElem?_eq_none (by simpa using hi)]; rfl
      have e2 : rat rs i = rz := by unfold rat; rw [List.getD_eq_getElem?_getD, List.getElem?_eq_none (by omega)]; rfl
      rw [e1, e2]; exact ⟨rfl, rfl⟩
  exact ⟨by simp, fun i => (key i).1, by funext i; exact (key i).2⟩
theorem text_map {rs : List RowD} {p : OpD} (ht : treeB rs = true) (hk : p.kind = 2) : doR rs p = rs.map (txf p.id p.txt) := by
  have hT := treeP_of ht
  have e : doR rs p = if thereB rs p.id then setTxt rs (atN rs p.id) p.txt else rs := by simp [doR, hk]
  rw [e]
  cases hth : thereB rs p.id
  · simp only [Bool.false_eq_true, if_false]
    apply List.ext_getElem
    · simp
    · intro i h1 h2
      have hi : i < rs.length := by simpa using h2
      rw [List.getElem_map]
      unfold txf
      rw [if_neg]
      intro q
      have := mem_there (List.getElem_mem hi)
      rw [q] at this
      rw [there_iff.2 this] at hth; cases hth
  · simp only [if_true]
    have hl := there_iff.1 hth
    unfold setTxt
    apply List.ext_getElem
    · simp
    · intro i h1 h2
      have hi : i < rs.length := by simpa using h2
      have hr : rat rs i = rs[i] := rat_lt hi
      rw [List.getElem_map]
      rw [List.getElem_modify]
      unfold txf
      by_cases q : atN rs p.id = i
      · rw [if_pos q, if_pos]
        rw [← hr, ← q]; exact atN_id hl
      · rw [if_neg q, if_neg]
        intro g
        rw [← hr] at g
        have := hT.at_self hi
        rw [g] at this; exact q this
theorem put_map (id : Int) (t : ByteArray) (rest rows : List RowD) (up at' : Int) : putR (rest.map (txf id t)) (rows.map (txf id t)) up at' = (putR rest rows up at').map (txf id t) := by
  have h1 := shp_map id t rest
  have h2 := shp_map id t rows
  have hp : placeN (rest.map (txf id t)) up at' = placeN rest up at' := by unfold placeN; rw [h1.at_, h1.at_, h1.en]
  have hd : deepI' (rest.map (txf id t)) (rows.map (txf id t)) up = deepI' rest rows up := by unfold deepI'; rw [h1.at_, h1.dep, h2.dep]
  unfold putR
  rw [hp, hd, List.map_append, List.map_append, List.map_take, List.map_drop]
  congr 2
  rw [List.map_map, List.map_map]
  congr 1
  funext r
  exact txf_shift _ _ _ _
/-- Changes of two texts, and a change and a text of another row, do not mind each other. -/
theorem do_texts {rs : List RowD} {o p : OpD} (ht : treeB rs = true) (hok : opokB o = true) (hk : p.kind = 2) (hne : p.id ≠ o.id) : doR (doR rs o) p = doR (doR rs p) o := by
  have hx := do_tree ht hok
  rw [text_map hx hk, text_map ht hk]
  have hS := shp_map p.id p.txt rs
  rcases opok_kind hok with k | k | k
  · cases hn : noWhereB rs o
    · rw [doR_put k hn, doR_put k (by rw [hS.noWh]; exact hn), hS.whU, hS.whA]
      have : [(⟨o.id, 0, o.txt⟩ : RowD)] = [(⟨o.id, 0, o.txt⟩ : RowD)].map (txf p.id p.txt) := by
        simp only [List.map_cons, List.map_nil, txf]
        rw [if_neg (fun e => hne e.symm)]
      conv => rhs; rw [this]
      rw [put_map]
    · rw [doR_no k hn, doR_no k (by rw [hS.noWh]; exact hn)]
  · have e : ∀ l, doR l o = if thereB l o.id then setTxt l (atN l o.id) o.txt else l := fun l => by simp [doR, k]
    rw [e, e, hS.there, hS.at_]
    cases hth : thereB rs o.id
    · rfl
    · simp only [if_true]
      have hl := there_iff.1 hth
      unfold setTxt
      apply List.ext_getElem
      · simp
      · intro i h1 h2
        simp only [List.getElem_map, List.getElem_modify]
        by_cases q : atN rs o.id = i
        · have hi : i < rs.length := by omega
          have hid : rs[i].id = o.id := by rw [← rat_lt hi, ← q]; exact atN_id hl
          rw [if_pos q, if_pos q]
          unfold txf
          simp only [hid]
          rw [if_neg (fun e => hne e.symm), if_neg (fun e => hne e.symm)]
          simp [hid]
        · rw [if_neg q, if_neg q]
  · cases hn : noWhereB rs o
    · rw [doR_move k hn, doR_move k (by rw [hS.noWh]; exact hn), hS.whU, hS.whA, hS.at_]
      have r1 : restR (rs.map (txf p.id p.txt)) (atN rs o.id) = (restR rs (atN rs o.id)).map (txf p.id p.txt) := by
        unfold restR; rw [hS.en, List.map_append, List.map_take, List.map_drop]
      have r2 : subR (rs.map (txf p.id p.txt)) (atN rs o.id) = (subR rs (atN rs o.id)).map (txf p.id p.txt) := by
        unfold subR; rw [hS.en, List.map_take, List.map_drop]
      rw [r1, r2, put_map]
    · have n2 : noWhereB (rs.map (txf p.id p.txt)) o = true := by rw [hS.noWh]; exact hn
      have e1 : doR rs o = rs := by simp [doR, k, hn]
      have e2 : doR (rs.map (txf p.id p.txt)) o = rs.map (txf p.id p.txt) := by simp [doR, k, n2]
      rw [e1, e2]
end Go.Proofs.YtlhlkbbjmbpgpaaDoor
