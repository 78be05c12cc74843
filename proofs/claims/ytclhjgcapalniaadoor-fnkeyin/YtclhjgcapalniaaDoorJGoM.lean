/-
  Plain mathematics: what making and moving a row do, said by what is left when the row is taken out. Nothing of the program is run here. Conditions: none beyond the lemmas' own premises.
-/
import Derived.Test.YtclhjgcapalniaaDoorJPutM
namespace Go.Proofs.YtclhjgcapalniaaDoor

theorem rest_rat {rs : List RowD} {k : Nat} (hk : k < rs.length) : (∀ j, j < k → rat (restR rs k) j = rat rs j) ∧ (∀ j, k ≤ j → rat (restR rs k) j = rat rs (j + (enR rs k - k))) := by
  obtain ⟨e1, e2, _, _⟩ := en_spec (D := rdep rs) hk
  have e' : enR rs k = en (rdep rs) rs.length k := rfl
  have hl : (rs.take k).length = k := by rw [List.length_take]; omega
  unfold restR rat
  refine ⟨fun j hj => ?_, fun j hj => ?_⟩
  · rw [List.getD_eq_getElem?_getD, List.getD_eq_getElem?_getD, List.getElem?_append_left (by omega), List.getElem?_take_of_lt hj]
  · rw [List.getD_eq_getElem?_getD, List.getD_eq_getElem?_getD, List.getElem?_append_right (by omega), List.getElem?_drop, hl]
    congr 2
    omega
theorem sub_len {rs : List RowD} {k : Nat} (hk : k < rs.length) : (subR rs k).length = enR rs k - k := by
  obtain ⟨e1, e2, _, _⟩ := en_spec (D := rdep rs) hk
  have e' : enR rs k = en (rdep rs) rs.length k := rfl
  unfold subR
  rw [List.length_take, List.length_drop]; omega
theorem sub_rat {rs : List RowD} {k : Nat} {j : Nat} (hj : j < enR rs k - k) : rat (subR rs k) j = rat rs (k + j) := rat_drop_take rs k _ j hj
/-- The row under which a row stands, by its place. -/
theorem up_spec {rs : List RowD} (ht : treeB rs = true) {k : Nat} (hk : k < rs.length) (hr : rootB (rat rs k).id = false) : ∃ u, u < k ∧ upAt rs k = (rat rs u).id ∧ rdep rs u + 1 = rdep rs k ∧ ∀ j, u < j → j < k → rdep rs k ≤ rdep rs j := by
  have hT := treeP_of ht
  have hd : 1 ≤ rdep rs k := by
    rcases rok_cases (hT.rok k hk) with ⟨g, _⟩ | ⟨_, _, g, _⟩
    · rw [g] at hr; cases hr
    · exact g
  have h0 : rdep rs 0 = 0 := (rok_root (hT.rok 0 (by omega))).2 ((rootB_iff _).2 (by have := hT.head; omega))
  have hk0 : 0 < k := by
    rcases Nat.eq_zero_or_pos k with e | e
    · subst e; omega
    · exact e
  unfold upAt
  cases e : lstBelow (fun j => decide (rdep rs j < rdep rs k)) k with
  | none =>
    have := lstBelow_none _ _ e 0 hk0
    simp only [decide_eq_false_iff_not] at this
    omega
  | some u =>
    obtain ⟨a, b, c⟩ := lstBelow_some _ _ _ e
    simp only [decide_eq_true_eq] at b
    refine ⟨u, a, rfl, ?_, fun j j1 j2 => by have := c j j1 j2; simpa using this⟩
    have hs := hT.rise (u + 1) (by omega) (by omega)
    rw [Nat.add_sub_cancel] at hs
    have hs' : rdep rs (u + 1) ≤ rdep rs u + 1 := hs
    by_cases q : u + 1 = k
    · rw [q] at hs'; omega
    · have := c (u + 1) (by omega) (by omega)
      simp only [decide_eq_false_iff_not] at this
      omega
/-- The row ahead of a row, by its place. -/
theorem ah_spec {rs : List RowD} (ht : treeB rs = true) {k u : Nat} (hk : k < rs.length) (hu : u < k) (hd : rdep rs u + 1 = rdep rs k) (hb : ∀ j, u < j → j < k → rdep rs k ≤ rdep rs j) :
    (ahAt rs k = 0 ∧ k = u + 1) ∨ ∃ a, u < a ∧ a < k ∧ rdep rs a = rdep rs k ∧ ahAt rs k = (rat rs a).id ∧ ∀ j, a < j → j < k → rdep rs k < rdep rs j := by
  have hT := treeP_of ht
  unfold ahAt
  cases e : lstBelow (fun j => decide (rdep rs j ≤ rdep rs k)) k with
  | none =>
    have := lstBelow_none _ _ e u hu
    simp only [decide_eq_false_iff_not] at this
    omega
  | some a =>
    obtain ⟨a1, a2, a3⟩ := lstBelow_some _ _ _ e
    simp only [decide_eq_true_eq] at a2
    have a3' : ∀ j, a < j → j < k → rdep rs k < rdep rs j := fun j j1 j2 => by have := a3 j j1 j2; simpa using this
    simp only
    by_cases q : rdep rs a = rdep rs k
    · rw [if_pos q]
      refine .inr ⟨a, ?_, a1, q, rfl, a3'⟩
      rcases Nat.lt_trichotomy u a with g | g | g
      · exact g
      · subst g; omega
      · have := a3' u g hu; omega
    · rw [if_neg q]
      have hau : a = u := by
        rcases Nat.lt_trichotomy u a with g | g | g
        · have := hb a g a1; omega
        · exact g.symm
        · have := a3' u g hu; omega
      subst hau
      refine .inl ⟨rfl, ?_⟩
      have hs := hT.rise (a + 1) (by omega) (by omega)
      rw [Nat.add_sub_cancel] at hs
      have hs' : rdep rs (a + 1) ≤ rdep rs a + 1 := hs
      by_cases g : a + 1 < k
      · have := a3' (a + 1) (by omega) g; omega
      · omega
structure RowsOk (rest rows : List RowD) : Prop where
  h0 : 0 < rows.length
  deep : ∀ i, 1 ≤ i → i < rows.length → rdep rows 0 < rdep rows i
  dj : ∀ r ∈ rows, ∀ s ∈ rest, r.id ≠ s.id
  nd : (rows.map (·.id)).Nodup
theorem sub_ok {rs : List RowD} (ht : treeB rs = true) {k : Nat} (hk : k < rs.length) : RowsOk (restR rs k) (subR rs k) := by
  obtain ⟨e1, e2, e3, e4⟩ := en_spec (D := rdep rs) hk
  have e' : enR rs k = en (rdep rs) rs.length k := rfl
  have hl := sub_len hk
  have hnd := (treeL_of ht).nd
  rw [parts hk] at hnd
  simp only [List.map_append, List.nodup_append, List.mem_append] at hnd
  refine ⟨by omega, fun i h1 h2 => ?_, fun r hr s hs e => ?_, hnd.2.1.1⟩
  · unfold rdep
    rw [sub_rat (by omega), sub_rat (by omega)]
    exact e3 (k + i) (by omega) (by omega)
  · have m1 : r.id ∈ (subR rs k).map (·.id) := List.mem_map.2 ⟨r, hr, rfl⟩
    rcases List.mem_append.1 hs with q | q
    · exact hnd.2.2 s.id (List.mem_map.2 ⟨s, q, rfl⟩) r.id (.inl m1) e.symm
    · exact hnd.2.1.2.2 r.id m1 s.id (List.mem_map.2 ⟨s, q, rfl⟩) e
theorem shift_zero (l : List RowD) : l.map (shiftR 0) = l := by
  have : shiftR 0 = id := by funext r; simp [shiftR]
  rw [this, List.map_id]
/-- An outline is what is left without a row, and the row put where it stands. -/
theorem tree_put {rs : List RowD} (ht : treeB rs = true) {k : Nat} (hk : k < rs.length) (hr : rootB (rat rs k).id = false) :
    PutOk (restR rs k) (subR rs k) (upAt rs k) (ahAt rs k) ∧ placeN (restR rs k) (upAt rs k) (ahAt rs k) = k ∧ putR (restR rs k) (subR rs k) (upAt rs k) (ahAt rs k) = rs := by
  have hT := treeP_of ht
  have hL := treeL_of ht
  obtain ⟨u, hu, eu, hd, hb⟩ := up_spec ht hk hr
  have hah := ah_spec ht hk hu hd hb
  obtain ⟨e1, e2, e3, e4⟩ := en_spec (D := rdep rs) hk
  have e' : enR rs k = en (rdep rs) rs.length k := rfl
  obtain ⟨r1, r2⟩ := rest_rat hk
  have hlen := (rest_len hk).1
  have hsl := sub_len hk
  have hkl : k ≤ (restR rs k).length := by omega
  have hat : ∀ j, j < k → atN (restR rs k) (rat rs j).id = j := fun j hj => atN_mk (by omega) (by rw [r1 j hj]) (fun i hi => by rw [r1 i (by omega)]; exact hT.fresh j i hi (by omega))
  have d1 : ∀ j, j < k → rdep (restR rs k) j = rdep rs j := fun j hj => by unfold rdep; rw [r1 j hj]
  have hen : u < k → ∀ a, u < a → a < k → a < enR (restR rs k) u := fun _ a a1 a2 => by
    obtain ⟨f1, f2, f3, f4⟩ := en_spec (D := rdep (restR rs k)) (m := (restR rs k).length) (i := u) (by omega)
    have f' : enR (restR rs k) u = en (rdep (restR rs k)) (restR rs k).length u := rfl
    rcases Nat.lt_or_ge a (enR (restR rs k) u) with g | g
    · exact g
    · have := f4 (by omega)
      rw [d1 u hu, d1 _ (by omega)] at this
      have := hb (en (rdep (restR rs k)) (restR rs k).length u) (by omega) (by omega)
      omega
  have hso := sub_ok ht hk
  have hsub0 : rdep (subR rs k) 0 = rdep rs k := by unfold rdep; rw [sub_rat (by omega)]; rfl
  have hplace : placeN (restR rs k) (upAt rs k) (ahAt rs k) = k := by
    unfold placeN
    rcases hah with ⟨h1, h2⟩ | ⟨a, h1, h2, h3, h4, h5⟩
    · rw [h1, if_neg (by omega), eu, hat u hu]; exact h2.symm
    · have := rok_id (hT.rok a (by omega))
      rw [h4, if_pos (by omega), hat a h2]
      unfold enR
      refine en_uniq (by omega) hkl (fun j j1 j2 => by rw [d1 a h2, d1 j j2, h3]; exact h5 j j1 j2) (fun g => ?_)
      have := e4 (by omega)
      have q : rdep (restR rs k) k = rdep rs (enR rs k) := by unfold rdep; rw [r2 k (Nat.le_refl _), show k + (enR rs k - k) = enR rs k by omega]
      rw [q, d1 a h2, h3]; exact this
  refine ⟨⟨rest_treeL hL hk hr, by rw [eu, hat u hu]; omega, fun g => ?_, ?_, hso.h0, hso.deep, hso.dj, hso.nd⟩, hplace, ?_⟩
  · rcases hah with ⟨h1, h2⟩ | ⟨a, h1, h2, h3, h4, h5⟩
    · omega
    · rw [h4, eu, hat u hu, hat a h2]
      exact ⟨h1, hen hu a h1 h2, by rw [d1 a h2, d1 u hu]; omega⟩
  · rcases hah with ⟨h1, h2⟩ | ⟨a, h1, h2, h3, h4, h5⟩
    · omega
    · have := rok_id (hT.rok a (by omega)); omega
  · unfold putR
    have hD : deepI' (restR rs k) (subR rs k) (upAt rs k) = 0 := by unfold deepI'; rw [eu, hat u hu, d1 u hu, hsub0]; omega
    rw [hD, shift_zero, hplace]
    have hl : (rs.take k).length = k := by rw [List.length_take]; omega
    conv => rhs; rw [parts hk]
    unfold restR
    rw [List.take_left' hl, List.drop_left' hl, List.append_assoc]
theorem kids_up {rs : List RowD} (ht : treeB rs = true) {up at' : Int} (hu : thereB rs up = true) : at' ∈ kidsL rs up ↔ (thereB rs at' = true ∧ upAt rs (atN rs at') = up) := by
  have hT := treeP_of ht
  have hul := there_iff.1 hu
  rw [kids_at ht hu]
  constructor
  · rintro ⟨h1, h2⟩
    refine ⟨h1, ?_⟩
    rw [← par_shift hT (there_iff.1 h1), h2]
    exact atN_id hul
  · rintro ⟨h1, h2⟩
    refine ⟨h1, ?_⟩
    have hl := there_iff.1 h1
    rw [← par_shift hT hl] at h2
    have hp := (par_spec hT.deps (i := atN rs at' + 1) (by omega) (by omega)).1
    rcases hq : par (dp rs) (atN rs at' + 1) with _ | q
    · rw [hq] at h2
      have := (there_pos ht hu).1
      have e0 : (nd rs 0).id = 0 := rfl
      rw [e0] at h2; omega
    · rw [hq] at h2 hp
      have e : (rat rs q).id = up := h2
      have := hT.at_self (show q < rs.length by omega)
      rw [e] at this; omega
theorem kid_place {rs : List RowD} (ht : treeB rs = true) {up at' : Int} (hu : thereB rs up = true) (h1 : thereB rs at' = true) (h2 : upAt rs (atN rs at') = up) : atN rs up < atN rs at' ∧ atN rs at' < enR rs (atN rs up) ∧ rdep rs (atN rs at') = rdep rs (atN rs up) + 1 := by
  have hk := (kids_up ht hu).2 ⟨h1, h2⟩
  have hul := there_iff.1 hu
  obtain ⟨e1, e2, _, _⟩ := en_spec (D := rdep rs) hul
  have e' : enR rs (atN rs up) = en (rdep rs) rs.length (atN rs up) := rfl
  rw [kidsL_yes hul, kidsOf_iff] at hk
  obtain ⟨j, a, b, c, d⟩ := hk
  have := (treeP_of ht).at_self (show j < rs.length by omega)
  rw [d] at this
  rw [this]
  exact ⟨by omega, by omega, c⟩
def goU (rest : List RowD) (o : OpD) : Int := if thereB rest o.up then o.up else 3
def goA (rest : List RowD) (o : OpD) : Int := if thereB rest o.up && (thereB rest o.at_ && (upAt rest (atN rest o.at_) == o.up)) then o.at_ else 0
def goNo (rows : List RowD) (o : OpD) : Bool := rows.any (fun r => r.id == o.up)
theorem goNo_iff {rows : List RowD} {o : OpD} : goNo rows o = true ↔ ∃ j, j < rows.length ∧ (rat rows j).id = o.up := by
  unfold goNo
  rw [List.any_eq_true]
  constructor
  · rintro ⟨r, hr, e⟩
    obtain ⟨j, hj, q⟩ := mem_rat hr
    exact ⟨j, hj, by rw [q]; simpa using e⟩
  · rintro ⟨j, hj, e⟩
    exact ⟨_, rat_in hj, by simpa using e⟩
theorem goNo_shift (d : Int) (rows : List RowD) (o : OpD) : goNo (rows.map (shiftR d)) o = goNo rows o := by
  unfold goNo
  rw [List.any_map]
  rfl
theorem goU_there {rest : List RowD} {o : OpD} (hR : treeB rest = true) : thereB rest (goU rest o) = true := by
  unfold goU; split
  · assumption
  · exact tree_three hR
theorem goA_pos {rest : List RowD} {o : OpD} (h : 0 < goA rest o) : goU rest o = o.up ∧ goA rest o = o.at_ ∧ thereB rest o.up = true ∧ thereB rest o.at_ = true ∧ upAt rest (atN rest o.at_) = o.up := by
  unfold goA at h ⊢
  split at h
  · rename_i g
    rw [if_pos g]
    simp only [Bool.and_eq_true, beq_iff_eq] at g
    exact ⟨by unfold goU; rw [if_pos g.1], rfl, g.1, g.2.1, g.2.2⟩
  · omega
theorem go_put {rest rows : List RowD} (o : OpD) (hR : treeB rest = true) (h : RowsOk rest rows) : PutOk rest rows (goU rest o) (goA rest o) := by
  refine ⟨treeL_of hR, there_iff.1 (goU_there hR), fun g => ?_, ?_, h.h0, h.deep, h.dj, h.nd⟩
  · obtain ⟨g1, g2, g3, g4, g5⟩ := goA_pos g
    rw [g1, g2]
    exact kid_place hR g3 g4 g5
  · unfold goA
    split
    · rename_i g
      simp only [Bool.and_eq_true] at g
      have := (there_pos hR g.2.1).1; omega
    · omega
theorem atOf_eq {ks : List Int} {o : OpD} : atOfL ks o = if o.at_ ∈ ks ∧ o.at_ ≠ o.id then o.at_ else 0 := by
  have hany : (ks.any (fun x => (x == o.at_) && (o.at_ != o.id))) = true ↔ (o.at_ ∈ ks ∧ o.at_ ≠ o.id) := by
    simp only [List.any_eq_true, Bool.and_eq_true, beq_iff_eq, bne_iff_ne, ne_eq]
    constructor
    · rintro ⟨x, h1, rfl, h2⟩; exact ⟨h1, h2⟩
    · rintro ⟨h1, h2⟩; exact ⟨_, h1, rfl, h2⟩
  unfold atOfL
  by_cases h : o.at_ ∈ ks ∧ o.at_ ≠ o.id
  · rw [if_pos h, if_pos (hany.2 h)]
  · rw [if_neg h, if_neg (fun g => h (hany.1 g))]
theorem where_make {rs : List RowD} {o : OpD} (ht : treeB rs = true) (hk : o.kind = 1) (hn : thereB rs o.id = false) : whereU rs o = goU rs o ∧ whereA rs o = goA rs o := by
  have h : noWhereB rs o = false := by rw [noWhere1 hk]; exact hn
  refine ⟨by simp [whereU, goU, h], ?_⟩
  unfold whereA goA
  rw [h]
  simp only [Bool.false_eq_true, if_false]
  cases hu : thereB rs o.up
  · simp
  · rw [if_pos rfl, atOf_eq]
    have hku := kids_up (at' := o.at_) ht hu
    by_cases g : thereB rs o.at_ = true ∧ upAt rs (atN rs o.at_) = o.up
    · rw [if_pos ⟨hku.2 g, fun e => by rw [e, hn] at g; cases g.1⟩, if_pos (by simp [g.1, g.2])]
    · rw [if_neg (fun q => g (hku.1 q.1)), if_neg (fun q => g (by simpa using q))]
theorem PutF.there {rest rows x : List RowD} {u P : Nat} {D : Int} (h : PutF rest rows x u P D) {c : Int} : thereB x c = true ↔ (thereB rest c = true ∨ ∃ j, j < rows.length ∧ (rat rows j).id = c) := by
  have hl := h.len
  have hle := h.le
  constructor
  · intro g
    have hc := there_iff.1 g
    have e := atN_id hc
    by_cases q1 : atN x c < P
    · rw [h.lo _ q1] at e
      exact .inl (there_iff.2 (by rw [← e]; exact mem_there (rat_in (show atN x c < rest.length by omega))))
    · by_cases q2 : atN x c < P + rows.length
      · have := h.mid (atN x c - P) (by omega)
        rw [show P + (atN x c - P) = atN x c by omega] at this
        rw [this] at e
        exact .inr ⟨_, by omega, e⟩
      · have := h.hi (atN x c - rows.length) (by omega)
        rw [show atN x c - rows.length + rows.length = atN x c by omega] at this
        rw [this] at e
        exact .inl (there_iff.2 (by rw [← e]; exact mem_there (rat_in (show atN x c - rows.length < rest.length by omega))))
  · rintro (g | ⟨j, hj, e⟩)
    · have hc := there_iff.1 g
      have := h.at_rest hc
      rw [atN_id hc] at this
      refine there_iff.2 ?_
      rw [this]; split <;> omega
    · have := h.at_mid hj
      rw [e] at this
      exact there_iff.2 (by omega)
theorem PutF.up_in {rest rows x : List RowD} {u P : Nat} {D : Int} (h : PutF rest rows x u P D) {j : Nat} (h1 : 1 ≤ j) (hj : j < rows.length) : ∃ l, l < rows.length ∧ upAt x (P + j) = (rat rows l).id := by
  rw [h.up_mid h1 hj]
  unfold upAt
  cases q : lstBelow (fun l => decide (rdep rows l < rdep rows j)) j with
  | none =>
    have := lstBelow_none _ _ q 0 (by omega)
    simp only [decide_eq_false_iff_not, Int.not_lt] at this
    have := h.deep j h1 hj
    omega
  | some l => exact ⟨l, by have := (lstBelow_some _ _ _ q).1; omega, rfl⟩
/-- A row of the rest stands under the same in the whole. -/
theorem PutF.up_at {rest rows x : List RowD} {u P : Nat} {D : Int} (h : PutF rest rows x u P D) {c : Int} (hc : thereB rest c = true) : upAt x (atN x c) = upAt rest (atN rest c) := by
  have hl := there_iff.1 hc
  have := h.at_rest hl
  rw [atN_id hl] at this
  rw [this, h.up_rest hl]
theorem made_root {id : Int} (h : madeB id = true) : rootB id = false := by
  rw [Bool.eq_false_iff]; intro g; have := (rootB_iff _).1 g; have := (madeB_iff _).1 h; omega
/-- An outline as a put of the row k in what is left without it. -/
theorem tree_putF {rs : List RowD} (ht : treeB rs = true) {k : Nat} (hk : k < rs.length) (hr : rootB (rat rs k).id = false) : ∃ u D, PutF (restR rs k) (subR rs k) rs u k D := by
  obtain ⟨h1, h2, h3⟩ := tree_put ht hk hr
  have := h1.facts
  rw [h2, h3] at this
  exact ⟨_, _, this⟩
theorem where_move {rs : List RowD} {o : OpD} (ht : treeB rs = true) (hk : o.kind = 3) (hm : madeB o.id = true) (hid : thereB rs o.id = true) :
    noWhereB rs o = goNo (subR rs (atN rs o.id)) o ∧ (goNo (subR rs (atN rs o.id)) o = false → whereU rs o = goU (restR rs (atN rs o.id)) o ∧ whereA rs o = goA (restR rs (atN rs o.id)) o) := by
  have hil := there_iff.1 hid
  have hrt : rootB (rat rs (atN rs o.id)).id = false := by rw [atN_id hil]; exact made_root hm
  obtain ⟨u, D, F⟩ := tree_putF ht hil hrt
  have hen := F.enP
  have hsl := F.n0
  have h0 : (rat (subR rs (atN rs o.id)) 0).id = o.id := by
    rw [sub_rat (by omega), Nat.add_zero, atN_id hil]
  have hno : noWhereB rs o = goNo (subR rs (atN rs o.id)) o := by
    rw [noWhere3 hk, hid]
    simp only [Bool.not_true, Bool.false_or]
    rw [Bool.eq_iff_iff, goNo_iff]
    unfold undB
    simp only [Bool.and_eq_true, decide_eq_true_eq]
    constructor
    · rintro ⟨⟨⟨a, b⟩, c⟩, d⟩
      refine ⟨atN rs o.up - atN rs o.id, by omega, ?_⟩
      have := F.mid (atN rs o.up - atN rs o.id) (by omega)
      rw [show atN rs o.id + (atN rs o.up - atN rs o.id) = atN rs o.up by omega] at this
      have e := atN_id a
      rw [this] at e
      exact e
    · rintro ⟨j, hj, e⟩
      have := F.at_mid hj
      rw [e] at this
      have hle := F.len
      have := F.le
      exact ⟨⟨⟨by omega, hil⟩, by omega⟩, by omega⟩
  refine ⟨hno, fun hg => ?_⟩
  have hn : noWhereB rs o = false := by rw [hno]; exact hg
  have hup : thereB rs o.up = thereB (restR rs (atN rs o.id)) o.up := by
    rw [Bool.eq_iff_iff, F.there]
    constructor
    · rintro (g | g)
      · exact g
      · rw [goNo_iff.2 g] at hg; cases hg
    · exact .inl
  refine ⟨by simp [whereU, goU, hn, hup], ?_⟩
  unfold whereA goA
  rw [hn]
  simp only [Bool.false_eq_true, if_false]
  rw [← hup]
  cases hu : thereB rs o.up
  · simp
  · rw [if_pos rfl, atOf_eq]
    have hku := kids_up (at' := o.at_) ht hu
    have key : ((thereB rs o.at_ = true ∧ upAt rs (atN rs o.at_) = o.up) ∧ o.at_ ≠ o.id) ↔ (thereB (restR rs (atN rs o.id)) o.at_ = true ∧ upAt (restR rs (atN rs o.id)) (atN (restR rs (atN rs o.id)) o.at_) = o.up) := by
      constructor
      · rintro ⟨⟨a, b⟩, c⟩
        rcases F.there.1 a with g | ⟨j, hj, e⟩
        · exact ⟨g, by rw [← F.up_at g]; exact b⟩
        · exfalso
          have hj0 : j ≠ 0 := fun q => by subst q; exact c (by rw [← e, h0])
          obtain ⟨l, hl, q⟩ := F.up_in (show 1 ≤ j by omega) hj
          have hat := F.at_mid hj
          rw [e] at hat
          rw [hat, q] at b
          rw [goNo_iff.2 ⟨l, hl, b⟩] at hg; cases hg
      · rintro ⟨a, b⟩
        refine ⟨⟨F.there.2 (.inl a), by rw [F.up_at a]; exact b⟩, fun e => ?_⟩
        have hl := there_iff.1 a
        have := F.dj 0 _ F.n0 hl
        rw [h0, atN_id hl] at this
        exact this e.symm
    by_cases g : thereB (restR rs (atN rs o.id)) o.at_ = true ∧ upAt (restR rs (atN rs o.id)) (atN (restR rs (atN rs o.id)) o.at_) = o.up
    · rw [if_pos ⟨hku.2 (key.2 g).1, (key.2 g).2⟩, if_pos (by simp [g.1, g.2])]
    · rw [if_neg (fun q => g (key.1 ⟨hku.1 q.1, q.2⟩)), if_neg (fun q => g (by simpa using q))]
/-! ### making and moving -/
theorem do_make {rs : List RowD} {o : OpD} (ht : treeB rs = true) (hk : o.kind = 1) (hn : thereB rs o.id = false) : doR rs o = putR rs [⟨o.id, 0, o.txt⟩] (goU rs o) (goA rs o) ∧ RowsOk rs [⟨o.id, 0, o.txt⟩] := by
  have h : noWhereB rs o = false := by rw [noWhere1 hk]; exact hn
  obtain ⟨h1, h2⟩ := where_make ht hk hn
  refine ⟨by rw [doR_put hk h, h1, h2], by simp, fun i a b => by simp at b; omega, fun r hr s hs e => ?_, by simp⟩
  simp only [List.mem_singleton] at hr
  subst hr
  have := mem_there hs
  rw [← e] at this
  simp only [thereB, decide_eq_false_iff_not] at hn
  exact hn this
theorem do_move {rs : List RowD} {o : OpD} (ht : treeB rs = true) (hk : o.kind = 3) (hm : madeB o.id = true) (hid : thereB rs o.id = true) :
    doR rs o = if goNo (subR rs (atN rs o.id)) o then rs else putR (restR rs (atN rs o.id)) (subR rs (atN rs o.id)) (goU (restR rs (atN rs o.id)) o) (goA (restR rs (atN rs o.id)) o) := by
  obtain ⟨h1, h2⟩ := where_move ht hk hm hid
  cases hg : goNo (subR rs (atN rs o.id)) o
  · rw [doR_move hk (by rw [h1]; exact hg), (h2 hg).1, (h2 hg).2]; simp
  · have hn : noWhereB rs o = true := by rw [h1]; exact hg
    simp [doR, hk, hn]
theorem do_move_no {rs : List RowD} {o : OpD} (hk : o.kind = 3) (hid : thereB rs o.id = false) : doR rs o = rs := by
  have hn : noWhereB rs o = true := by rw [noWhere3 hk, hid]; rfl
  simp [doR, hk, hn]
theorem rest_tree {rs : List RowD} (ht : treeB rs = true) {id : Int} (hm : madeB id = true) (hid : thereB rs id = true) : treeB (restR rs (atN rs id)) = true := by
  have hil := there_iff.1 hid
  exact tree_of (rest_treeL (treeL_of ht) hil (by rw [atN_id hil]; exact made_root hm))
theorem sub_head {rs : List RowD} {id : Int} (hid : thereB rs id = true) : (rat (subR rs (atN rs id)) 0).id = id := by
  have hil := there_iff.1 hid
  have := sub_len hil
  have h2 := (rest_len hil).2
  rw [sub_rat (by omega), Nat.add_zero, atN_id hil]
/-- A row that was put somewhere is moved: the same as if it were put there. -/
theorem move_put {rest rows : List RowD} {up at' : Int} {p : OpD} (h : PutOk rest rows up at') (hx : treeB (putR rest rows up at') = true) (hk : p.kind = 3) (hm : madeB p.id = true) (hid : (rat rows 0).id = p.id) :
    doR (putR rest rows up at') p = if goNo rows p then putR rest rows up at' else putR rest rows (goU rest p) (goA rest p) := by
  have hat := h.at_head hid
  have hth : thereB (putR rest rows up at') p.id = true := h.facts.there.2 (.inr ⟨0, h.h0, hid⟩)
  rw [do_move hx hk hm hth, hat, h.rest_back.1, h.rest_back.2, goNo_shift, put_shift _ _ _ _ _ h.h0]
/-- The same done twice is done once. -/
theorem do_twice {rs : List RowD} {o : OpD} (ht : treeB rs = true) (hok : opokB o = true) : doR (doR rs o) o = doR rs o := by
  have hx := do_tree ht hok
  have hm := opok_made hok
  rcases opok_kind hok with k | k | k
  · cases hn : thereB rs o.id
    · have h1 := do_made (rs := rs) k (fun g => by rw [there_iff.2 g] at hn; cases hn)
      exact doR_no k (by rw [noWhere1 k]; exact there_iff.2 h1.2)
    · have e : doR rs o = rs := doR_no k (by rw [noWhere1 k]; exact hn)
      rw [e, e]
  · have e : ∀ l, doR l o = if thereB l o.id then setTxt l (atN l o.id) o.txt else l := fun l => by simp [doR, k]
    cases hn : thereB rs o.id
    · have e1 : doR rs o = rs := by rw [e, hn]; rfl
      rw [e1, e1]
    · have e1 : doR rs o = setTxt rs (atN rs o.id) o.txt := by rw [e, hn]; rfl
      have hil := there_iff.1 hn
      have hlen : (setTxt rs (atN rs o.id) o.txt).length = rs.length := by simp [setTxt]
      have hat : atN (setTxt rs (atN rs o.id) o.txt) o.id = atN rs o.id := by
        refine atN_mk (by omega) ?_ (fun j hj => ?_)
        · rw [rat_setTxt hil, if_pos rfl]; exact atN_id hil
        · rw [rat_setTxt (by omega), if_neg (by omega)]; exact atN_not hj
      rw [e1, e, there_iff.2 (by rw [hat, hlen]; exact hil), hat]
      simp only [if_true]
      unfold setTxt
      apply List.ext_getElem
      · simp
      · intro i h1 h2
        simp only [List.getElem_modify]
        split <;> rfl
  · cases hn : thereB rs o.id
    · rw [do_move_no k hn, do_move_no k hn]
    · have e := do_move ht k hm hn
      cases hg : goNo (subR rs (atN rs o.id)) o
      · rw [hg] at e
        simp only [Bool.false_eq_true, if_false] at e
        rw [e] at hx ⊢
        rw [move_put (go_put o (rest_tree ht hm hn) (sub_ok ht (there_iff.1 hn))) hx k hm (sub_head hn), hg]
        rfl
      · rw [hg] at e
        simp only [if_true] at e
        rw [e, e]
/-- The last one to move a row counts. -/
theorem move_two {rs : List RowD} {o p : OpD} (ht : treeB rs = true) (hok : opokB o = true) (hk : o.kind = 3) (hp : p.kind = 3) (hid : p.id = o.id) (hup : rootB p.up = true) : doR (doR rs o) p = doR rs p := by
  have hx := do_tree ht hok
  have hm := opok_made hok
  cases hn : thereB rs o.id
  · rw [do_move_no hk hn]
  · have hil := there_iff.1 hn
    have e := do_move ht hk hm hn
    have e2 := do_move (o := p) ht hp (by rw [hid]; exact hm) (by rw [hid]; exact hn)
    rw [hid] at e2
    have hgp : goNo (subR rs (atN rs o.id)) p = false := by
      rw [Bool.eq_false_iff]
      intro g
      obtain ⟨j, hj, q⟩ := goNo_iff.1 g
      obtain ⟨i, _, _, q2, hd⟩ := sub_mem hil (rat_in hj)
      have hL := treeL_of ht
      have hd1 : 1 ≤ rdep rs (atN rs o.id) := by
        rcases hL.rk _ (rat_in hil) with g | g
        · rw [atN_id hil, made_root hm] at g; cases g.1
        · exact g.2.2.1
      rcases hL.rk _ (mem_sub (rat_in hj)) with g | g
      · have := g.2.1; omega
      · rw [q, hup] at g; cases g.1
    rw [hgp] at e2
    simp only [Bool.false_eq_true, if_false] at e2
    cases hg : goNo (subR rs (atN rs o.id)) o
    · rw [hg] at e
      simp only [Bool.false_eq_true, if_false] at e
      rw [e] at hx ⊢
      rw [move_put (go_put o (rest_tree ht hm hn) (sub_ok ht hil)) hx hp (by rw [hid]; exact hm) (by rw [hid]; exact sub_head hn), hgp, e2]
      rfl
    · rw [hg] at e
      simp only [if_true] at e
      rw [e]
/-- Made, and moved, is made there. -/
theorem make_move {rs : List RowD} {o p q : OpD} (ht : treeB rs = true) (hok : opokB o = true) (hk : o.kind = 1) (hn : thereB rs o.id = false) (hp : p.kind = 3) (hid : p.id = o.id) (hup : thereB rs p.up = true) (hq : q.kind = 1) (hqi : q.id = o.id) (hqt : q.txt = o.txt) (hqu : q.up = p.up) (hqa : q.at_ = p.at_) : doR (doR rs o) p = doR rs q := by
  have hx := do_tree ht hok
  have hm := opok_made hok
  obtain ⟨e1, r1⟩ := do_make ht hk hn
  obtain ⟨e2, r2⟩ := do_make (o := q) ht hq (by rw [hqi]; exact hn)
  rw [e1] at hx ⊢
  have hg : goNo [(⟨o.id, 0, o.txt⟩ : RowD)] p = false := by
    unfold goNo
    simp only [List.any_cons, List.any_nil, Bool.or_false, beq_eq_false_iff_ne, ne_eq]
    intro g
    rw [← g, hn] at hup; cases hup
  rw [move_put (go_put o ht r1) hx hp (by rw [hid]; exact hm) (by rw [hid]; rfl), hg, e2]
  have u1 : goU rs q = goU rs p := by unfold goU; rw [hqu]
  have u2 : goA rs q = goA rs p := by unfold goA; rw [hqu, hqa]
  rw [hqi, hqt, u1, u2]
  rfl
/-- A row is put where a change says. -/
theorem do_where {rs : List RowD} {o : OpD} (ht : treeB rs = true) (hok : opokB o = true) (hn : noWhereB rs o = false) : thereB (doR rs o) o.id = true ∧ upAt (doR rs o) (atN (doR rs o) o.id) = whereU rs o ∧ ahAt (doR rs o) (atN (doR rs o) o.id) = whereA rs o := by
  have hm := opok_made hok
  rcases opok_kind hok with k | k | k
  · have hnt : thereB rs o.id = false := by rw [← noWhere1 (rs := rs) k]; exact hn
    obtain ⟨h1, h2⟩ := where_make ht k hnt
    obtain ⟨e1, r1⟩ := do_make ht k hnt
    have hP := go_put o ht r1
    rw [e1, h1, h2, hP.at_head (id := o.id) rfl, hP.upH, hP.ahH]
    exact ⟨hP.facts.there.2 (.inr ⟨0, by simp, rfl⟩), rfl, rfl⟩
  · rw [noWhere2 k] at hn; cases hn
  · have hid : thereB rs o.id = true := by
      have hno := noWhere3 (rs := rs) k
      rw [hn] at hno
      cases h : thereB rs o.id <;> simp [h] at hno ⊢
    obtain ⟨h1, h2⟩ := where_move ht k hm hid
    have hg : goNo (subR rs (atN rs o.id)) o = false := by rw [← h1]; exact hn
    have e := do_move ht k hm hid
    rw [hg] at e
    simp only [Bool.false_eq_true, if_false] at e
    have hP := go_put o (rest_tree ht hm hid) (sub_ok ht (there_iff.1 hid))
    rw [e, (h2 hg).1, (h2 hg).2, hP.at_head (sub_head hid), hP.upH, hP.ahH]
    exact ⟨hP.facts.there.2 (.inr ⟨0, hP.h0, sub_head hid⟩), rfl, rfl⟩
/-- Moved back to where it stood, a row is where it was. -/
theorem move_back {rs : List RowD} {o b : OpD} (ht : treeB rs = true) (hok : opokB o = true) (hk : o.kind = 3) (hid : thereB rs o.id = true) (hb : b.kind = 3) (hbi : b.id = o.id) (hbu : b.up = upAt rs (atN rs o.id)) (hba : b.at_ = ahAt rs (atN rs o.id)) : doR (doR rs o) b = rs := by
  have hx := do_tree ht hok
  have hm := opok_made hok
  have hil := there_iff.1 hid
  obtain ⟨p1, p2, p3⟩ := tree_put ht hil (by rw [atN_id hil]; exact made_root hm)
  have hR := rest_tree ht hm hid
  have hgb : goNo (subR rs (atN rs o.id)) b = false := by
    rw [Bool.eq_false_iff]
    intro g
    obtain ⟨j, hj, q⟩ := goNo_iff.1 g
    have h1 := p1.hu
    have := p1.dj _ (rat_in hj) _ (rat_in h1)
    rw [q, atN_id h1, hbu] at this
    exact this rfl
  have hu : goU (restR rs (atN rs o.id)) b = upAt rs (atN rs o.id) := by
    unfold goU
    rw [hbu, there_iff.2 p1.hu, if_pos rfl]
  have hup1 : upAt (restR rs (atN rs o.id)) (atN (restR rs (atN rs o.id)) (ahAt rs (atN rs o.id))) = upAt rs (atN rs o.id) ∨ ahAt rs (atN rs o.id) = 0 := by
    by_cases g : 0 < ahAt rs (atN rs o.id)
    · left
      obtain ⟨a1, a2, a3⟩ := p1.ha g
      have hen := (en_spec (D := rdep (restR rs (atN rs o.id))) p1.hu).2.1
      have e' : enR (restR rs (atN rs o.id)) (atN (restR rs (atN rs o.id)) (upAt rs (atN rs o.id))) = en (rdep (restR rs (atN rs o.id))) (restR rs (atN rs o.id)).length (atN (restR rs (atN rs o.id)) (upAt rs (atN rs o.id))) := rfl
      have hal : atN (restR rs (atN rs o.id)) (ahAt rs (atN rs o.id)) < (restR rs (atN rs o.id)).length := by omega
      refine ((kids_up hR (there_iff.2 p1.hu)).1 ?_).2
      rw [kidsL_yes p1.hu, kidsOf_iff]
      exact ⟨_, by omega, by omega, a3, atN_id hal⟩
    · right
      have := p1.a0; omega
  have hA : goA (restR rs (atN rs o.id)) b = ahAt rs (atN rs o.id) := by
    unfold goA
    rw [hbu, hba, there_iff.2 p1.hu]
    by_cases g : 0 < ahAt rs (atN rs o.id)
    · obtain ⟨a1, a2, a3⟩ := p1.ha g
      have hen := (en_spec (D := rdep (restR rs (atN rs o.id))) p1.hu).2.1
      have e' : enR (restR rs (atN rs o.id)) (atN (restR rs (atN rs o.id)) (upAt rs (atN rs o.id))) = en (rdep (restR rs (atN rs o.id))) (restR rs (atN rs o.id)).length (atN (restR rs (atN rs o.id)) (upAt rs (atN rs o.id))) := rfl
      have hal : thereB (restR rs (atN rs o.id)) (ahAt rs (atN rs o.id)) = true := there_iff.2 (by omega)
      rcases hup1 with q | q
      · rw [hal, q]; simp
      · omega
    · have h0 : ahAt rs (atN rs o.id) = 0 := by have := p1.a0; omega
      rw [h0]; simp
  have e := do_move ht hk hm hid
  have fin : putR (restR rs (atN rs o.id)) (subR rs (atN rs o.id)) (goU (restR rs (atN rs o.id)) b) (goA (restR rs (atN rs o.id)) b) = rs := by rw [hu, hA, p3]
  cases hg : goNo (subR rs (atN rs o.id)) o
  · rw [hg] at e
    simp only [Bool.false_eq_true, if_false] at e
    rw [e] at hx ⊢
    rw [move_put (go_put o hR (sub_ok ht hil)) hx hb (by rw [hbi]; exact hm) (by rw [hbi]; exact sub_head hid), hgb]
    simp only [Bool.false_eq_true, if_false]
    exact fin
  · rw [hg] at e
    simp only [if_true] at e
    rw [e]
    have e2 := do_move (o := b) ht hb (by rw [hbi]; exact hm) (by rw [hbi]; exact hid)
    rw [hbi, hgb] at e2
    simp only [Bool.false_eq_true, if_false] at e2
    rw [e2]; exact fin
end Go.Proofs.YtclhjgcapalniaaDoor
