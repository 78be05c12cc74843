/-
  Joined texts, each with its own head: what it holds, and its conditions.
-/
import Derived.Test.YtclhjgcapalniaaDoorGE
import Derived.Test.YtclhjgcapalniaaDoorGM
import Derived.Test.YtclhjgcapalniaaDoorGD

/-
  Plain mathematics: what is a valid outline, said by lists: each row right by itself, numbers that part, depths that rise by one at most, the roots in order. Nothing of the program is run here. Conditions: none beyond the lemmas' own premises.
-/
namespace Go.Proofs.YtclhjgcapalniaaDoor

def Rk (r : RowD) : Prop := (rootB r.id = true ∧ r.dep = 0 ∧ r.txt.toList.isEmpty = true) ∨ (rootB r.id = false ∧ madeB r.id = true ∧ 1 ≤ r.dep ∧ textB r.txt = true)
def Rise : Int → List RowD → Prop
  | _, [] => True
  | d, r :: l => r.dep ≤ d ∧ Rise (r.dep + 1) l
def nextD : Int → List RowD → Int
  | d, [] => d
  | _, r :: l => nextD (r.dep + 1) l
theorem Rise.mono {d e : Int} : ∀ {l : List RowD}, Rise d l → d ≤ e → Rise e l
  | [], _, _ => trivial
  | _ :: _, h, he => ⟨Int.le_trans h.1 he, h.2⟩
theorem rise_app : ∀ {a b : List RowD} {d : Int}, Rise d (a ++ b) ↔ (Rise d a ∧ Rise (nextD d a) b)
  | [], b, d => by simp [Rise, nextD]
  | r :: a, b, d => by
    simp only [List.cons_append, Rise, nextD, rise_app (a := a) (b := b)]
    exact ⟨fun h => ⟨⟨h.1, h.2.1⟩, h.2.2⟩, fun h => ⟨h.1.1, h.1.2, h.2⟩⟩
theorem nextD_app : ∀ (a b : List RowD) (d : Int), nextD d (a ++ b) = nextD (nextD d a) b
  | [], b, d => rfl
  | r :: a, b, d => by simp only [List.cons_append, nextD, nextD_app a b]
theorem nextD_snoc (a : List RowD) (r : RowD) (d : Int) : nextD d (a ++ [r]) = r.dep + 1 := by rw [nextD_app]; rfl
def rootsOf (l : List RowD) : List Int := (l.filter (fun r => rootB r.id)).map (·.id)
theorem rootsOf_app (a b : List RowD) : rootsOf (a ++ b) = rootsOf a ++ rootsOf b := by simp [rootsOf]
structure TreeL (l : List RowD) : Prop where
  rk : ∀ r ∈ l, Rk r
  nd : (l.map (·.id)).Nodup
  rise : Rise 0 l
  roots : rootsOf l = [1, 2, 3]
/-! ### rising, by places -/
theorem rise_of {rs : List RowD} : ∀ (n k : Nat), k + n = rs.length → (∀ i, 1 ≤ i → i < rs.length → (rat rs i).dep ≤ (rat rs (i - 1)).dep + 1) → 1 ≤ k → Rise ((rat rs (k - 1)).dep + 1) (rs.drop k)
  | 0, k, h, _, _ => by rw [List.drop_of_length_le (by omega)]; trivial
  | n + 1, k, h, hr, hk => by
    rw [List.drop_eq_getElem_cons (show k < rs.length by omega)]
    have e := rat_lt (rs := rs) (show k < rs.length by omega)
    refine ⟨by rw [← e]; exact hr k hk (by omega), ?_⟩
    have := rise_of n (k + 1) (by omega) hr (by omega)
    rw [Nat.add_sub_cancel, e] at this
    exact this
theorem rise_at : ∀ {l : List RowD} {d : Int}, Rise d l → ∀ i, i < l.length → (rat l i).dep ≤ (if i = 0 then d else (rat l (i - 1)).dep + 1)
  | [], d, _, i, hi => by simp at hi
  | r :: l, d, h, 0, _ => by simp only [if_true]; exact h.1
  | r :: l, d, h, i + 1, hi => by
    have := rise_at h.2 i (by simpa using hi)
    rw [if_neg (by omega), Nat.add_sub_cancel]
    cases i with
    | zero => simpa [rat] using this
    | succ i => rw [rat_cons_succ, rat_cons_succ]; rw [if_neg (by omega), Nat.add_sub_cancel] at this; exact this
/-! ### the roots, by places -/
theorem nroots_succ (rs : List RowD) (k : Nat) : nroots rs (k + 1) = nroots rs k + (if rootB (rat rs k).id = true then 1 else 0) := rfl
theorem roots_take {rs : List RowD} (h : ∀ i, i < rs.length → rootB (rat rs i).id = true → (rat rs i).id = (nroots rs i : Int) + 1) : ∀ k, k ≤ rs.length → rootsOf (rs.take k) = (List.range (nroots rs k)).map (fun (i : Nat) => (i : Int) + 1)
  | 0, _ => by simp [rootsOf, nroots]
  | k + 1, hk => by
    have ih := roots_take h k (by omega)
    rw [List.take_succ_eq_append_getElem (show k < rs.length by omega), rootsOf_app, ih]
    have e := rat_lt (rs := rs) (show k < rs.length by omega)
    rw [← e]
    rw [nroots_succ]
    cases hr : rootB (rat rs k).id
    · simp [rootsOf, hr]
    · rw [if_pos rfl, List.range_succ, List.map_append]
      congr 1
      simp only [rootsOf, List.filter_cons, hr, if_true, List.filter_nil, List.map_cons, List.map_nil]
      rw [h k (by omega) hr]
theorem roots_len {rs : List RowD} : ∀ k, k ≤ rs.length → (rootsOf (rs.take k)).length = nroots rs k
  | 0, _ => by simp [rootsOf, nroots]
  | k + 1, hk => by
    rw [List.take_succ_eq_append_getElem (show k < rs.length by omega), rootsOf_app, List.length_append, roots_len k (by omega)]
    have e := rat_lt (rs := rs) (show k < rs.length by omega)
    rw [← e]
    rw [nroots_succ]
    cases hr : rootB (rat rs k).id <;> simp [rootsOf, hr]
theorem treeL_of {rs : List RowD} (ht : treeB rs = true) : TreeL rs := by
  have hT := treeP_of ht
  have hl := hT.len
  refine ⟨fun r hr => ?_, ?_, ?_, ?_⟩
  · obtain ⟨i, hi, e⟩ := mem_rat hr
    have := rok_cases (hT.rok i hi)
    rw [e] at this
    rcases this with h | ⟨h1, h2, h3, _, h5⟩
    · exact .inl h
    · exact .inr ⟨h1, h2, h3, h5⟩
  · rw [List.nodup_iff_pairwise_ne, List.pairwise_iff_getElem]
    intro i j hi hj hij
    simp only [List.length_map] at hi hj
    simp only [List.getElem_map]
    have := hT.fresh j i hij hj
    rw [rat_lt hi, rat_lt hj] at this
    exact this
  · have hd : rs.drop 0 = rs := by simp
    rw [← hd, List.drop_eq_getElem_cons (show 0 < rs.length by omega)]
    have e := rat_lt (rs := rs) (show 0 < rs.length by omega)
    have r0 := (rok_root (hT.rok 0 (by omega))).2 ((rootB_iff _).2 (by have := hT.head; omega))
    refine ⟨by rw [← e, r0]; exact Int.le_refl _, ?_⟩
    have := rise_of (rs := rs) (rs.length - 1) 1 (by omega) hT.rise (by omega)
    rw [show (1 : Nat) - 1 = 0 from rfl, e] at this
    exact this
  · have := roots_take hT.rord rs.length (Nat.le_refl _)
    rw [List.take_length, hT.three] at this
    rw [this]; rfl
/-! ### depths -/
theorem dep_hit {l : List RowD} (h : Rise 0 l) (hk : ∀ r ∈ l, Rk r) : ∀ i, i < l.length → ∀ j : Nat, (j : Int) ≤ (rat l i).dep → ∃ k, k ≤ i ∧ (rat l k).dep = (j : Int)
  | 0, hi, j, hj => by
    have h0 := rise_at h 0 hi
    simp only [if_true] at h0
    have : 0 ≤ (rat l 0).dep := by rcases hk _ (rat_in hi) with g | g <;> omega
    exact ⟨0, Nat.le_refl _, by omega⟩
  | i + 1, hi, j, hj => by
    by_cases e : (rat l (i + 1)).dep = (j : Int)
    · exact ⟨i + 1, Nat.le_refl _, e⟩
    · have h1 := rise_at h (i + 1) hi
      rw [if_neg (by omega), Nat.add_sub_cancel] at h1
      obtain ⟨k, a, b⟩ := dep_hit h hk i (by omega) j (by omega)
      exact ⟨k, by omega, b⟩
theorem dep_le {l : List RowD} (h : Rise 0 l) (hk : ∀ r ∈ l, Rk r) (hn : (l.map (·.id)).Nodup) {i : Nat} (hi : i < l.length) : (rat l i).dep ≤ 18 := by
  have h0 : 0 ≤ (rat l i).dep := by rcases hk _ (rat_in hi) with g | g <;> omega
  obtain ⟨d, hd⟩ := Int.eq_ofNat_of_zero_le h0
  have hx : ∀ j : Nat, j < d → ∃ k, k < l.length ∧ (rat l k).dep = ((j + 1 : Nat) : Int) := fun j hj => by
    obtain ⟨k, a, b⟩ := dep_hit h hk i hi (j + 1) (by omega)
    exact ⟨k, by omega, b⟩
  have hid : ∀ a b, a < l.length → b < l.length → (rat l a).id = (rat l b).id → a = b := fun a b ha hb e => by
    rw [List.nodup_iff_pairwise_ne, List.pairwise_iff_getElem] at hn
    rcases Nat.lt_trichotomy a b with g | g | g
    · have := hn a b (by simpa using ha) (by simpa using hb) g
      simp only [List.getElem_map] at this
      rw [rat_lt ha, rat_lt hb] at e
      exact absurd e this
    · exact g
    · have := hn b a (by simpa using hb) (by simpa using ha) g
      simp only [List.getElem_map] at this
      rw [rat_lt ha, rat_lt hb] at e
      exact absurd e.symm this
  have key := pigeon 18 d (fun j => if hj : j < d then (((rat l (Classical.choose (hx j hj))).id / 10 - 1) * 6 + ((rat l (Classical.choose (hx j hj))).id % 10 - 1)).toNat else 0) (fun j hj => by
    simp only [hj, dif_pos]
    obtain ⟨a, b⟩ := Classical.choose_spec (hx j hj)
    rcases hk _ (rat_in a) with g | ⟨_, g, _⟩
    · rw [g.2.1] at b; omega
    · have := (madeB_iff _).1 g
      omega) (fun i j hij hj => by
    simp only [hj, show i < d by omega, dif_pos]
    obtain ⟨a, b⟩ := Classical.choose_spec (hx i (by omega))
    obtain ⟨a', b'⟩ := Classical.choose_spec (hx j hj)
    generalize Classical.choose (hx i (by omega)) = p at *
    generalize Classical.choose (hx j hj) = q at *
    rcases hk _ (rat_in a) with g | ⟨_, g, _⟩
    · rw [g.2.1] at b; omega
    · rcases hk _ (rat_in a') with g' | ⟨_, g', _⟩
      · rw [g'.2.1] at b'; omega
      · have m1 := (madeB_iff _).1 g
        have m2 := (madeB_iff _).1 g'
        intro e
        have : (rat l p).id = (rat l q).id := by omega
        have := hid p q a a' this
        subst this
        omega)
  omega
theorem tree_of {l : List RowD} (h : TreeL l) : treeB l = true := by
  have hlen : nroots l l.length = 3 := by
    have := roots_len (rs := l) l.length (Nat.le_refl _)
    rw [List.take_length, h.roots] at this
    exact this.symm
  have hpos : 0 < l.length := by have := nroots_le l l.length; omega
  have hroot : ∀ i, i < l.length → rootB (rat l i).id = true → (rat l i).id = (nroots l i : Int) + 1 := fun i hi hr => by
    have hs : l = l.take i ++ (rat l i :: l.drop (i + 1)) := by
      rw [rat_lt hi, ← List.drop_eq_getElem_cons hi, List.take_append_drop]
    have e := h.roots
    rw [hs, rootsOf_app] at e
    have e2 : rootsOf (rat l i :: l.drop (i + 1)) = (rat l i).id :: rootsOf (l.drop (i + 1)) := by simp [rootsOf, hr]
    rw [e2] at e
    have hl := roots_len (rs := l) i (by omega)
    generalize rootsOf (l.take i) = A at *
    generalize rootsOf (l.drop (i + 1)) = B at *
    rw [← hl]
    match A, e with
    | [], e => simp at e; simp; omega
    | [a], e => simp at e; simp; omega
    | [a, b], e => simp at e; simp; omega
    | a :: b :: c :: A, e => simp at e
  have hhead : (rat l 0).id = 1 := by
    have d0 := rise_at h.rise 0 hpos
    simp only [if_true] at d0
    have hr : rootB (rat l 0).id = true := by
      rcases h.rk _ (rat_in hpos) with g | g
      · exact g.1
      · omega
    have := hroot 0 hpos hr
    simpa [nroots] using this
  simp only [treeB, Bool.and_eq_true, beq_iff_eq]
  refine ⟨⟨?_, hlen⟩, hhead⟩
  simp only [okTo, List.all_eq_true, List.mem_range]
  intro i hi
  simp only [stepB, Bool.and_eq_true]
  refine ⟨⟨⟨?_, ?_⟩, ?_⟩, ?_⟩
  · have hd := dep_le h.rise h.rk h.nd hi
    unfold rokB rowB
    rcases h.rk _ (rat_in hi) with ⟨a, b, c⟩ | ⟨a, b, c, d⟩
    · rw [if_pos a]; simp [b, c]
    · rw [if_neg (by rw [a]; simp), b, d, (inB_iff _ _ _).2 ⟨c, hd⟩]; rfl
  · have := rise_at h.rise i hi
    unfold riseB
    by_cases e : i = 0
    · simp [e]
    · rw [if_neg e] at this
      simp [this]
  · unfold rordB
    cases hr : rootB (rat l i).id
    · rfl
    · simp [hroot i hi hr]
  · rw [freshTo_iff]
    intro j hj
    have hn := h.nd
    rw [List.nodup_iff_pairwise_ne, List.pairwise_iff_getElem] at hn
    have := hn j i (by simp; omega) (by simpa using hi) hj
    simp only [List.getElem_map] at this
    rw [rat_lt (show j < l.length by omega), rat_lt hi]
    exact this
end Go.Proofs.YtclhjgcapalniaaDoor
/-
  Plain mathematics: whatever is changed, an outline stays one. Nothing of the program is run here. Conditions: none beyond the lemmas' own premises.
-/
namespace Go.Proofs.YtclhjgcapalniaaDoor

theorem rise_head : ∀ {l : List RowD} {d e : Int}, Rise d l → (∀ r, l.head? = some r → r.dep ≤ e) → Rise e l
  | [], _, _, _, _ => trivial
  | r :: _, _, _, h, he => ⟨he r rfl, h.2⟩
theorem rise_shift (D : Int) : ∀ {l : List RowD} {d : Int}, Rise d l → Rise (d + D) (l.map (shiftR D))
  | [], _, _ => trivial
  | r :: l, d, h => by
    refine ⟨?_, ?_⟩
    · show r.dep + D ≤ d + D
      have := h.1; omega
    · have := rise_shift D h.2
      show Rise (r.dep + D + 1) _
      rw [show r.dep + D + 1 = r.dep + 1 + D by omega]; exact this
theorem nextD_ge {c : Int} : ∀ {l : List RowD} {d : Int}, (∀ r ∈ l, c ≤ r.dep) → l ≠ [] → c + 1 ≤ nextD d l
  | [], _, _, h => absurd rfl h
  | [r], _, h, _ => by have := h r (by simp); simp only [nextD]; omega
  | r :: s :: l, d, h, _ => by
    have := nextD_ge (c := c) (l := s :: l) (d := r.dep + 1) (fun x hx => h x (List.mem_cons_of_mem _ hx)) (by simp)
    exact this
theorem rise_congr : ∀ {a b : List RowD} {d : Int}, a.map (·.dep) = b.map (·.dep) → Rise d a → Rise d b
  | [], [], _, _, _ => trivial
  | [], _ :: _, _, h, _ => by simp at h
  | _ :: _, [], _, h, _ => by simp at h
  | _ :: _, _ :: _, _, h, hr => by
    simp only [List.map_cons, List.cons.injEq] at h
    refine ⟨by rw [← h.1]; exact hr.1, ?_⟩
    rw [← h.1]; exact rise_congr h.2 hr.2
theorem rootsOf_ids (l : List RowD) : rootsOf l = (l.map (·.id)).filter rootB := by
  induction l with
  | nil => rfl
  | cons r l ih =>
    unfold rootsOf at ih ⊢
    cases h : rootB r.id
    · simp [h, ih]
    · simp [h, ih]
theorem setTxt_map {β : Type} {t : ByteArray} (g : RowD → β) (hg : ∀ r : RowD, g ⟨r.id, r.dep, t⟩ = g r) : ∀ (rs : List RowD) (k : Nat), (setTxt rs k t).map g = rs.map g
  | [], k => by simp [setTxt]
  | r :: rs, 0 => by simp [setTxt, hg]
  | r :: rs, k + 1 => by
    have ih := setTxt_map g hg rs k
    have e : setTxt (r :: rs) (k + 1) t = r :: setTxt rs k t := by simp [setTxt]
    rw [e, List.map_cons, List.map_cons, ih]
theorem nodup_mid {α : Type} {A X B : List α} (h : (A ++ B).Nodup) (hx : X.Nodup) (hd : ∀ x ∈ X, x ∉ A ++ B) : (A ++ X ++ B).Nodup := by
  simp only [List.nodup_append, List.mem_append, not_or] at *
  obtain ⟨a, b, c⟩ := h
  refine ⟨⟨a, hx, fun x h1 y h2 e => (hd y h2).1 (e ▸ h1)⟩, b, fun x h1 y h2 e => ?_⟩
  rcases h1 with h1 | h1
  · exact c x h1 y h2 e
  · exact (hd x h1).2 (e ▸ h2)
theorem TreeL.setTxt {rs : List RowD} (h : TreeL rs) {k : Nat} {t : ByteArray} (hk : madeB (rat rs k).id = true) (ht : textB t = true) : TreeL (setTxt rs k t) := by
  have hid := setTxt_map (t := t) (fun r => r.id) (fun _ => rfl) rs k
  have hdp := setTxt_map (t := t) (fun r => r.dep) (fun _ => rfl) rs k
  refine ⟨fun r hr => ?_, ?_, ?_, ?_⟩
  · obtain ⟨i, hi, e⟩ := mem_rat hr
    have hi' : i < rs.length := by simpa [Go.Proofs.YtclhjgcapalniaaDoor.setTxt] using hi
    rw [rat_setTxt hi'] at e
    have g := h.rk _ (rat_in hi')
    by_cases ek : i = k
    · subst ek
      rw [if_pos rfl] at e
      rcases g with ⟨g1, _⟩ | ⟨g1, g2, g3, _⟩
      · have := (rootB_iff _).1 g1
        have := (madeB_iff _).1 hk
        omega
      · rw [← e]; exact .inr ⟨g1, g2, g3, ht⟩
    · rw [if_neg ek] at e
      rw [← e]; exact g
  · rw [hid]; exact h.nd
  · exact rise_congr hdp.symm h.rise
  · rw [rootsOf_ids, hid, ← rootsOf_ids]; exact h.roots
theorem rk_dep {r : RowD} (h : Rk r) : 0 ≤ r.dep := by rcases h with h | h <;> omega
theorem take_last {l : List RowD} {P : Nat} (h1 : 1 ≤ P) (h2 : P ≤ l.length) (d : Int) : nextD d (l.take P) = (rat l (P - 1)).dep + 1 := by
  obtain ⟨q, rfl⟩ : ∃ q, P = q + 1 := ⟨P - 1, by omega⟩
  rw [List.take_succ_eq_append_getElem (show q < l.length by omega), nextD_snoc, Nat.add_sub_cancel, rat_lt (show q < l.length by omega)]
theorem drop_head {l : List RowD} {P : Nat} {r : RowD} (h : (l.drop P).head? = some r) : P < l.length ∧ r = rat l P := by
  have hP : P < l.length := by
    rcases Nat.lt_or_ge P l.length with g | g
    · exact g
    · rw [List.drop_of_length_le g] at h; cases h
  rw [List.drop_eq_getElem_cons hP] at h
  simp only [List.head?_cons, Option.some.injEq] at h
  exact ⟨hP, by rw [rat_lt hP, h]⟩
theorem put_treeL {rest rows : List RowD} {up at' : Int} (h : TreeL rest) (hu : atN rest up < rest.length) (ha : 0 < at' → atN rest at' < rest.length ∧ rdep rest (atN rest at') = rdep rest (atN rest up) + 1)
    (hr0 : 0 < rows.length) (hrs : Rise (rdep rows 0) rows) (hge : ∀ r ∈ rows, rdep rows 0 ≤ r.dep) (hmk : ∀ r ∈ rows, rootB r.id = false ∧ madeB r.id = true ∧ textB r.txt = true) (hnd : (rows.map (·.id)).Nodup) (hdj : ∀ r ∈ rows, ∀ s ∈ rest, r.id ≠ s.id) :
    TreeL (putR rest rows up at') := by
  obtain ⟨p1, p2⟩ := placeN_bd hu (fun g => (ha g).1)
  have hlast : rdep rest (atN rest up) ≤ rdep rest (placeN rest up at' - 1) := by
    unfold placeN
    split
    · rename_i g
      obtain ⟨a1, a2⟩ := ha g
      obtain ⟨e1, e2, e3, e4⟩ := en_spec (D := rdep rest) a1
      have e' : enR rest (atN rest at') = en (rdep rest) rest.length (atN rest at') := rfl
      by_cases q : enR rest (atN rest at') - 1 = atN rest at'
      · rw [q]; omega
      · have := e3 (enR rest (atN rest at') - 1) (by omega) (by omega)
        omega
    · rw [Nat.add_sub_cancel]; exact Int.le_refl _
  have hnext : ∀ r, (rest.drop (placeN rest up at')).head? = some r → r.dep ≤ rdep rest (atN rest up) + 1 := by
    intro r hr
    obtain ⟨hP, rfl⟩ := drop_head hr
    unfold placeN at hP ⊢
    split
    · rename_i g
      rw [if_pos g] at hP
      obtain ⟨a1, a2⟩ := ha g
      obtain ⟨e1, e2, e3, e4⟩ := en_spec (D := rdep rest) a1
      have := e4 hP
      show rdep rest (enR rest (atN rest at')) ≤ _
      have e' : enR rest (atN rest at') = en (rdep rest) rest.length (atN rest at') := rfl
      rw [e']; omega
    · rename_i g
      rw [if_neg g] at hP
      have := rise_at h.rise (atN rest up + 1) hP
      rw [if_neg (by omega), Nat.add_sub_cancel] at this
      exact this
  have hup0 : 0 ≤ rdep rest (atN rest up) := rk_dep (h.rk _ (rat_in hu))
  have hrest : rest = rest.take (placeN rest up at') ++ rest.drop (placeN rest up at') := (List.take_append_drop _ _).symm
  have hRise := h.rise
  rw [hrest, rise_app, take_last p1 p2] at hRise
  unfold putR
  have hD : deepI' rest rows up = rdep rest (atN rest up) + 1 - rdep rows 0 := rfl
  generalize deepI' rest rows up = D at *
  generalize hP : placeN rest up at' = P at *
  have hsh : ∀ r ∈ rows.map (shiftR D), rdep rest (atN rest up) + 1 ≤ r.dep := fun r hr => by
    obtain ⟨s, hs, rfl⟩ := List.mem_map.1 hr
    have := hge s hs
    show _ ≤ s.dep + D
    omega
  refine ⟨fun r hr => ?_, ?_, ?_, ?_⟩
  · rcases List.mem_append.1 hr with hr | hr
    · rcases List.mem_append.1 hr with hr | hr
      · exact h.rk _ (List.mem_of_mem_take hr)
      · have hd := hsh r hr
        obtain ⟨s, hs, rfl⟩ := List.mem_map.1 hr
        obtain ⟨m1, m2, m3⟩ := hmk s hs
        exact .inr ⟨m1, m2, by omega, m3⟩
    · exact h.rk _ (List.mem_of_mem_drop hr)
  · rw [List.map_append, List.map_append]
    have e : (rows.map (shiftR D)).map (fun r => r.id) = rows.map (fun r => r.id) := by rw [List.map_map]; rfl
    rw [e]
    refine nodup_mid ?_ hnd (fun x hx hm => ?_)
    · rw [← List.map_append, List.take_append_drop]; exact h.nd
    · rw [← List.map_append, List.take_append_drop] at hm
      obtain ⟨r, hr, rfl⟩ := List.mem_map.1 hx
      obtain ⟨s, hs, e⟩ := List.mem_map.1 hm
      exact hdj r hr s hs e.symm
  · rw [rise_app, rise_app, take_last p1 p2]
    refine ⟨⟨hRise.1, (rise_shift D hrs).mono ?_⟩, ?_⟩
    · have : rdep rest (P - 1) = (rat rest (P - 1)).dep := rfl
      omega
    · rw [nextD_app, take_last p1 p2]
      refine (rise_head hRise.2 hnext).mono ?_
      have hne : rows.map (shiftR D) ≠ [] := by
        intro e
        have e2 := congrArg List.length e
        rw [List.length_map, List.length_nil] at e2
        omega
      have := nextD_ge (d := (rat rest (P - 1)).dep + 1) hsh hne
      omega
  · have e : rootsOf (rows.map (shiftR D)) = [] := by
      rw [rootsOf_ids, List.filter_eq_nil_iff]
      intro x hx
      obtain ⟨r, hr, rfl⟩ := List.mem_map.1 hx
      obtain ⟨s, hs, rfl⟩ := List.mem_map.1 hr
      have := (hmk s hs).1
      show ¬ rootB s.id = true
      rw [this]; simp
    rw [rootsOf_app, rootsOf_app, e, List.append_nil, ← rootsOf_app, List.take_append_drop]; exact h.roots
/-! ### taking out -/
theorem sub_mem {rs : List RowD} {k : Nat} (hk : k < rs.length) {r : RowD} (h : r ∈ subR rs k) : ∃ i, k ≤ i ∧ i < enR rs k ∧ r = rat rs i ∧ rdep rs k ≤ r.dep := by
  obtain ⟨e1, e2, e3, e4⟩ := en_spec (D := rdep rs) hk
  have e' : enR rs k = en (rdep rs) rs.length k := rfl
  unfold subR at h
  obtain ⟨j, hj, e⟩ := List.getElem_of_mem h
  simp only [List.length_take, List.length_drop] at hj
  rw [List.getElem_take, List.getElem_drop] at e
  refine ⟨k + j, by omega, by omega, by rw [rat_lt (by omega), e], ?_⟩
  rw [← e, ← rat_lt (show k + j < rs.length by omega)]
  by_cases q : j = 0
  · subst q; exact Int.le_refl _
  · have := e3 (k + j) (by omega) (by omega)
    show rdep rs k ≤ rdep rs (k + j)
    omega
theorem parts {rs : List RowD} {k : Nat} (hk : k < rs.length) : rs = rs.take k ++ (subR rs k ++ rs.drop (enR rs k)) := by
  obtain ⟨e1, e2, e3, e4⟩ := en_spec (D := rdep rs) hk
  have e' : enR rs k = en (rdep rs) rs.length k := rfl
  unfold subR
  have : (rs.drop k).take (enR rs k - k) ++ rs.drop (enR rs k) = rs.drop k := by
    have h1 : rs.drop (enR rs k) = (rs.drop k).drop (enR rs k - k) := by rw [List.drop_drop]; congr 1; omega
    rw [h1, List.take_append_drop]
  rw [this, List.take_append_drop]
theorem rest_treeL {rs : List RowD} (h : TreeL rs) {k : Nat} (hk : k < rs.length) (hm : rootB (rat rs k).id = false) : TreeL (restR rs k) := by
  obtain ⟨e1, e2, e3, e4⟩ := en_spec (D := rdep rs) hk
  have e' : enR rs k = en (rdep rs) rs.length k := rfl
  have hp := parts hk
  have hd1 : 1 ≤ rdep rs k := by
    rcases h.rk _ (rat_in hk) with g | g
    · rw [g.1] at hm; cases hm
    · exact g.2.2.1
  have hsub : rootsOf (subR rs k) = [] := by
    rw [rootsOf_ids, List.filter_eq_nil_iff]
    intro x hx
    obtain ⟨r, hr, rfl⟩ := List.mem_map.1 hx
    obtain ⟨i, _, _, e, hd⟩ := sub_mem hk hr
    rcases h.rk _ (mem_sub hr) with g | g
    · have := g.2.1; omega
    · rw [g.1]; simp
  refine ⟨fun r hr => h.rk _ (mem_rest hr), ?_, ?_, ?_⟩
  · have := h.nd
    rw [hp] at this
    unfold restR
    simp only [List.map_append, List.nodup_append, List.mem_append] at this ⊢
    exact ⟨this.1, this.2.1.2.1, fun x hx y hy => this.2.2 x hx y (.inr hy)⟩
  · have hr := h.rise
    rw [hp, rise_app, rise_app] at hr
    unfold restR
    rw [rise_app]
    refine ⟨hr.1, rise_head hr.2.2 (fun r hr' => ?_)⟩
    obtain ⟨hP, rfl⟩ := drop_head hr'
    have h1 := e4 (by omega)
    have h2 := rise_at h.rise k hk
    have h3 : rdep rs (enR rs k) ≤ rdep rs k := by rw [e']; exact h1
    have h4 : nextD 0 (rs.take k) = if k = 0 then 0 else (rat rs (k - 1)).dep + 1 := by
      by_cases q : k = 0
      · subst q; simp [nextD]
      · rw [if_neg q, take_last (by omega) (by omega)]
    rw [h4]
    exact Int.le_trans h3 h2
  · have hr := h.roots
    rw [hp, rootsOf_app, rootsOf_app, hsub, List.nil_append] at hr
    unfold restR
    rw [rootsOf_app]; exact hr
theorem sub_rise {rs : List RowD} (h : TreeL rs) {k : Nat} (hk : k < rs.length) : Rise (rdep (subR rs k) 0) (subR rs k) ∧ rdep (subR rs k) 0 = rdep rs k := by
  have hp := parts hk
  have hl := (rest_len hk).2
  have hr := h.rise
  rw [hp, rise_app, rise_app] at hr
  have h0 : rdep (subR rs k) 0 = rdep rs k := by
    unfold rdep subR
    rw [rat_drop_take rs k _ 0 (by unfold subR at hl; simp at hl; omega)]; rfl
  refine ⟨rise_head hr.2.1 (fun r hr' => ?_), h0⟩
  have : r = rat (subR rs k) 0 := by
    rw [rat_lt hl]
    rw [List.head?_eq_getElem?, List.getElem?_eq_getElem hl] at hr'
    exact (Option.some.inj hr').symm
  rw [this]; exact Int.le_refl _
theorem rest_dep {rs : List RowD} (ht : treeB rs = true) {k : Nat} {x : Int} (hx : atN (restR rs k) x < (restR rs k).length) : rdep (restR rs k) (atN (restR rs k) x) = rdep rs (atN rs x) := by
  obtain ⟨j, hj, e⟩ := mem_rat (mem_rest (rat_in hx))
  have hid := atN_id hx
  have : atN rs x = j := by
    have := (treeP_of ht).at_self hj
    rw [e, hid] at this; exact this
  unfold rdep
  rw [this, e]
/-- Whatever is changed, an outline stays one. -/
theorem do_tree {rs : List RowD} {o : OpD} (ht : treeB rs = true) (hk : opokB o = true) : treeB (doR rs o) = true := by
  have hL := treeL_of ht
  have hmd := opok_made hk
  rcases opok_kind hk with k | k | k
  · cases hn : noWhereB rs o
    · rw [doR_put k hn]
      have hnt : thereB rs o.id = false := by rw [← noWhere1 (rs := rs) k]; exact hn
      have htx : textB o.txt = true := by
        unfold opokB at hk; rw [if_pos k] at hk; simp only [Bool.and_eq_true] at hk; exact hk.2
      have hrt : rootB o.id = false := by rw [Bool.eq_false_iff]; intro g; have := (rootB_iff _).1 g; have := (madeB_iff _).1 hmd; omega
      refine tree_of (put_treeL hL (whereU_there hn (tree_three ht)) (fun g => ⟨whereA_there g, ?_⟩) (by simp) ⟨Int.le_refl _, trivial⟩ (by simp [rdep, rat]) (by simp [hrt, hmd, htx]) (by simp) ?_)
      · obtain ⟨g1, g2, g3, g4, g5⟩ := whereA_up ht hn g
        have hl := there_iff.1 g1
        have := par_dep (treeP_of ht).deps (show 1 ≤ atN rs (whereA rs o) + 1 by omega) (by omega)
        rw [g2] at this
        show dp rs (atN rs (whereA rs o) + 1) = dp rs (atN rs (whereU rs o) + 1) + 1
        omega
      · intro r hr s hs e
        simp only [List.mem_singleton] at hr
        subst hr
        have := mem_there hs
        rw [← e] at this
        simp only [thereB, decide_eq_false_iff_not] at hnt
        exact hnt this
    · rw [doR_no k hn]; exact ht
  · unfold doR
    rw [if_pos k]
    split
    · rename_i hi
      have htx : textB o.txt = true := by
        unfold opokB at hk; rw [if_neg (by omega), if_pos k] at hk; simp only [Bool.and_eq_true] at hk; exact hk.2
      exact tree_of (hL.setTxt (by rw [atN_id (there_iff.1 hi)]; exact hmd) htx)
    · exact ht
  · cases hn : noWhereB rs o
    · rw [doR_move k hn]
      have hno := noWhere3 (rs := rs) k
      rw [hn] at hno
      have hid : thereB rs o.id = true := by cases h : thereB rs o.id <;> simp [h] at hno ⊢
      have hil := there_iff.1 hid
      have hrt : rootB (rat rs (atN rs o.id)).id = false := by rw [atN_id hil, Bool.eq_false_iff]; intro g; have := (rootB_iff _).1 g; have := (madeB_iff _).1 hmd; omega
      obtain ⟨t1, t2⟩ := rest_there ht k hmd hn
      obtain ⟨s1, s2⟩ := sub_rise hL hil
      have hd1 : 1 ≤ rdep rs (atN rs o.id) := by
        rcases hL.rk _ (rat_in hil) with g | g
        · rw [g.1] at hrt; cases hrt
        · exact g.2.2.1
      have hp := parts hil
      have hnd := hL.nd
      rw [hp] at hnd
      simp only [List.map_append, List.nodup_append, List.mem_append] at hnd
      refine tree_of (put_treeL (rest_treeL hL hil hrt) t1 (fun g => ⟨t2 g, ?_⟩) (rest_len hil).2 s1 (fun r hr => ?_) (fun r hr => ?_) hnd.2.1.1 (fun r hr s hs e => ?_))
      · rw [rest_dep ht (t2 g), rest_dep ht t1]
        obtain ⟨g1, g2, g3, g4, g5⟩ := whereA_up ht hn g
        have hl := there_iff.1 g1
        have := par_dep (treeP_of ht).deps (show 1 ≤ atN rs (whereA rs o) + 1 by omega) (by omega)
        rw [g2] at this
        show dp rs (atN rs (whereA rs o) + 1) = dp rs (atN rs (whereU rs o) + 1) + 1
        omega
      · rw [s2]; obtain ⟨_, _, _, _, hd⟩ := sub_mem hil hr; exact hd
      · obtain ⟨_, _, _, _, hd⟩ := sub_mem hil hr
        rcases hL.rk _ (mem_sub hr) with g | g
        · have := g.2.1; omega
        · exact ⟨g.1, g.2.1, g.2.2.2⟩
      · have m1 : r.id ∈ (subR rs (atN rs o.id)).map (·.id) := List.mem_map.2 ⟨r, hr, rfl⟩
        rcases List.mem_append.1 hs with q | q
        · exact hnd.2.2 s.id (List.mem_map.2 ⟨s, q, rfl⟩) r.id (.inl m1) e.symm
        · exact hnd.2.1.2.2 r.id m1 s.id (List.mem_map.2 ⟨s, q, rfl⟩) e
    · unfold doR; rw [if_neg (by omega), hn]; simp only [if_true]; exact ht
end Go.Proofs.YtclhjgcapalniaaDoor
/-
  The walk of the law FnExactTreeNew out of the contracts: the three roots are made anew by each call. Conditions: none.
-/
namespace Go.Proofs.YtclhjgcapalniaaDoor
open Go.ChangeShapes Go.WideShapes Go.ChangeAt Go.RowKit Go.Joins

def r3 : List RowD := [⟨1, 0, ⟨#[]⟩⟩, ⟨2, 0, ⟨#[]⟩⟩, ⟨3, 0, ⟨#[]⟩⟩]
def c3 : Array Value := #[.int .i64 1, .int .i64 0, .string ⟨#[]⟩, .int .i64 2, .int .i64 0, .string ⟨#[]⟩, .int .i64 3, .int .i64 0, .string ⟨#[]⟩]
theorem own_r3 (w : World) : OwnRows (w.alloc (.cells c3 39)) w.heap.size r3 := by
  refine ⟨fun i => c3.getD i undef, ⟨c3, heap_alloc_new _ _, rfl, fun i hi => ?_⟩, fun i hi => ?_⟩
  · have h9 : c3.size = 9 := rfl
    have hi' : i < 9 := hi
    rw [Array.getElem?_eq_getElem (by omega)]; simp [Array.getD, h9, hi']
  · have hi' : i < 3 := hi
    rcases i with _ | _ | _ | i
    · exact ⟨rfl, rfl, rfl⟩
    · exact ⟨rfl, rfl, rfl⟩
    · exact ⟨rfl, rfl, rfl⟩
    · omega
theorem specNew_ex (w : World) : Calls Tryd.prog 60 #[] w (RetRows r3 w) := by
  go_enter Tryd.func60, Tryd.ntmps60
  go_wp2
  go_ret
  exact ⟨w.heap.size, rfl, Nat.le_refl _, own_r3 w, (Below.refl _ _).alloc (Nat.le_refl _) _⟩
theorem implNew_ex (w : World) : Calls Tryd.prog 21 #[] w (RetRows r3 w) := by
  go_enter Tryd.func21, Tryd.ntmps21
  go_wp2
  go_ret
  exact ⟨w.heap.size, rfl, Nat.le_refl _, own_r3 w, (Below.refl _ _).alloc (Nat.le_refl _) _⟩
theorem OwnRows.but {w w' : World} {g b : Nat} {rs : List RowD} (h : OwnRows w g rs) (hb : But b w.heap.size w w') (hg : g ≠ b) : OwnRows w' g rs := by
  obtain ⟨f, h1, h2⟩ := h
  exact ⟨f, h1.of_block (hb.block g h1.lt hg), h2⟩
end Go.Proofs.YtclhjgcapalniaaDoor
/-
  Plain mathematics of the outline behind the entries of a log. Nothing of the program is run here. Conditions: none beyond the lemmas' own premises.
-/
namespace Go.Proofs.YtclhjgcapalniaaDoor
open Go.RowKit

theorem tree_fits {rs : List RowD} (h : treeB rs = true) : Fit rs := by
  have hl := tree_len h
  refine ⟨by omega, fun i hi => ?_⟩
  unfold I64 maxLen
  rcases rok_cases ((treeP_of h).rok i hi) with ⟨h1, h2, h3⟩ | ⟨_, h2, h3, h4, h5⟩
  · have := (rootB_iff _).1 h1
    have h6 := textB_nil (t := (rat rs i).txt) (by rw [beq_iff_eq]; exact List.isEmpty_iff.1 h3)
    simp only [textB, Bool.and_eq_true, decide_eq_true_eq] at h6
    omega
  · have := (madeB_iff _).1 h2
    simp only [textB, Bool.and_eq_true, decide_eq_true_eq] at h5
    omega
/-- The outline behind the first k entries, from t0 on. -/
def treeFrom (t0 : List RowD) (es : List EntD) : Nat → List RowD
  | 0 => t0
  | k + 1 => doR (treeFrom t0 es k) (eat es k).op
def treeTo (es : List EntD) (k : Nat) : List RowD := treeFrom r3 es k
def ltree (es : List EntD) : List RowD := if logB es then treeTo es es.length else []
theorem tree_r3 : treeB r3 = true := by decide +kernel
theorem treeFrom_ok {t0 : List RowD} {es : List EntD} (h0 : treeB t0 = true) : ∀ {k : Nat}, (∀ i, i < k → opokB (eat es i).op = true) → treeB (treeFrom t0 es k) = true
  | 0, _ => h0
  | k + 1, h => do_tree (treeFrom_ok h0 (fun i hi => h i (by omega))) (h k (by omega))
theorem log_ops {es : List EntD} {k : Nat} (h : logTo es k = true) : ∀ i, i < k → opokB (eat es i).op = true := fun _ hi => ent_op (log_ent h hi)
theorem treeTo_ok {es : List EntD} {k : Nat} (h : logTo es k = true) : treeB (treeTo es k) = true := treeFrom_ok tree_r3 (log_ops h)
theorem doT_ok {rs : List RowD} {o : OpD} (h : treeB rs = true) (ho : opokB o = true) : doT rs o = doR rs o := by unfold doT; rw [h, ho]; rfl
theorem treeFrom_congr {t0 : List RowD} {es fs : List EntD} : ∀ {k : Nat}, (∀ i, i < k → eat es i = eat fs i) → treeFrom t0 es k = treeFrom t0 fs k
  | 0, _ => rfl
  | k + 1, h => by
    show doR _ _ = doR _ _
    rw [treeFrom_congr (fun i hi => h i (by omega)), h k (by omega)]
theorem ltree_ok {es : List EntD} (h : logB es = true) : ltree es = treeTo es es.length ∧ treeB (ltree es) = true := by
  have e : ltree es = treeTo es es.length := by unfold ltree; rw [h]; rfl
  exact ⟨e, by rw [e]; exact treeTo_ok (logB_to h).1⟩
theorem ltree_no {es : List EntD} (h : logB es = false) : ltree es = [] := by unfold ltree; rw [h]; rfl
theorem ltree_len (es : List EntD) : (ltree es).length ≤ 100 := by
  cases h : logB es
  · rw [ltree_no h]; simp
  · have := tree_len (ltree_ok h).2; omega
/-- An entry more is a change more. -/
theorem ltree_snoc {es : List EntD} {e : EntD} (h : logB es = true) (he : entB e = true) (hn : nextB es e = true) : ltree (es ++ [e]) = doR (ltree es) e.op := by
  have h2 := logB_snoc h he hn
  rw [(ltree_ok h).1, (ltree_ok h2).1]
  unfold treeTo
  rw [List.length_append, List.length_singleton]
  show doR _ _ = _
  rw [eat_app_last, treeFrom_congr (fs := es) (fun i hi => eat_app_left hi)]
end Go.Proofs.YtclhjgcapalniaaDoor
/-
  Contracts of the model's l12Tree and LogTree and of the program's LogTree. Conditions: as each theorem says.
-/
namespace Go.Proofs.YtclhjgcapalniaaDoor
open Go.ChangeShapes Go.WideShapes Go.ChangeAt Go.RowKit Go.Joins

theorem implNew_own (w : World) : Calls Tryd.prog 21 #[] w (RetOwn r3 w) := by
  go_enter Tryd.func21, Tryd.ntmps21
  go_wp2
  go_ret
  exact ⟨_, 3, rfl, ⟨rfl, .inr ⟨w.heap.size, 3, c3, rfl, Nat.le_refl _, heap_alloc_new _ _, Nat.le_refl _, by unfold maxLen; omega, rfl, rfl⟩⟩, Nat.le_refl _, (Below.refl _ _).alloc (Nat.le_refl _) _⟩
theorem specNew_own (w : World) : Calls Tryd.prog 60 #[] w (RetOwn r3 w) := by
  go_enter Tryd.func60, Tryd.ntmps60
  go_wp2
  go_ret
  exact ⟨_, 3, rfl, ⟨rfl, .inr ⟨w.heap.size, 3, c3, rfl, Nat.le_refl _, heap_alloc_new _ _, Nat.le_refl _, by unfold maxLen; omega, rfl, rfl⟩⟩, Nat.le_refl _, (Below.refl _ _).alloc (Nat.le_refl _) _⟩
set_option maxRecDepth 100000 in
set_option maxHeartbeats 2000000 in
theorem l12Tree_any (B : Nat) (ta a : Option Addr) (tc cap : Nat) (t0 : List RowD) (es : List EntD) (w : World) (hB : B ≤ w.heap.size) (ht : RowsAt w.heap.size w ta t0) (hta : t0.length ≤ tc) (htc : tc ≤ maxLen) (htb : treeB t0 = true) (h : EntsAt B w a es) (hf : EntsFit es) (ho : ∀ i, i < es.length → opokB (eat es i).op = true) :
    Calls Tryd.prog 59 #[.slice ta t0.length tc, .slice a es.length cap] w (RetOwn (treeFrom t0 es es.length) w) := by
  obtain ⟨i0, hi, hz0, hz1, hz2⟩ := info_parts infoRow
  have hl := hf.1
  have HO := Lib.hid ho
  have HTB := Lib.hid htb
  clear ho htb
  go_enter Tryd.func59, Tryd.ntmps59
  go_wp2_with fail
  go_loopw [0, 5] (fun p t wr => ∃ (k : Nat) (xa : Option Addr) (xc : Nat) (rs : List RowD), k ≤ es.length ∧ t = .int .i64 k ∧ p = .slice xa rs.length xc ∧ Hid (rs = treeFrom t0 es k) ∧ RowsAt wr.heap.size wr xa rs ∧ rs.length ≤ xc ∧ xc ≤ maxLen ∧ Below w.heap.size w wr) (fun _ t _ => es.length - (intOf t).toNat)
  case atStart => exact ⟨0, ta, tc, t0, Nat.zero_le _, rfl, rfl, rfl, ht, hta, htc, Below.refl _ _⟩
  case round =>
    obtain ⟨k, xa, xc, rs, hk, rfl, rfl, hrs, hrow, hx1, hx2, hb⟩ := hrel
    have hr := h.below (hb.mono hB)
    have HT : Hid (treeB rs = true) := by unfold Hid; rw [hrs.out]; exact treeFrom_ok HTB.out (fun i hi => HO.out i (by omega))
    by_cases hlt : k < es.length
    · have HN : Hid (doR rs (eat es k).op = treeFrom t0 es (k + 1)) := by unfold Hid; rw [hrs.out]; rfl
      have HC := Lib.hid (l3Do_any wr.heap.size xa xc rs (eat es k).op wr (Nat.le_refl _) hrow (tree_fits HT.out) hx1 hx2 HT.out (HO.out k hlt))
      obtain ⟨b, off, rfl, hbB, c0, c1, c2, c3, c4, c5, c6⟩ := hr.at_ hlt
      have i1 : (k : Int) < (es.length : Int) := by omega
      generalize doR rs (eat es k).op = res at *
      generalize eat es k = e at *
      clear hrs HT hr hrow
      go_wp2_with fail
      refine HC.out.mono ?_
      rintro _ w1 ⟨ya, yc, rfl, own1, hyc, hb1⟩
      have hat := rowsAt_own own1
      obtain ⟨q1, q2⟩ := own_capm own1
      clear own1 c0 c1 c2 c3 c4 c5 c6 HC
      go_wp2
      go_roundw
      case rel => exact ⟨k + 1, ya, yc, res, by omega, by go_num, rfl, HN, hat, q1, q2, hb.trans (hb1.mono hb.size)⟩
      case measure => simp [intOf]; omega
    · obtain rfl : k = es.length := by omega
      have hlen := tree_len HT.out
      have hpos : 0 < rs.length := by have := (treeP_of HT.out).len; omega
      obtain ⟨b, off, rfl, hbB, _⟩ := hrow.at_ hpos
      have hown0 := own_empty3 wr 39
      have hnews0 := RowsAt.news (s := 0) (n := rs.length) hrow (by omega)
      rw [Nat.zero_mul, Nat.add_zero, List.drop_zero, List.take_length] at hnews0
      have HNW := Lib.hid hnews0
      clear hnews0
      go_wp2_with (at_builtin; refine wpList_append_own _ rfl _ _ 23 rfl wr.heap.size 39 i0 (.agg #[.int .i64 0, .int .i64 0, .string ⟨#[]⟩]) 3 32 Tryd.underlying23 hi hz0 hz1 hz2 rfl (by decide) _ _ _ rfl hown0 ⟨b, off, none⟩ rs.length xc (cellsL rs) rfl ?c0 ?c1 ?c2 ?c3 ?c4 ?c5 ?_)
      case c0 => exact cellsL_len rs
      case c1 => intro j u hu; rw [World.cell?_alloc_lt _ _ _ (by rw [addr_add]; exact hbB)]; exact HNW.out j u hu
      case c2 => exact cellsL_plain _
      case c3 => unfold maxLen; omega
      case c4 => omega
      case c5 => simp
      intro v1 w1 own1 grow1 _
      have hb2 : Below wr.heap.size wr w1 := ((Below.refl _ wr).alloc (Nat.le_refl _) (.cells #[] 39)).grown grow1 (by simp) (own_block hown0)
      have own2 : w1.ownsRow wr.heap.size 39 3 v1 rs.length (cellsL rs) := by simpa using own1
      obtain ⟨va, vc, rfl, hvc⟩ := own_slice own2
      go_wp2
      go_ret
      rw [← hrs.out]
      exact ⟨va, vc, rfl, own_mono own2 hb.size, hvc, hb.trans (hb2.mono hb.size)⟩
set_option maxRecDepth 100000 in
theorem specLogTree_any (B : Nat) (a : Option Addr) (cap : Nat) (es : List EntD) (w : World) (hB : B ≤ w.heap.size) (h : EntsAt B w a es) (hf : EntsFit es) (hcap : es.length ≤ cap) (hcm : cap ≤ maxLen) :
    Calls Tryd.prog 25 #[.slice a es.length cap] w (RetOwn (ltree es) w) := by
  have HL := Lib.hid (specLogOk_any B a cap es w hB h hf hcap hcm)
  cases hlg : logB es
  · have HT := Lib.hid (ltree_no hlg)
    rw [hlg] at HL
    rw [HT.out]
    clear hlg
    go_enter Tryd.func25, Tryd.ntmps25
    go_wp2_with fail
    refine HL.out.mono ?_
    rintro _ w1 ⟨rfl, hb1⟩
    have ho := own_empty3 w1 39
    go_wp2
    go_ret
    exact ⟨_, _, rfl, own_mono ho hb1.size, Nat.le_refl _, hb1.alloc hb1.size _⟩
  · have HT : Hid (ltree es = treeFrom r3 es es.length) := (ltree_ok hlg).1
    have HO := Lib.hid (log_ops (logB_to hlg).1)
    rw [hlg] at HL
    rw [HT.out]
    clear hlg HT
    go_enter Tryd.func25, Tryd.ntmps25
    go_wp2_with fail
    refine HL.out.mono ?_
    rintro _ w1 ⟨rfl, hb1⟩
    go_wp2_with fail
    refine (specNew_own w1).mono ?_
    rintro _ w2 ⟨ya, yc, rfl, own2, hyc, hb2⟩
    have b2 := hb1.trans (hb2.mono hb1.size)
    have hat := rowsAt_own own2
    obtain ⟨q1, q2⟩ := own_capm own2
    have HC := Lib.hid (l12Tree_any B ya a yc cap r3 es w2 (Nat.le_trans hB b2.size) hat q1 q2 tree_r3 (h.below (b2.mono hB)) hf HO.out)
    have h3 : r3.length = 3 := rfl
    generalize treeFrom r3 es es.length = res at *
    rw [h3] at HC
    clear own2 hat HO
    go_wp2_with fail
    refine HC.out.mono ?_
    rintro _ w3 ⟨za, zc, rfl, own3, hzc, hb3⟩
    go_wp2
    go_ret
    exact ⟨za, zc, rfl, own_mono own3 b2.size, hzc, b2.trans (hb3.mono b2.size)⟩
set_option maxRecDepth 100000 in
set_option maxHeartbeats 2000000 in
theorem implLogTree_any (B : Nat) (a : Option Addr) (cap : Nat) (es : List EntD) (w : World) (hB : B ≤ w.heap.size) (h : EntsAt B w a es) (hf : EntsFit es) (ht : Tab w) :
    Calls Tryd.prog 23 #[.slice a es.length cap] w (RetOwn (ltree es) w) := by
  have hz := ht.pos
  have HL := Lib.hid (implLogOk_any B a cap es w hB h hf ht)
  cases hlg : logB es
  · have HT := Lib.hid (ltree_no hlg)
    rw [hlg] at HL
    rw [HT.out]
    clear hlg
    go_enter Tryd.func23, Tryd.ntmps23
    go_wp2_with fail
    refine HL.out.mono ?_
    rintro _ w1 ⟨rfl, hb1⟩
    go_wp2
    go_ret
    exact ⟨none, 0, rfl, ⟨rfl, .inl ⟨rfl, rfl⟩⟩, Nat.le_refl _, hb1⟩
  · have HT : Hid (ltree es = treeFrom r3 es es.length) := (ltree_ok hlg).1
    have HO := Lib.hid (log_ops (logB_to hlg).1)
    rw [hlg] at HL
    rw [HT.out]
    have hlen := (logB_to hlg).2
    clear hlg HT
    go_enter Tryd.func23, Tryd.ntmps23
    go_wp2_with fail
    refine HL.out.mono ?_
    rintro _ w1 ⟨rfl, hb1⟩
    go_wp2_with fail
    refine (implNew_own w1).mono ?_
    rintro _ w2 ⟨ya, yc, rfl, own2, hyc, hb2⟩
    have b2 := hb1.trans (hb2.mono hb1.size)
    go_wp2_with fail
    go_loopw [3, 12] (fun p t wr => ∃ (k : Nat) (xa : Option Addr) (xc : Nat) (rs : List RowD), k ≤ es.length ∧ t = .int .i64 k ∧ p = .slice xa rs.length xc ∧ Hid (rs = treeFrom r3 es k) ∧ wr.ownsRow w.heap.size 39 3 (.slice xa rs.length xc) rs.length (cellsL rs) ∧ rs.length ≤ xc ∧ Below w.heap.size w wr) (fun _ t _ => es.length - (intOf t).toNat)
    case atStart => exact ⟨0, ya, yc, r3, Nat.zero_le _, rfl, rfl, rfl, own_mono own2 hb1.size, hyc, b2⟩
    case round =>
      obtain ⟨k, xa, xc, rs, hk, rfl, rfl, hrs, hrow, hx1, hb⟩ := hrel
      have hr := h.below (hb.mono hB)
      by_cases hlt : k < es.length
      · have HTR : Hid (treeB rs = true) := by unfold Hid; rw [hrs.out]; exact treeFrom_ok tree_r3 (fun i hi => HO.out i (by omega))
        have HN : Hid (doT rs (eat es k).op = treeFrom r3 es (k + 1)) := by unfold Hid; rw [doT_ok HTR.out (HO.out k hlt), hrs.out]; rfl
        have hal : Below w.heap.size w (wr.alloc (.cells #[.int .i64 (eat es k).who, .int .i64 (eat es k).seq, .int .i64 (eat es k).op.kind, .int .i64 (eat es k).op.id, .int .i64 (eat es k).op.up, .int .i64 (eat es k).op.at_, .string (eat es k).op.txt] 64)) := hb.alloc hb.size _
        have hal2 : Below wr.heap.size wr (wr.alloc (.cells #[.int .i64 (eat es k).who, .int .i64 (eat es k).seq, .int .i64 (eat es k).op.kind, .int .i64 (eat es k).op.id, .int .i64 (eat es k).op.up, .int .i64 (eat es k).op.at_, .string (eat es k).op.txt] 64)) := (Below.refl _ _).alloc (Nat.le_refl _) _
        have HC := Lib.hid (implOpDo_any wr.heap.size xa xc rs (eat es k).op (wr.alloc (.cells #[.int .i64 (eat es k).who, .int .i64 (eat es k).seq, .int .i64 (eat es k).op.kind, .int .i64 (eat es k).op.id, .int .i64 (eat es k).op.up, .int .i64 (eat es k).op.at_, .string (eat es k).op.txt] 64)) hal2.size ((rowsAt_own hrow).below hal2) (tree_fits HTR.out) (hf.2 k hlt).op (ht.below hal hz))
        obtain ⟨b, off, rfl, hbB, c0, c1, c2, c3, c4, c5, c6⟩ := hr.at_ hlt
        have i1 : (k : Int) < (es.length : Int) := by omega
        generalize doT rs (eat es k).op = res at *
        generalize eat es k = e at *
        clear hrs HTR hr hrow hal2
        go_wp2_with fail
        refine HC.out.mono ?_
        rintro _ w3 ⟨za, zc, rfl, own3, hzc, hb3⟩
        have own3' := own_mono own3 hal.size
        have b3 := hal.trans (hb3.mono hal.size)
        clear own3 c0 c1 c2 c3 c4 c5 c6 HC hal hb3
        go_wp2
        go_roundw
        case rel => exact ⟨k + 1, za, zc, res, by omega, by go_num, rfl, HN, own3', hzc, b3⟩
        case measure => simp [intOf]; omega
      · obtain rfl : k = es.length := by omega
        go_wp2
        go_ret
        rw [← hrs.out]
        exact ⟨xa, xc, rfl, hrow, hx1, hb⟩
end Go.Proofs.YtclhjgcapalniaaDoor
