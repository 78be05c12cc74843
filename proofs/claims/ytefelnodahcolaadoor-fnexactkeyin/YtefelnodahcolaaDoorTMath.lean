/-
  Plain mathematics of outlines: lists of rows with depths, parents, ends of subtrees, first, next and last children. Nothing of the program is named here. Conditions: none beyond the lemmas' own premises.
-/
namespace Go.Proofs.YtefelnodahcolaaDoor

/-! ### searches -/
def fstFrom (p : Nat → Bool) : Nat → Nat → Nat
  | 0, s => s
  | k + 1, s => if p s then s else fstFrom p k (s + 1)
theorem fstFrom_ge (p : Nat → Bool) : ∀ k s, s ≤ fstFrom p k s
  | 0, s => Nat.le_refl _
  | k + 1, s => by
    unfold fstFrom; split
    · exact Nat.le_refl _
    · exact Nat.le_trans (Nat.le_succ s) (fstFrom_ge p k (s + 1))
theorem fstFrom_le (p : Nat → Bool) : ∀ k s, fstFrom p k s ≤ s + k
  | 0, s => Nat.le_refl _
  | k + 1, s => by
    unfold fstFrom; split
    · omega
    · have := fstFrom_le p k (s + 1); omega
theorem fstFrom_not (p : Nat → Bool) : ∀ k s j, s ≤ j → j < fstFrom p k s → p j = false
  | 0, s, j, h1, h2 => by unfold fstFrom at h2; omega
  | k + 1, s, j, h1, h2 => by
    unfold fstFrom at h2; split at h2
    · omega
    · rename_i hp
      by_cases e : j = s
      · subst e; simpa using hp
      · exact fstFrom_not p k (s + 1) j (by omega) h2
theorem fstFrom_yes (p : Nat → Bool) : ∀ k s, fstFrom p k s < s + k → p (fstFrom p k s) = true
  | 0, s, h => by unfold fstFrom at h; omega
  | k + 1, s, h => by
    unfold fstFrom at h ⊢; split at h
    · rename_i hp; rw [if_pos hp]; exact hp
    · rename_i hp; rw [if_neg hp]; exact fstFrom_yes p k (s + 1) (by omega)
theorem fstFrom_uniq (p : Nat → Bool) (k s e : Nat) (h1 : s ≤ e) (h2 : e ≤ s + k) (h3 : ∀ j, s ≤ j → j < e → p j = false) (h4 : e < s + k → p e = true) : fstFrom p k s = e := by
  have a := fstFrom_ge p k s
  have b := fstFrom_le p k s
  rcases Nat.lt_trichotomy (fstFrom p k s) e with h | h | h
  · have c := fstFrom_yes p k s (by omega)
    rw [h3 _ a h] at c; cases c
  · exact h
  · have c := fstFrom_not p k s e h1 h
    rw [h4 (by omega)] at c; cases c

def lstBelow (p : Nat → Bool) : Nat → Option Nat
  | 0 => none
  | k + 1 => if p k then some k else lstBelow p k
theorem lstBelow_some (p : Nat → Bool) : ∀ k j, lstBelow p k = some j → j < k ∧ p j = true ∧ ∀ i, j < i → i < k → p i = false
  | 0, j, h => by cases h
  | k + 1, j, h => by
    unfold lstBelow at h; split at h
    · rename_i hp; cases h; exact ⟨Nat.lt_succ_self _, hp, fun i h1 h2 => by omega⟩
    · rename_i hp
      obtain ⟨a, b, c⟩ := lstBelow_some p k j h
      refine ⟨by omega, b, fun i h1 h2 => ?_⟩
      by_cases e : i = k
      · subst e; simpa using hp
      · exact c i h1 (by omega)
theorem lstBelow_none (p : Nat → Bool) : ∀ k, lstBelow p k = none → ∀ i, i < k → p i = false
  | 0, _, i, hi => by omega
  | k + 1, h, i, hi => by
    unfold lstBelow at h; split at h
    · cases h
    · rename_i hp
      by_cases e : i = k
      · subst e; simpa using hp
      · exact lstBelow_none p k h i (by omega)
theorem lstBelow_mk (p : Nat → Bool) (k j : Nat) (h1 : j < k) (h2 : p j = true) (h3 : ∀ i, j < i → i < k → p i = false) : lstBelow p k = some j := by
  cases h : lstBelow p k with
  | none => rw [lstBelow_none p k h j h1] at h2; cases h2
  | some l =>
    obtain ⟨a, b, c⟩ := lstBelow_some p k l h
    rcases Nat.lt_trichotomy l j with e | e | e
    · rw [c j e h1] at h2; cases h2
    · rw [e]
    · rw [h3 l e a] at b; cases b
theorem lstBelow_mk_none (p : Nat → Bool) (k : Nat) (h : ∀ i, i < k → p i = false) : lstBelow p k = none := by
  cases e : lstBelow p k with
  | none => rfl
  | some l => obtain ⟨a, b, _⟩ := lstBelow_some p k l e; rw [h l a] at b; cases b
theorem lstBelow_congr (p q : Nat → Bool) (k : Nat) (h : ∀ i, i < k → p i = q i) : lstBelow p k = lstBelow q k := by
  induction k with
  | zero => rfl
  | succ k ih => unfold lstBelow; rw [h k (by omega), ih (fun i hi => h i (by omega))]

def fstBelow (p : Nat → Bool) : Nat → Option Nat
  | 0 => none
  | k + 1 => match fstBelow p k with
    | some j => some j
    | none => if p k then some k else none
theorem fstBelow_some (p : Nat → Bool) : ∀ k j, fstBelow p k = some j → j < k ∧ p j = true ∧ ∀ i, i < j → p i = false
  | 0, j, h => by cases h
  | k + 1, j, h => by
    unfold fstBelow at h
    cases e : fstBelow p k with
    | some l =>
      rw [e] at h; cases h
      obtain ⟨a, b, c⟩ := fstBelow_some p k j e
      exact ⟨by omega, b, c⟩
    | none =>
      rw [e] at h; simp only at h
      split at h
      · rename_i hp; cases h
        refine ⟨by omega, hp, fun i hi => ?_⟩
        have : ∀ k, fstBelow p k = none → ∀ i, i < k → p i = false := by
          intro k; induction k with
          | zero => intro _ i hi; omega
          | succ k ih =>
            intro h i hi
            unfold fstBelow at h
            cases e : fstBelow p k with
            | some l => rw [e] at h; cases h
            | none =>
              rw [e] at h; simp only at h
              split at h
              · cases h
              · rename_i hp
                by_cases ei : i = k
                · subst ei; simpa using hp
                · exact ih e i (by omega)
        exact this _ e i hi
      · cases h
theorem fstBelow_none (p : Nat → Bool) : ∀ k, fstBelow p k = none → ∀ i, i < k → p i = false
  | 0, _, i, hi => by omega
  | k + 1, h, i, hi => by
    unfold fstBelow at h
    cases e : fstBelow p k with
    | some l => rw [e] at h; cases h
    | none =>
      rw [e] at h; simp only at h
      split at h
      · cases h
      · rename_i hp
        by_cases ei : i = k
        · subst ei; simpa using hp
        · exact fstBelow_none p k e i (by omega)
theorem fstBelow_mk (p : Nat → Bool) (k j : Nat) (h1 : j < k) (h2 : p j = true) (h3 : ∀ i, i < j → p i = false) : fstBelow p k = some j := by
  cases h : fstBelow p k with
  | none => rw [fstBelow_none p k h j h1] at h2; cases h2
  | some l =>
    obtain ⟨a, b, c⟩ := fstBelow_some p k l h
    rcases Nat.lt_trichotomy l j with e | e | e
    · rw [h3 l e] at b; cases b
    · rw [e]
    · rw [c j e] at h2; cases h2
theorem fstBelow_mk_none (p : Nat → Bool) (k : Nat) (h : ∀ i, i < k → p i = false) : fstBelow p k = none := by
  cases e : fstBelow p k with
  | none => rfl
  | some l => obtain ⟨a, b, _⟩ := fstBelow_some p k l e; rw [h l a] at b; cases b

/-! ### a sequence of depths: place 0 is the top, at depth -1 -/
structure Deps (D : Nat → Int) (m : Nat) : Prop where
  pos : 1 ≤ m
  top : D 0 = -1
  low : ∀ i, 1 ≤ i → i < m → 0 ≤ D i
  step : ∀ i, 1 ≤ i → i < m → D i ≤ D (i - 1) + 1

def par (D : Nat → Int) (i : Nat) : Nat := (lstBelow (fun j => decide (D j < D i)) i).getD 0
def en (D : Nat → Int) (m i : Nat) : Nat := fstFrom (fun j => decide (D j ≤ D i)) (m - (i + 1)) (i + 1)
def isKid (D : Nat → Int) (p j : Nat) : Bool := decide (1 ≤ j) && (par D j == p)
def fi (D : Nat → Int) (m p : Nat) : Option Nat := fstBelow (isKid D p) m
def la (D : Nat → Int) (m p : Nat) : Option Nat := lstBelow (isKid D p) m
def nx (D : Nat → Int) (m i : Nat) : Option Nat := fstBelow (fun j => decide (i < j) && isKid D (par D i) j) m
def ah (D : Nat → Int) (i : Nat) : Option Nat := lstBelow (isKid D (par D i)) i

theorem isKid_iff {D : Nat → Int} {p j : Nat} : isKid D p j = true ↔ 1 ≤ j ∧ par D j = p := by simp [isKid]

theorem par_spec {D : Nat → Int} {m i : Nat} (h : Deps D m) (h1 : 1 ≤ i) (h2 : i < m) : par D i < i ∧ D (par D i) < D i ∧ ∀ j, par D i < j → j < i → D i ≤ D j := by
  unfold par
  cases e : lstBelow (fun j => decide (D j < D i)) i with
  | none =>
    have := lstBelow_none _ _ e 0 (by omega)
    have t := h.top
    have l := h.low i h1 h2
    simp at this; omega
  | some j =>
    obtain ⟨a, b, c⟩ := lstBelow_some _ _ _ e
    refine ⟨a, by simpa using b, fun l h3 h4 => ?_⟩
    have := c l h3 h4
    simpa using this
theorem par_uniq {D : Nat → Int} {i j : Nat} (h1 : j < i) (h2 : D j < D i) (h3 : ∀ l, j < l → l < i → D i ≤ D l) : par D i = j := by
  unfold par
  rw [lstBelow_mk _ i j h1 (by simpa using h2) (fun l a b => by simpa using h3 l a b)]
  rfl
theorem par_dep {D : Nat → Int} {m i : Nat} (h : Deps D m) (h1 : 1 ≤ i) (h2 : i < m) : D (par D i) = D i - 1 := by
  obtain ⟨a, b, c⟩ := par_spec h h1 h2
  by_cases e : par D i + 1 = i
  · have s := h.step i h1 h2
    rw [show i - 1 = par D i by omega] at s; omega
  · have s := h.step (par D i + 1) (by omega) (by omega)
    have d := c (par D i + 1) (by omega) (by omega)
    rw [show par D i + 1 - 1 = par D i by omega] at s; omega

theorem en_spec {D : Nat → Int} {m i : Nat} (hi : i < m) : i + 1 ≤ en D m i ∧ en D m i ≤ m ∧ (∀ j, i < j → j < en D m i → D i < D j) ∧ (en D m i < m → D (en D m i) ≤ D i) := by
  unfold en
  have a := fstFrom_ge (fun j => decide (D j ≤ D i)) (m - (i + 1)) (i + 1)
  have b := fstFrom_le (fun j => decide (D j ≤ D i)) (m - (i + 1)) (i + 1)
  refine ⟨a, by omega, fun j h1 h2 => ?_, fun h => ?_⟩
  · have := fstFrom_not _ _ _ j (by omega) h2
    simpa using this
  · have := fstFrom_yes (fun j => decide (D j ≤ D i)) (m - (i + 1)) (i + 1) (by omega)
    simpa using this
theorem en_uniq {D : Nat → Int} {m i e : Nat} (h1 : i + 1 ≤ e) (h2 : e ≤ m) (h3 : ∀ j, i < j → j < e → D i < D j) (h4 : e < m → D e ≤ D i) : en D m i = e := by
  unfold en
  exact fstFrom_uniq _ _ _ _ h1 (by omega) (fun j a b => by simpa using h3 j (by omega) b) (fun a => by simpa using h4 (by omega))
theorem en_top {D : Nat → Int} {m : Nat} (h : Deps D m) : en D m 0 = m :=
  en_uniq h.pos (Nat.le_refl _) (fun j a b => by have := h.low j (by omega) b; have := h.top; omega) (fun a => by omega)

/-- What stands between a row and one of its children is deeper than the row. -/
theorem par_in {D : Nat → Int} {m i : Nat} (h : Deps D m) (h1 : 1 ≤ i) (h2 : i < m) : i < en D m (par D i) := by
  obtain ⟨a, b, c⟩ := par_spec h h1 h2
  obtain ⟨e1, e2, e3, e4⟩ := en_spec (D := D) (m := m) (i := par D i) (by omega)
  rcases Nat.lt_or_ge i (en D m (par D i)) with g | g
  · exact g
  · have := e4 (by omega)
    by_cases q : en D m (par D i) = i
    · rw [q] at this; omega
    · have := c _ (show par D i < en D m (par D i) by omega) (by omega); omega
theorem kid_iff {D : Nat → Int} {m p j : Nat} (h : Deps D m) (hp : p < m) (hj : j < m) : isKid D p j = true ↔ (p < j ∧ j < en D m p ∧ D j = D p + 1) := by
  obtain ⟨e1, e2, e3, e4⟩ := en_spec (D := D) (m := m) (i := p) hp
  rw [isKid_iff]
  constructor
  · rintro ⟨h1, rfl⟩
    have a := par_spec h h1 hj
    have b := par_dep h h1 hj
    exact ⟨a.1, par_in h h1 hj, by omega⟩
  · rintro ⟨h1, h2, h3⟩
    refine ⟨by omega, par_uniq h1 (by omega) (fun l a b => ?_)⟩
    have := e3 l a (by omega); omega
/-- The subtree of a child ends within that of its parent. -/
theorem en_kid {D : Nat → Int} {m i : Nat} (h : Deps D m) (h1 : 1 ≤ i) (h2 : i < m) : en D m i ≤ en D m (par D i) := by
  obtain ⟨a, b, c⟩ := par_spec h h1 h2
  have b1 := par_dep h h1 h2
  have b2 := par_in h h1 h2
  obtain ⟨e1, e2, e3, e4⟩ := en_spec (D := D) (m := m) (i := par D i) (by omega)
  obtain ⟨f1, f2, f3, f4⟩ := en_spec (D := D) (m := m) (i := i) h2
  rcases Nat.lt_or_ge (en D m (par D i)) (en D m i) with g | g
  · have := f3 _ b2 g
    have := e4 (by omega); omega
  · exact g
theorem fi_eq {D : Nat → Int} {m p : Nat} (h : Deps D m) (hp : p < m) : fi D m p = if p + 1 < en D m p then some (p + 1) else none := by
  obtain ⟨e1, e2, e3, e4⟩ := en_spec (D := D) (m := m) (i := p) hp
  unfold fi
  split
  · rename_i g
    refine fstBelow_mk _ _ _ (by omega) ((kid_iff h hp (by omega)).2 ⟨by omega, g, ?_⟩) (fun i hi => ?_)
    · have s := h.step (p + 1) (by omega) (by omega)
      rw [show p + 1 - 1 = p by omega] at s
      have := e3 (p + 1) (by omega) g; omega
    · rw [Bool.eq_false_iff]; intro g2
      have := (kid_iff h hp (by omega)).1 g2; omega
  · rename_i g
    refine fstBelow_mk_none _ _ (fun i hi => ?_)
    rw [Bool.eq_false_iff]; intro g2
    have := (kid_iff h hp hi).1 g2; omega
theorem nx_eq {D : Nat → Int} {m c : Nat} (h : Deps D m) (h1 : 1 ≤ c) (h2 : c < m) : nx D m c = if en D m c < en D m (par D c) then some (en D m c) else none := by
  obtain ⟨a1, a2, a3⟩ := par_spec h h1 h2
  have b1 := par_dep h h1 h2
  have b2 := par_in h h1 h2
  obtain ⟨e1, e2, e3, e4⟩ := en_spec (D := D) (m := m) (i := par D c) (by omega)
  obtain ⟨f1, f2, f3, f4⟩ := en_spec (D := D) (m := m) (i := c) h2
  have hk := en_kid h h1 h2
  unfold nx
  split
  · rename_i g
    have g1 := f4 (by omega)
    have g2 := e3 _ (by omega) g
    refine fstBelow_mk _ _ _ (by omega) ?_ (fun i hi => ?_)
    · simp only [Bool.and_eq_true, decide_eq_true_eq]
      exact ⟨by omega, (kid_iff h (by omega) (by omega)).2 ⟨by omega, g, by omega⟩⟩
    · rw [Bool.eq_false_iff]; intro g3
      simp only [Bool.and_eq_true, decide_eq_true_eq] at g3
      have q := (kid_iff h (by omega) (by omega)).1 g3.2
      have := f3 i g3.1 hi; omega
  · rename_i g
    refine fstBelow_mk_none _ _ (fun i hi => ?_)
    rw [Bool.eq_false_iff]; intro g3
    simp only [Bool.and_eq_true, decide_eq_true_eq] at g3
    have q := (kid_iff h (by omega) (by omega)).1 g3.2
    have := f3 i g3.1 (by omega); omega

/-! ### adding one place -/
theorem la_succ (D : Nat → Int) (k q : Nat) (hk : 1 ≤ k) : la D (k + 1) q = if par D k = q then some k else la D k q := by
  unfold la
  rw [lstBelow]
  by_cases e : par D k = q
  · rw [if_pos (isKid_iff.2 ⟨hk, e⟩), if_pos e]
  · rw [if_neg (fun h => e (isKid_iff.1 h).2), if_neg e]
theorem ah_new (D : Nat → Int) (k : Nat) : ah D k = la D k (par D k) := rfl
theorem fi_succ (D : Nat → Int) (k q : Nat) (hk : 1 ≤ k) : fi D (k + 1) q = if par D k = q ∧ la D k q = none then some k else fi D k q := by
  unfold fi la
  rw [fstBelow]
  cases e : fstBelow (isKid D q) k with
  | some j =>
    obtain ⟨a, b, _⟩ := fstBelow_some _ _ _ e
    simp only
    rw [if_neg]
    rintro ⟨_, h⟩
    rw [lstBelow_none _ _ h j a] at b; cases b
  | none =>
    have n := fstBelow_none _ _ e
    rw [lstBelow_mk_none _ _ n]
    by_cases e : par D k = q
    · simp only [e, and_self, if_true]
      rw [if_pos (isKid_iff.2 ⟨hk, e⟩)]
    · simp only [e, false_and, if_false]
      rw [if_neg (fun h => e (isKid_iff.1 h).2)]
theorem nx_succ (D : Nat → Int) (k i : Nat) (hk : 1 ≤ k) (hi : 1 ≤ i) (hik : i < k) : nx D (k + 1) i = if la D k (par D k) = some i then some k else nx D k i := by
  unfold nx
  rw [fstBelow]
  cases e : fstBelow (fun j => decide (i < j) && isKid D (par D i) j) k with
  | some j =>
    obtain ⟨a, b, _⟩ := fstBelow_some _ _ _ e
    simp only [Bool.and_eq_true, decide_eq_true_eq, isKid_iff] at b
    simp only
    rw [if_neg]
    intro h
    obtain ⟨c1, c2, c3⟩ := lstBelow_some _ _ _ h
    have := c3 j b.1 a
    rw [Bool.eq_false_iff] at this
    exact this (isKid_iff.2 ⟨b.2.1, by rw [b.2.2]; exact (isKid_iff.1 c2).2⟩)
  | none =>
    have n := fstBelow_none _ _ e
    simp only
    by_cases e2 : par D i = par D k
    · have hl : la D k (par D k) = some i := by
        refine lstBelow_mk _ _ _ hik (isKid_iff.2 ⟨hi, e2⟩) (fun j a b => ?_)
        have := n j b
        rw [e2] at this
        simpa [a] using this
      rw [if_pos hl, if_pos]
      simp only [Bool.and_eq_true, decide_eq_true_eq]
      exact ⟨hik, isKid_iff.2 ⟨hk, e2.symm⟩⟩
    · rw [if_neg, if_neg]
      · intro h
        obtain ⟨c1, c2, c3⟩ := lstBelow_some _ _ _ h
        exact e2 (isKid_iff.1 c2).2
      · simp only [Bool.and_eq_true, decide_eq_true_eq]
        rintro ⟨_, h⟩
        exact e2 (isKid_iff.1 h).2.symm
theorem nx_new (D : Nat → Int) (k : Nat) : nx D (k + 1) k = none := by
  refine fstBelow_mk_none _ _ (fun i hi => ?_)
  rw [Bool.eq_false_iff]; intro h
  simp only [Bool.and_eq_true, decide_eq_true_eq] at h; omega
theorem fi_new {D : Nat → Int} (k : Nat) (h : ∀ j, 1 ≤ j → j ≤ k → par D j < j) : fi D (k + 1) k = none := by
  refine fstBelow_mk_none _ _ (fun i hi => ?_)
  rw [Bool.eq_false_iff]; intro g
  have := isKid_iff.1 g
  have := h i (by omega) (by omega); omega
theorem la_new {D : Nat → Int} (k : Nat) (h : ∀ j, 1 ≤ j → j ≤ k → par D j < j) : la D (k + 1) k = none := by
  refine lstBelow_mk_none _ _ (fun i hi => ?_)
  rw [Bool.eq_false_iff]; intro g
  have := isKid_iff.1 g
  have := h i (by omega) (by omega); omega

/-! ### under -/
def un (D : Nat → Int) (m a b : Nat) : Prop := b ≤ a ∧ a < en D m b
theorem un_self {D : Nat → Int} {m a : Nat} (ha : a < m) : un D m a a := ⟨Nat.le_refl _, by have := (en_spec (D := D) ha).1; omega⟩
theorem un_par {D : Nat → Int} {m a b : Nat} (h : Deps D m) (h1 : 1 ≤ a) (h2 : a < m) (hb : b < m) (hne : a ≠ b) : un D m a b ↔ un D m (par D a) b := by
  obtain ⟨a1, a2, a3⟩ := par_spec h h1 h2
  obtain ⟨e1, e2, e3, e4⟩ := en_spec (D := D) (m := m) (i := b) hb
  unfold un
  constructor
  · rintro ⟨g1, g2⟩
    have g3 := e3 a (by omega) g2
    refine ⟨?_, by omega⟩
    rcases Nat.lt_or_ge (par D a) b with q | q
    · have := a3 b q (by omega); omega
    · exact q
  · rintro ⟨g1, g2⟩
    refine ⟨by omega, ?_⟩
    rcases Nat.lt_or_ge a (en D m b) with q | q
    · exact q
    · have r := e4 (by omega)
      have s : D a ≤ D (en D m b) := by
        by_cases z : en D m b = a
        · rw [z]; exact Int.le_refl _
        · exact a3 _ g2 (by omega)
      by_cases z : par D a = b
      · rw [z] at a2; omega
      · have := e3 _ (show b < par D a by omega) g2; omega
theorem un_trans {D : Nat → Int} {m a b c : Nat} (hc : c < m) (hb : b < m) (h1 : un D m a b) (h2 : un D m b c) : un D m a c := by
  obtain ⟨p1, p2⟩ := h1
  obtain ⟨q1, q2⟩ := h2
  obtain ⟨e1, e2, e3, e4⟩ := en_spec (D := D) (m := m) (i := c) hc
  obtain ⟨f1, f2, f3, f4⟩ := en_spec (D := D) (m := m) (i := b) hb
  refine ⟨by omega, ?_⟩
  rcases Nat.lt_or_ge a (en D m c) with q | q
  · exact q
  · have r := e4 (by omega)
    by_cases z : b = c
    · subst z; omega
    · have g := e3 b (by omega) q2
      have := f3 (en D m c) (by omega) (by omega); omega
end Go.Proofs.YtefelnodahcolaaDoor
