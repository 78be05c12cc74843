/-
  Plain mathematics of outlines as lists of rows: what is a valid outline, places of rows, parents, children, descendants, previous siblings. Nothing of the program is run here. Conditions: none beyond the lemmas' own premises.
-/
import Derived.Test.YtefelnodahcolaaDoorRowOk
import Derived.Test.YtefelnodahcolaaDoorTMath
namespace Go.Proofs.YtefelnodahcolaaDoor
open Go.RowKit

structure RowD where
  id : Int
  dep : Int
  txt : ByteArray
def rz : RowD := ⟨0, 0, ByteArray.empty⟩
def rat (rs : List RowD) (i : Nat) : RowD := rs.getD i rz
/-- Node 0 is the top, node i + 1 is row i. -/
def nd (rs : List RowD) : Nat → RowD
  | 0 => ⟨0, -1, ⟨#[]⟩⟩
  | i + 1 => rat rs i
def dp (rs : List RowD) (i : Nat) : Int := (nd rs i).dep
def rokB (r : RowD) : Bool := rowB r.id r.dep r.txt
def nroots (rs : List RowD) : Nat → Nat
  | 0 => 0
  | k + 1 => nroots rs k + (if rootB (rat rs k).id then 1 else 0)
def freshTo (rs : List RowD) (i k : Nat) : Bool := (List.range k).all fun j => !((rat rs j).id == (rat rs i).id)
def riseB (rs : List RowD) (i : Nat) : Bool := i == 0 || decide ((rat rs i).dep ≤ (rat rs (i - 1)).dep + 1)
def rordB (rs : List RowD) (i : Nat) : Bool := !rootB (rat rs i).id || ((rat rs i).id == (nroots rs i : Int) + 1)
def stepB (rs : List RowD) (i : Nat) : Bool := rokB (rat rs i) && riseB rs i && rordB rs i && freshTo rs i i
def okTo (rs : List RowD) (k : Nat) : Bool := (List.range k).all (stepB rs)
def treeB (rs : List RowD) : Bool := okTo rs rs.length && (nroots rs rs.length == 3) && ((rat rs 0).id == 1)

theorem okTo_succ (rs : List RowD) (k : Nat) : okTo rs (k + 1) = (okTo rs k && stepB rs k) := by simp [okTo, List.range_succ]
theorem okTo_zero (rs : List RowD) : okTo rs 0 = true := rfl
theorem okTo_at {rs : List RowD} {k i : Nat} (h : okTo rs k = true) (hi : i < k) : stepB rs i = true := by
  simp only [okTo, List.all_eq_true, List.mem_range] at h; exact h i hi
theorem okTo_mono {rs : List RowD} {k i : Nat} (h : okTo rs k = true) (hi : i ≤ k) : okTo rs i = true := by
  simp only [okTo, List.all_eq_true, List.mem_range] at h ⊢; exact fun j hj => h j (by omega)
theorem treeB_bad {rs : List RowD} {k : Nat} (hk : k < rs.length) (h : stepB rs k = false) : treeB rs = false := by
  rw [Bool.eq_false_iff]; intro g
  simp only [treeB, Bool.and_eq_true] at g
  rw [okTo_at g.1.1 hk] at h; cases h
theorem freshTo_succ (rs : List RowD) (i k : Nat) : freshTo rs i (k + 1) = (freshTo rs i k && !((rat rs k).id == (rat rs i).id)) := by simp [freshTo, List.range_succ]
theorem freshTo_iff {rs : List RowD} {i k : Nat} : freshTo rs i k = true ↔ ∀ j, j < k → (rat rs j).id ≠ (rat rs i).id := by simp [freshTo]
theorem nroots_le (rs : List RowD) : ∀ k, nroots rs k ≤ k
  | 0 => Nat.le_refl _
  | k + 1 => by have := nroots_le rs k; unfold nroots; split <;> omega
theorem nroots_mono (rs : List RowD) (j : Nat) : ∀ k, j ≤ k → nroots rs j ≤ nroots rs k
  | 0, h => by obtain rfl : j = 0 := by omega
               exact Nat.le_refl _
  | k + 1, h => by
    by_cases e : j = k + 1
    · subst e; exact Nat.le_refl _
    · have := nroots_mono rs j k (by omega)
      show _ ≤ nroots rs k + _
      omega

structure TreeP (rs : List RowD) : Prop where
  rok : ∀ i, i < rs.length → rokB (rat rs i) = true
  rise : ∀ i, 1 ≤ i → i < rs.length → (rat rs i).dep ≤ (rat rs (i - 1)).dep + 1
  rord : ∀ i, i < rs.length → rootB (rat rs i).id = true → (rat rs i).id = (nroots rs i : Int) + 1
  fresh : ∀ i j, j < i → i < rs.length → (rat rs j).id ≠ (rat rs i).id
  three : nroots rs rs.length = 3
  head : (rat rs 0).id = 1
theorem treeP_of {rs : List RowD} (h : treeB rs = true) : TreeP rs := by
  simp only [treeB, Bool.and_eq_true, beq_iff_eq] at h
  obtain ⟨⟨h1, h2⟩, h3⟩ := h
  have s : ∀ i, i < rs.length → rokB (rat rs i) = true ∧ riseB rs i = true ∧ rordB rs i = true ∧ freshTo rs i i = true := fun i hi => by
    have := okTo_at h1 hi
    simp only [stepB, Bool.and_eq_true] at this
    exact ⟨this.1.1.1, this.1.1.2, this.1.2, this.2⟩
  refine ⟨fun i hi => (s i hi).1, fun i h0 hi => ?_, fun i hi hr => ?_, fun i j hj hi => freshTo_iff.1 (s i hi).2.2.2 j hj, h2, h3⟩
  · have := (s i hi).2.1
    simp only [riseB, Bool.or_eq_true, beq_iff_eq, decide_eq_true_eq] at this
    omega
  · have := (s i hi).2.2.1
    simp only [rordB, hr, Bool.not_true, Bool.false_or, beq_iff_eq] at this
    exact this
theorem TreeP.len {rs : List RowD} (h : TreeP rs) : 3 ≤ rs.length := by have := nroots_le rs rs.length; have := h.three; omega

/-! ### rows that are right by themselves -/
theorem rok_cases {r : RowD} (h : rokB r = true) : (rootB r.id = true ∧ r.dep = 0 ∧ r.txt.toList.isEmpty = true) ∨ (rootB r.id = false ∧ madeB r.id = true ∧ 1 ≤ r.dep ∧ r.dep ≤ 18 ∧ textB r.txt = true) := by
  unfold rokB rowB at h
  split at h
  · rename_i hr; simp only [Bool.and_eq_true, beq_iff_eq] at h; exact .inl ⟨hr, h.1, h.2⟩
  · rename_i hr; simp only [Bool.and_eq_true] at h; have := (inB_iff _ _ _).1 h.1.2; exact .inr ⟨by simpa using hr, h.1.1, this.1, this.2, h.2⟩
theorem rok_dep {r : RowD} (h : rokB r = true) : 0 ≤ r.dep ∧ r.dep ≤ 18 := by
  rcases rok_cases h with ⟨_, h, _⟩ | ⟨_, _, h1, h2, _⟩ <;> omega
theorem rok_root {r : RowD} (h : rokB r = true) : (r.dep = 0 ↔ rootB r.id = true) := by
  rcases rok_cases h with ⟨h1, h2, _⟩ | ⟨h1, _, h2, _⟩
  · simp [h1, h2]
  · simp [h1]; omega
theorem rok_id {r : RowD} (h : rokB r = true) : 1 ≤ r.id ∧ r.id ≤ 36 := by
  rcases rok_cases h with ⟨h1, _⟩ | ⟨_, h1, _⟩
  · have := (rootB_iff _).1 h1; omega
  · have := (madeB_iff _).1 h1; omega
theorem TreeP.deps {rs : List RowD} (h : TreeP rs) : Deps (dp rs) (rs.length + 1) := by
  have hl := h.len
  refine ⟨by omega, rfl, fun i h1 h2 => ?_, fun i h1 h2 => ?_⟩
  · obtain ⟨j, rfl⟩ : ∃ j, i = j + 1 := ⟨i - 1, by omega⟩
    exact (rok_dep (h.rok j (by omega))).1
  · obtain ⟨j, rfl⟩ : ∃ j, i = j + 1 := ⟨i - 1, by omega⟩
    show dp rs (j + 1) ≤ dp rs j + 1
    by_cases e : j = 0
    · subst e
      have := (rok_root (h.rok 0 (by omega))).2 ((rootB_iff _).2 (by have := h.head; omega))
      show (rat rs 0).dep ≤ -1 + 1
      omega
    · obtain ⟨l, rfl⟩ : ∃ l, j = l + 1 := ⟨j - 1, by omega⟩
      exact h.rise (l + 1) (by omega) (by omega)

/-! ### places -/
def atN (rs : List RowD) (id : Int) : Nat := fstFrom (fun i => (rat rs i).id == id) rs.length 0
def atI (rs : List RowD) (id : Int) : Int := if atN rs id < rs.length then (atN rs id : Int) else -1
theorem atN_le (rs : List RowD) (id : Int) : atN rs id ≤ rs.length := by have := fstFrom_le (fun i => (rat rs i).id == id) rs.length 0; unfold atN; omega
theorem atN_id {rs : List RowD} {id : Int} (h : atN rs id < rs.length) : (rat rs (atN rs id)).id = id := by
  have := fstFrom_yes (fun i => (rat rs i).id == id) rs.length 0 (by unfold atN at h; omega)
  simp only [beq_iff_eq] at this
  exact this
theorem atN_not {rs : List RowD} {id : Int} {j : Nat} (h : j < atN rs id) : (rat rs j).id ≠ id := by
  have := fstFrom_not (fun i => (rat rs i).id == id) rs.length 0 j (Nat.zero_le _) h
  simpa using this
theorem atN_mk {rs : List RowD} {id : Int} {k : Nat} (h1 : k < rs.length) (h2 : (rat rs k).id = id) (h3 : ∀ j, j < k → (rat rs j).id ≠ id) : atN rs id = k :=
  fstFrom_uniq _ _ _ _ (Nat.zero_le _) (by omega) (fun j _ hj => by simpa using h3 j hj) (fun _ => by simpa using h2)
theorem atN_none {rs : List RowD} {id : Int} (h : ∀ j, j < rs.length → (rat rs j).id ≠ id) : atN rs id = rs.length :=
  fstFrom_uniq _ _ _ _ (Nat.zero_le _) (by omega) (fun j _ hj => by simpa using h j hj) (fun a => by omega)
theorem TreeP.at_self {rs : List RowD} (h : TreeP rs) {i : Nat} (hi : i < rs.length) : atN rs (rat rs i).id = i :=
  atN_mk hi rfl (fun j hj => h.fresh i j hj hi)
theorem TreeP.id_inj {rs : List RowD} (h : TreeP rs) {i j : Nat} (hi : i < rs.length) (hj : j < rs.length) (e : (rat rs i).id = (rat rs j).id) : i = j := by
  rw [← h.at_self hi, ← h.at_self hj, e]
theorem atI_neg {rs : List RowD} {id : Int} (h : atN rs id = rs.length) : atI rs id = -1 := by unfold atI; rw [if_neg (by omega)]
theorem atI_pos {rs : List RowD} {id : Int} (h : atN rs id < rs.length) : atI rs id = (atN rs id : Int) := by unfold atI; rw [if_pos h]

/-! ### the functions on an outline, by places of rows (not nodes), for every list of rows -/
def rdep (rs : List RowD) (i : Nat) : Int := (rat rs i).dep
/-- The place behind the subtree of a place. -/
def enR (rs : List RowD) (i : Nat) : Nat := en (rdep rs) rs.length i
def upAt (rs : List RowD) (i : Nat) : Int := match lstBelow (fun j => decide (rdep rs j < rdep rs i)) i with
  | some j => (rat rs j).id
  | none => 0
def ahAt (rs : List RowD) (i : Nat) : Int := match lstBelow (fun j => decide (rdep rs j ≤ rdep rs i)) i with
  | some j => if rdep rs j = rdep rs i then (rat rs j).id else 0
  | none => 0
/-- The children of place i among the places from s on, k of them. -/
def kidsOf (rs : List RowD) (i : Nat) : Nat → Nat → List Int
  | _, 0 => []
  | s, k + 1 => (if rdep rs s = rdep rs i + 1 then [(rat rs s).id] else []) ++ kidsOf rs i (s + 1) k
def kidsAt (rs : List RowD) (i : Nat) : List Int := kidsOf rs i (i + 1) (enR rs i - (i + 1))
def kidsL (rs : List RowD) (id : Int) : List Int := if atN rs id < rs.length then kidsAt rs (atN rs id) else []
def undB (rs : List RowD) (id under : Int) : Bool := decide (atN rs id < rs.length) && decide (atN rs under < rs.length) && decide (atN rs under ≤ atN rs id) && decide (atN rs id < enR rs (atN rs under))

theorem kidsOf_snoc (rs : List RowD) (i : Nat) : ∀ k s, kidsOf rs i s (k + 1) = kidsOf rs i s k ++ (if rdep rs (s + k) = rdep rs i + 1 then [(rat rs (s + k)).id] else [])
  | 0, s => by simp [kidsOf]
  | k + 1, s => by
    rw [kidsOf, kidsOf_snoc rs i k (s + 1), kidsOf, List.append_assoc, show s + 1 + k = s + (k + 1) by omega]
theorem kidsOf_len (rs : List RowD) (i : Nat) : ∀ k s, (kidsOf rs i s k).length ≤ k
  | 0, s => Nat.le_refl _
  | k + 1, s => by
    have := kidsOf_len rs i k (s + 1)
    unfold kidsOf; split <;> simp <;> omega

/-! ### nodes and rows -/
theorem en_shift {rs : List RowD} {i : Nat} (hi : i < rs.length) : en (dp rs) (rs.length + 1) (i + 1) = enR rs i + 1 := by
  obtain ⟨a, b, c, d⟩ := en_spec (D := rdep rs) (m := rs.length) hi
  refine en_uniq ?_ ?_ (fun j h1 h2 => ?_) (fun h => ?_)
  · unfold enR; omega
  · unfold enR; omega
  · obtain ⟨l, rfl⟩ : ∃ l, j = l + 1 := ⟨j - 1, by omega⟩
    exact c l (by omega) (by unfold enR at h2; omega)
  · exact d (by unfold enR at h; omega)
theorem par_shift {rs : List RowD} (h : TreeP rs) {i : Nat} (hi : i < rs.length) : (nd rs (par (dp rs) (i + 1))).id = upAt rs i := by
  unfold upAt
  cases e : lstBelow (fun j => decide (rdep rs j < rdep rs i)) i with
  | none =>
    have n := lstBelow_none _ _ e
    have : par (dp rs) (i + 1) = 0 := by
      refine par_uniq (by omega) ?_ (fun l h1 h2 => ?_)
      · have := (rok_dep (h.rok i hi)).1
        show (-1 : Int) < (rat rs i).dep
        omega
      · obtain ⟨q, rfl⟩ : ∃ q, l = q + 1 := ⟨l - 1, by omega⟩
        have := n q (by omega)
        simp only [decide_eq_false_iff_not, Int.not_lt] at this
        exact this
    rw [this]; rfl
  | some j =>
    obtain ⟨a, b, c⟩ := lstBelow_some _ _ _ e
    have : par (dp rs) (i + 1) = j + 1 := by
      simp only [decide_eq_true_eq] at b
      refine par_uniq (by omega) b (fun l h1 h2 => ?_)
      obtain ⟨q, rfl⟩ : ∃ q, l = q + 1 := ⟨l - 1, by omega⟩
      have := c q (by omega) (by omega)
      simp only [decide_eq_false_iff_not, Int.not_lt] at this
      exact this
    rw [this]; rfl
end Go.Proofs.YtefelnodahcolaaDoor
