/-
  Plain mathematics of children in outlines, by their places: their order, what is ahead of each, how many there are in all; and the contract of the laws' own comparison of ints. Conditions: as each theorem says.
-/
import Derived.Test.YtiigkjpabbgnpaaDoorKidMath
namespace Go.Proofs.YtiigkjpabbgnpaaDoor
open Go.ChangeShapes Go.WideShapes Go.ChangeAt Go.RowKit Go.Joins

/-- The places of the children of x among k places from s on. -/
def kpl (rs : List RowD) (x : Nat) : Nat → Nat → List Nat
  | _, 0 => []
  | s, k + 1 => (if rdep rs s = rdep rs x + 1 then [s] else []) ++ kpl rs x (s + 1) k
theorem kpl_ids (rs : List RowD) (x : Nat) : ∀ k s, kidsOf rs x s k = (kpl rs x s k).map (fun j => (rat rs j).id)
  | 0, s => rfl
  | k + 1, s => by
    rw [kidsOf, kpl, List.map_append, kpl_ids rs x k (s + 1)]
    congr 1
    split <;> rfl
theorem kpl_mem (rs : List RowD) (x : Nat) : ∀ k s j, j ∈ kpl rs x s k ↔ s ≤ j ∧ j < s + k ∧ rdep rs j = rdep rs x + 1
  | 0, s, j => by simp [kpl]; omega
  | k + 1, s, j => by
    rw [kpl, List.mem_append, kpl_mem rs x k (s + 1) j]
    constructor
    · rintro (h | ⟨a, b, c⟩)
      · split at h
        · rename_i hd
          simp at h; subst h; exact ⟨Nat.le_refl _, by omega, hd⟩
        · simp at h
      · exact ⟨by omega, by omega, c⟩
    · rintro ⟨a, b, c⟩
      by_cases e : j = s
      · subst e; left; rw [if_pos c]; simp
      · right; exact ⟨by omega, by omega, c⟩
theorem kpl_asc (rs : List RowD) (x : Nat) : ∀ k s, (kpl rs x s k).Pairwise (· < ·)
  | 0, s => List.Pairwise.nil
  | k + 1, s => by
    rw [kpl]
    split
    · rw [List.singleton_append, List.pairwise_cons]
      exact ⟨fun j hj => by have := (kpl_mem rs x k (s + 1) j).1 hj; omega, kpl_asc rs x k (s + 1)⟩
    · exact kpl_asc rs x k (s + 1)
/-- In an ascending list nothing lies between two neighbours. -/
theorem asc_between {l : List Nat} (h : l.Pairwise (· < ·)) {i : Nat} (hi : i + 1 < l.length) {j : Nat} (h1 : l[i]'(by omega) < j) (h2 : j < l[i + 1]) : j ∉ l := by
  intro hj
  obtain ⟨q, hq, e⟩ := List.getElem_of_mem hj
  have hp := List.pairwise_iff_getElem.1 h
  rcases Nat.lt_trichotomy q i with g | g | g
  · have := hp q i hq (by omega) g; omega
  · subst g; omega
  · rcases Nat.lt_trichotomy q (i + 1) with g2 | g2 | g2
    · omega
    · subst g2; omega
    · have := hp (i + 1) q hi hq g2; omega
theorem asc_first {l : List Nat} (h : l.Pairwise (· < ·)) (hi : 0 < l.length) {j : Nat} (h2 : j < l[0]) : j ∉ l := by
  intro hj
  obtain ⟨q, hq, e⟩ := List.getElem_of_mem hj
  have hp := List.pairwise_iff_getElem.1 h
  rcases Nat.eq_zero_or_pos q with g | g
  · subst g; omega
  · have := hp 0 q hi hq g; omega
/-- The places of the children of place x. -/
def kpsT (rs : List RowD) (x : Nat) : List Nat := kpl rs x (x + 1) (enR rs x - (x + 1))
theorem kps_ids {rs : List RowD} (ht : treeB rs = true) {x : Nat} (hx : x < rs.length) : kidsT rs (rat rs x).id = (kpsT rs x).map (fun j => (rat rs j).id) := by
  rw [kidsT_row ht hx, kpl_ids]; rfl
theorem kps_mem {rs : List RowD} {x : Nat} (hx : x < rs.length) {j : Nat} : j ∈ kpsT rs x ↔ x < j ∧ j < enR rs x ∧ rdep rs j = rdep rs x + 1 := by
  have := (en_spec (D := rdep rs) hx).1
  have e : enR rs x = en (rdep rs) rs.length x := rfl
  rw [kpsT, kpl_mem]
  constructor
  · rintro ⟨a, b, c⟩; exact ⟨by omega, by omega, c⟩
  · rintro ⟨a, b, c⟩; exact ⟨by omega, by omega, c⟩
theorem kps_lt {rs : List RowD} {x : Nat} (hx : x < rs.length) {j : Nat} (h : j ∈ kpsT rs x) : j < rs.length := by
  have := (en_spec (D := rdep rs) hx).2.1
  have e : enR rs x = en (rdep rs) rs.length x := rfl
  have := (kps_mem hx).1 h; omega
theorem getD_map {l : List Nat} {f : Nat → Int} {i : Nat} (h : i < l.length) : (l.map f).getD i 0 = f l[i] := by
  rw [List.getD_eq_getElem?_getD, List.getElem?_map, List.getElem?_eq_getElem h]; rfl
theorem has_row {rs : List RowD} (ht : treeB rs = true) {j : Nat} (hj : j < rs.length) : hasB rs (rat rs j).id = true := by
  rw [hasB_iff]; exact ⟨ht, by rw [(treeP_of ht).at_self hj]; exact hj⟩
theorem kid_up {rs : List RowD} (ht : treeB rs = true) {x j : Nat} (hx : x < rs.length) (h : j ∈ kpsT rs x) : upI rs (rat rs j).id = (rat rs x).id := by
  have hj := kps_lt hx h
  have h1 : (rat rs j).id ∈ kidsT rs (rat rs x).id := by rw [kps_ids ht hx]; exact List.mem_map.2 ⟨j, h, rfl⟩
  have h2 := (kid_par ht hx hj).1 h1
  rw [up_row ht hj, h2]; rfl
theorem kid_made {rs : List RowD} (ht : treeB rs = true) {x j : Nat} (hx : x < rs.length) (h : j ∈ kpsT rs x) : ahB rs (rat rs j).id = true := by
  have hj := kps_lt hx h
  have hT := treeP_of ht
  have h1 := ((kps_mem hx).1 h).2.2
  have h2 := (rok_dep (hT.rok x hx)).1
  have h3 := rok_root (hT.rok j hj)
  unfold rdep at h1
  rw [ahB_iff (has_row ht hj)]
  cases hr : rootB (rat rs j).id
  · rfl
  · have := h3.2 hr; omega
theorem kid_ah {rs : List RowD} (ht : treeB rs = true) {x : Nat} (hx : x < rs.length) {i : Nat} (hi : i < (kpsT rs x).length) :
    ahI rs (rat rs (kpsT rs x)[i]).id = if h : i = 0 then 0 else (rat rs ((kpsT rs x)[i - 1]'(by omega))).id := by
  have hm : (kpsT rs x)[i] ∈ kpsT rs x := List.getElem_mem hi
  have hj := kps_lt hx hm
  have hT := treeP_of ht
  have hmj := (kps_mem hx).1 hm
  have e : enR rs x = en (rdep rs) rs.length x := rfl
  obtain ⟨e1, e2, e3, e4⟩ := en_spec (D := rdep rs) hx
  rw [← e] at e1 e2 e3 e4
  have hA : ahI rs (rat rs (kpsT rs x)[i]).id = ahAt rs (kpsT rs x)[i] := by
    unfold ahI; rw [if_pos (kid_made ht hx hm), hT.at_self hj]
  rw [hA]
  have hasc := kpl_asc rs x (enR rs x - (x + 1)) (x + 1)
  unfold ahAt
  by_cases h0 : i = 0
  · subst h0
    rw [dif_pos rfl]
    have hl : lstBelow (fun j => decide (rdep rs j ≤ rdep rs (kpsT rs x)[0])) (kpsT rs x)[0] = some x := by
      refine lstBelow_mk _ _ _ hmj.1 (by simp; omega) (fun j h1 h2 => ?_)
      have hn := asc_first hasc hi (j := j) h2
      have hd := e3 j h1 (by omega)
      simp only [decide_eq_false_iff_not, Int.not_le]
      have : rdep rs j ≠ rdep rs x + 1 := fun q => hn ((kps_mem hx).2 ⟨h1, by omega, q⟩)
      omega
    rw [hl]
    simp only
    rw [if_neg (by omega)]
  · rw [dif_neg h0]
    obtain ⟨i', rfl⟩ : ∃ i', i = i' + 1 := ⟨i - 1, by omega⟩
    have hm' : (kpsT rs x)[i']'(by omega) ∈ kpsT rs x := List.getElem_mem _
    have hmj' := (kps_mem hx).1 hm'
    have hlt := List.pairwise_iff_getElem.1 hasc i' (i' + 1) (by show i' < (kpsT rs x).length; omega) hi (by omega)
    have hl : lstBelow (fun j => decide (rdep rs j ≤ rdep rs (kpsT rs x)[i' + 1])) (kpsT rs x)[i' + 1] = some ((kpsT rs x)[i']'(by omega)) := by
      refine lstBelow_mk _ _ _ hlt (by simp; omega) (fun j h1 h2 => ?_)
      have hn := asc_between hasc (i := i') hi (j := j) h1 h2
      have hd := e3 j (by omega) (by omega)
      simp only [decide_eq_false_iff_not, Int.not_le]
      have : rdep rs j ≠ rdep rs x + 1 := fun q => hn ((kps_mem hx).2 ⟨by omega, by omega, q⟩)
      omega
    rw [hl]
    simp only [Nat.add_sub_cancel]
    rw [if_pos (by omega)]
theorem kps_asc {rs : List RowD} {x i j : Nat} (hij : i < j) (hj : j < (kpsT rs x).length) : (kpsT rs x)[i]'(by omega) < (kpsT rs x)[j] :=
  List.pairwise_iff_getElem.1 (kpl_asc rs x (enR rs x - (x + 1)) (x + 1)) i j (by show i < (kpsT rs x).length; omega) hj hij

/-! ### how many children there are in all -/
def cntK (P : Nat → Nat) (x : Nat) : Nat → Nat
  | 0 => 0
  | m + 1 => cntK P x m + (if P m = x + 1 then 1 else 0)
def sumC (P : Nat → Nat) (m : Nat) : Nat → Nat
  | 0 => 0
  | n + 1 => sumC P m n + cntK P n m
def zerosK (P : Nat → Nat) : Nat → Nat
  | 0 => 0
  | m + 1 => zerosK P m + (if P m = 0 then 1 else 0)
theorem sumC_succ (P : Nat → Nat) (m : Nat) : ∀ n, sumC P (m + 1) n = sumC P m n + (if 1 ≤ P m ∧ P m ≤ n then 1 else 0)
  | 0 => by rw [if_neg (by omega)]; rfl
  | n + 1 => by
    rw [sumC, sumC, sumC_succ P m n, cntK]
    by_cases h1 : P m = n + 1
    · rw [if_pos h1, if_neg (by omega), if_pos (by omega)]; omega
    · rw [if_neg h1]
      by_cases h2 : 1 ≤ P m ∧ P m ≤ n
      · rw [if_pos h2, if_pos (by omega)]; omega
      · rw [if_neg h2, if_neg (by omega)]; omega
theorem sumC_zero (P : Nat → Nat) : ∀ n, sumC P 0 n = 0
  | 0 => rfl
  | n + 1 => by rw [sumC, sumC_zero P n]; rfl
theorem sumC_all (P : Nat → Nat) (n : Nat) : ∀ m, (∀ j, j < m → P j ≤ n) → sumC P m n + zerosK P m = m
  | 0, _ => by rw [sumC_zero]; rfl
  | m + 1, h => by
    have ih := sumC_all P n m (fun j hj => h j (by omega))
    have hm := h m (by omega)
    rw [sumC_succ, zerosK]
    by_cases h0 : P m = 0
    · rw [if_neg (by omega), if_pos h0]; omega
    · rw [if_pos (by omega), if_neg h0]; omega
def parN (rs : List RowD) (j : Nat) : Nat := par (dp rs) (j + 1)
theorem kidsOf_cnt {rs : List RowD} {x : Nat} (s : Nat) : ∀ k, (∀ j, s ≤ j → j < s + k → (rdep rs j = rdep rs x + 1 ↔ parN rs j = x + 1)) → cntK (parN rs) x (s + k) = cntK (parN rs) x s + (kidsOf rs x s k).length
  | 0, _ => by simp [kidsOf]
  | k + 1, h => by
    rw [kidsOf_snoc, List.length_append, ← Nat.add_assoc, cntK, kidsOf_cnt s k (fun j a b => h j a (by omega))]
    have := h (s + k) (by omega) (by omega)
    by_cases e : rdep rs (s + k) = rdep rs x + 1
    · rw [if_pos (this.1 e), if_pos e]; simp; omega
    · rw [if_neg (fun q => e (this.2 q)), if_neg e]; simp
theorem cntK_none (P : Nat → Nat) (x : Nat) : ∀ m, (∀ j, j < m → P j ≠ x + 1) → cntK P x m = 0
  | 0, _ => rfl
  | m + 1, h => by rw [cntK, cntK_none P x m (fun j hj => h j (by omega)), if_neg (h m (by omega))]
theorem cntK_tail (P : Nat → Nat) (x s : Nat) : ∀ k, (∀ j, s ≤ j → j < s + k → P j ≠ x + 1) → cntK P x (s + k) = cntK P x s
  | 0, _ => rfl
  | k + 1, h => by rw [← Nat.add_assoc, cntK, cntK_tail P x s k (fun j a b => h j a (by omega)), if_neg (h (s + k) (by omega) (by omega))]; omega
theorem kids_cnt {rs : List RowD} (ht : treeB rs = true) {x : Nat} (hx : x < rs.length) : (kidsT rs (rat rs x).id).length = cntK (parN rs) x rs.length := by
  have hT := treeP_of ht
  have hD := hT.deps
  obtain ⟨e1, e2, e3, e4⟩ := en_spec (D := rdep rs) hx
  have e : enR rs x = en (rdep rs) rs.length x := rfl
  rw [← e] at e1 e2 e3 e4
  have key : ∀ j, j < rs.length → (parN rs j = x + 1 ↔ (x < j ∧ j < enR rs x ∧ rdep rs j = rdep rs x + 1)) := fun j hj => by
    have h1 := kid_iff hD (p := x + 1) (j := j + 1) (by omega) (by omega)
    rw [isKid_iff, en_shift hx] at h1
    constructor
    · intro h; obtain ⟨a, b, c⟩ := h1.1 ⟨by omega, h⟩; exact ⟨by omega, by omega, c⟩
    · rintro ⟨a, b, c⟩; exact (h1.2 ⟨by omega, by omega, c⟩).2
  rw [kidsT_row ht hx]
  have a1 := kidsOf_cnt (rs := rs) (x := x) (x + 1) (enR rs x - (x + 1)) (fun j h1 h2 => by
    rw [key j (by omega)]
    exact ⟨fun q => ⟨by omega, by omega, q⟩, fun q => q.2.2⟩)
  have a2 := cntK_none (parN rs) x (x + 1) (fun j hj q => by have := (key j (by omega)).1 q; omega)
  have a3 := cntK_tail (parN rs) x (enR rs x) (rs.length - enR rs x) (fun j h1 h2 q => by have := (key j (by omega)).1 q; omega)
  rw [show x + 1 + (enR rs x - (x + 1)) = enR rs x by omega] at a1
  rw [show enR rs x + (rs.length - enR rs x) = rs.length by omega] at a3
  omega
theorem zeros_roots {rs : List RowD} (ht : treeB rs = true) : ∀ m, m ≤ rs.length → zerosK (parN rs) m = nroots rs m
  | 0, _ => rfl
  | m + 1, h => by
    have hT := treeP_of ht
    have hd := par_dep hT.deps (i := m + 1) (by omega) (by omega)
    have hr := rok_root (hT.rok m (by omega))
    have e1 : dp rs (m + 1) = (rat rs m).dep := rfl
    have h0 : parN rs m = 0 ↔ rootB (rat rs m).id = true := by
      rw [← hr]
      unfold parN
      constructor
      · intro q
        rw [q] at hd
        have : dp rs 0 = -1 := rfl
        omega
      · intro q
        rcases hc : par (dp rs) (m + 1) with _ | p
        · rfl
        · rw [hc] at hd
          have hp := (par_spec hT.deps (i := m + 1) (by omega) (by omega)).1
          rw [hc] at hp
          have := (rok_dep (hT.rok p (by omega))).1
          have e2 : dp rs (p + 1) = (rat rs p).dep := rfl
          omega
    rw [zerosK, nroots, zeros_roots ht m (by omega)]
    by_cases q : parN rs m = 0
    · rw [if_pos q, if_pos (h0.1 q)]
    · rw [if_neg q, if_neg (fun g => q (h0.2 g))]
/-- How many children the first n rows have. -/
def sumK (rs : List RowD) : Nat → Nat
  | 0 => 0
  | n + 1 => sumK rs n + (kidsT rs (rat rs n).id).length
theorem sumK_eq {rs : List RowD} (ht : treeB rs = true) : ∀ n, n ≤ rs.length → sumK rs n = sumC (parN rs) rs.length n
  | 0, _ => rfl
  | n + 1, h => by rw [sumK, sumC, sumK_eq ht n (by omega), kids_cnt ht (by omega)]
theorem sumK_all {rs : List RowD} (ht : treeB rs = true) : sumK rs rs.length + 3 = rs.length := by
  have hT := treeP_of ht
  rw [sumK_eq ht _ (Nat.le_refl _), ← hT.three, ← zeros_roots ht _ (Nat.le_refl _)]
  exact sumC_all _ _ _ (fun j hj => by have := (par_spec hT.deps (i := j + 1) (by omega) (by omega)).1; unfold parN; omega)
theorem sumK_le {rs : List RowD} (n : Nat) (h : ∀ id, (kidsT rs id).length ≤ 1048576) : sumK rs n ≤ n * 1048576 := by
  induction n with
  | zero => simp [sumK]
  | succ n ih => rw [sumK]; have := h (rat rs n).id; omega
/-! ### lpInts -/
theorem lpInts_same (B : Nat) (a a' : Option Addr) (cap cap' : Nat) (xs : List Int) (w : World) (h : IntsLow B w a xs) (h' : IntsLow B w a' xs) (hl : xs.length ≤ 1048576) :
    Calls Tryd.prog 23 #[.slice a xs.length cap, .slice a' xs.length cap'] w (RetBelow (.bool true) w) := by
  go_enter Tryd.func23, Tryd.ntmps23
  go_wp2_with fail
  go_loopw [5] (fun i wr => ∃ k : Nat, k ≤ xs.length ∧ i = .int .i64 k ∧ Below w.heap.size w wr ∧ IntsLow B wr a xs ∧ IntsLow B wr a' xs) (fun i _ => xs.length - (intOf i).toNat)
  case atStart => exact ⟨0, Nat.zero_le _, rfl, Below.refl _ _, h, h'⟩
  case round =>
    obtain ⟨k, hk, rfl, hb, h1, h2⟩ := hrel
    by_cases hlt : k < xs.length
    · obtain ⟨g, rfl, hB, c0⟩ := h1.at_ hlt
      obtain ⟨g', rfl, hB', c0'⟩ := h2.at_ hlt
      have i1 : (k : Int) < (xs.length : Int) := by omega
      generalize xs.getD k 0 = v at *
      go_wp2_with fail
      go_quiet (fail)
      go_wp2
      go_roundw
      case rel => exact ⟨k + 1, by omega, by go_num, below_drewN nq hb, h1, h2⟩
      case measure => simp [intOf]; omega
    · go_wp2
      go_ret
      exact ⟨rfl, hb⟩
end Go.Proofs.YtiigkjpabbgnpaaDoor
