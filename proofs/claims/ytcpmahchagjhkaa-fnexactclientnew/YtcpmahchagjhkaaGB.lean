/-
  Joined texts, each with its own head: what it holds, and its conditions.
-/
import Derived.Test.YtcpmahchagjhkaaGA
import Derived.Deep.LoopGhost
import Derived.RangeFuncNested
import Derived.RangeFuncBound
import Derived.RangeFuncCalls
import Derived.RangeFuncLeaves
import Derived.RangeFuncFrom
import Derived.Shelf.Abstract
import Derived.Shelf.RegionOpen
import Derived.OwnWalkIn
import Derived.TacticsInMore
import Derived.LoopNIn
import Derived.LoopIn
import Derived.Laws.Pointers
import Derived.LaidEql
import Derived.ChangeKeysEq

/-
  Contract of the program's TreeOk: it answers as the model's. Conditions: the rows lie in memory as a slice of rows; the table 'creators' holds what its initialiser lays.
-/
namespace Go.Proofs.Ytcpmahchagjhkaa
open Go.ChangeShapes Go.WideShapes Go.ChangeAt Go.RowKit Go.Joins

def seenAt (rs : List RowD) (k v : Nat) : Bool := (List.range k).any fun j => (rat rs j).id == (v : Int)
theorem seenAt_succ (rs : List RowD) (k v : Nat) : seenAt rs (k + 1) v = (seenAt rs k v || ((rat rs k).id == (v : Int))) := by simp [seenAt, List.range_succ]
theorem seenAt_yes {rs : List RowD} {k v : Nat} (h : seenAt rs k v = true) : ∃ j, j < k ∧ (rat rs j).id = (v : Int) := by
  simp only [seenAt, List.any_eq_true, List.mem_range, beq_iff_eq] at h
  obtain ⟨j, h1, h2⟩ := h
  exact ⟨j, h1, h2⟩
theorem seenAt_no {rs : List RowD} {k v : Nat} (h : seenAt rs k v = false) : ∀ j, j < k → (rat rs j).id ≠ (v : Int) := by
  intro j hj e
  simp only [seenAt, List.any_eq_false, List.mem_range, beq_iff_eq] at h
  exact h j hj e
def deepI (rs : List RowD) : Nat → Int
  | 0 => 0
  | k + 1 => (rat rs k).dep + 1
/-- What holds of the rows ahead of place k while the program goes over them. -/
def OkInv (rs : List RowD) (k : Nat) : Prop := okTo rs k = true ∧ (0 < k → (rat rs 0).id = 1)
theorem okInv_zero (rs : List RowD) : OkInv rs 0 := ⟨okTo_zero rs, fun h => by omega⟩
theorem step_parts {rs : List RowD} {k : Nat} (h : stepB rs k = true) : rokB (rat rs k) = true ∧ riseB rs k = true ∧ rordB rs k = true ∧ freshTo rs k k = true := by
  simp only [stepB, Bool.and_eq_true] at h
  exact ⟨h.1.1.1, h.1.1.2, h.1.2, h.2⟩
/-- The roots ahead of place k are numbered 1, 2 and so on. -/
theorem roots_seen {rs : List RowD} : ∀ k, okTo rs k = true → ∀ v : Nat, 1 ≤ v → v ≤ nroots rs k → ∃ j, j < k ∧ (rat rs j).id = (v : Int)
  | 0, _, v, h1, h2 => by simp [nroots] at h2; omega
  | k + 1, h, v, h1, h2 => by
    rw [okTo_succ, Bool.and_eq_true] at h
    by_cases e : v ≤ nroots rs k
    · obtain ⟨j, a, b⟩ := roots_seen k h.1 v h1 e
      exact ⟨j, by omega, b⟩
    · cases hr : rootB (rat rs k).id
      · rw [nroots_not hr] at h2; omega
      · rw [nroots_yes hr] at h2
        have := (step_parts h.2).2.2.1
        rw [rord_yes hr] at this
        simp at this
        exact ⟨k, by omega, by omega⟩
theorem roots_few {rs : List RowD} {k : Nat} (h : okTo rs k = true) : nroots rs k ≤ 3 := by
  rcases Nat.lt_or_ge 3 (nroots rs k) with g | g
  · obtain ⟨j, a, b⟩ := roots_seen k h (nroots rs k) (by omega) (Nat.le_refl _)
    have p := step_parts (okTo_at h a)
    rcases rok_cases p.1 with ⟨q, _⟩ | ⟨_, q, _⟩
    · have := (rootB_iff _).1 q; omega
    · obtain ⟨i, c, d⟩ := roots_seen k h 4 (by omega) (by omega)
      have p2 := step_parts (okTo_at h c)
      rcases rok_cases p2.1 with ⟨q2, _⟩ | ⟨_, q2, _⟩
      · have := (rootB_iff _).1 q2; omega
      · have := (madeB_iff _).1 q2; omega
  · exact g
/-- A fresh root finds room among the three. -/
theorem found_lt {rs : List RowD} {k : Nat} (h : okTo rs k = true) (hr : rootB (rat rs k).id = true) (hf : ∀ j, j < k → (rat rs j).id ≠ (rat rs k).id) : nroots rs k < 3 := by
  have h1 := roots_few h
  rcases Nat.lt_or_ge (nroots rs k) 3 with g | g
  · exact g
  · have h2 := (rootB_iff _).1 hr
    obtain ⟨v, hv⟩ := Int.eq_ofNat_of_zero_le (show 0 ≤ (rat rs k).id by omega)
    obtain ⟨j, a, b⟩ := roots_seen k h v (by omega) (by omega)
    exact absurd (b.trans hv.symm) (hf j a)
theorem inv_next {rs : List RowD} {k : Nat} (h : OkInv rs k) (h1 : rowB (rat rs k).id (rat rs k).dep (rat rs k).txt = true) (h2 : (rat rs k).dep ≤ deepI rs k) (h3 : (rat rs k).dep = 0 → (rat rs k).id = (nroots rs k : Int) + 1) (h4 : ∀ j, j < k → (rat rs j).id ≠ (rat rs k).id) :
    OkInv rs (k + 1) := by
  have hrok : rokB (rat rs k) = true := h1
  have hroot := rok_root hrok
  refine ⟨step_good h.1 h1 ?_ ?_ (freshTo_iff.2 h4), fun _ => ?_⟩
  · cases k with
    | zero => rfl
    | succ q => simp only [riseB, Bool.or_eq_true, decide_eq_true_eq]; exact .inr h2
  · cases hr : rootB (rat rs k).id
    · exact rord_not hr
    · rw [rord_yes hr]; simpa using h3 (hroot.2 hr)
  · cases k with
    | zero =>
      have := (rok_dep hrok).1
      have h5 := h3 (by simp [deepI] at h2; omega)
      simpa [nroots] using h5
    | succ q => exact h.2 (by omega)
theorem inv_deep {rs : List RowD} {k : Nat} (hk : k < rs.length) (h1 : rowB (rat rs k).id (rat rs k).dep (rat rs k).txt = true) (h2 : deepI rs k < (rat rs k).dep) : treeB rs = false := by
  cases k with
  | zero =>
    have hrok : rokB (rat rs 0) = true := h1
    rw [Bool.eq_false_iff]; intro g
    have p := treeP_of g
    have := (rok_root hrok).2 ((rootB_iff _).2 (by have := p.head; omega))
    simp [deepI] at h2; omega
  | succ q =>
    refine treeB_bad hk (step_bad2 ?_)
    simp only [deepI] at h2
    simp [riseB]; exact h2
theorem nroots_next {rs : List RowD} {k : Nat} (h1 : rowB (rat rs k).id (rat rs k).dep (rat rs k).txt = true) : (nroots rs (k + 1) : Int) = if (rat rs k).dep = 0 then (nroots rs k : Int) + 1 else (nroots rs k : Int) := by
  have hroot := rok_root (r := rat rs k) h1
  by_cases h : (rat rs k).dep = 0
  · rw [nroots_yes (hroot.1 h), if_pos h]; omega
  · have : rootB (rat rs k).id = false := by rw [Bool.eq_false_iff]; exact fun e => h (hroot.2 e)
    rw [nroots_not this, if_neg h]
theorem inv_end {rs : List RowD} (h : OkInv rs rs.length) : treeB rs = ((nroots rs rs.length : Int) == 3) := by
  cases h3 : ((nroots rs rs.length : Int) == 3)
  · exact tree_no3 h3
  · rw [tree_yes3 h.1 h3]
    have : (nroots rs rs.length : Int) = 3 := by simpa using h3
    have := nroots_le rs rs.length
    simpa using h.2 (by omega)

/-- The two arrays that the program keeps beside: block S has a mark for each number, block O the three roots. -/
def Marks (w : World) (O S : Nat) (f : Nat → Bool) : Prop :=
  (w.cell? ⟨O, 0, none⟩ = some (.int .i64 1) ∧ w.cell? ⟨O, 1, none⟩ = some (.int .i64 2) ∧ w.cell? ⟨O, 2, none⟩ = some (.int .i64 3)) ∧ ∀ v, v < 37 → w.cell? ⟨S, v, none⟩ = some (.bool (f v)) ∧ w.frozen? ⟨S, v, none⟩ = false
theorem Marks.below {w w' : World} {O S B : Nat} {f : Nat → Bool} (h : Marks w O S f) (hb : Below B w w') (h1 : O < B) (h2 : S < B) : Marks w' O S f := by
  refine ⟨?_, fun v hv => ?_⟩
  · rw [hb.cell (p := ⟨O, 0, none⟩) h1, hb.cell (p := ⟨O, 1, none⟩) h1, hb.cell (p := ⟨O, 2, none⟩) h1]; exact h.1
  · rw [hb.cell (p := ⟨S, v, none⟩) h2, hb.frozen (p := ⟨S, v, none⟩) h2]; exact h.2 v hv
theorem Marks.order {w : World} {O S : Nat} {f : Nat → Bool} (h : Marks w O S f) {c : Nat} (hc : c < 3) : w.cell? ⟨O, c, none⟩ = some (.int .i64 ((c : Int) + 1)) := by
  obtain ⟨a, b, d⟩ := h.1
  obtain rfl | rfl | rfl : c = 0 ∨ c = 1 ∨ c = 2 := by omega
  · exact a
  · exact b
  · exact d
theorem falses_at (v : Nat) (hv : v < 37) : (Array.replicate 37 (Value.bool false))[v]? = some (.bool false) := by
  rw [Array.getElem?_replicate, if_pos hv]
theorem marks_new (w : World) (t1 t2 : TypeId) : Marks ((w.alloc (.cells #[.int .i64 1, .int .i64 2, .int .i64 3] t1)).alloc (.cells (Array.replicate 37 (Value.bool false)) t2)) w.heap.size (w.heap.size + 1) (fun _ => false) := by
  refine ⟨⟨?_, ?_, ?_⟩, fun v hv => ⟨?_, ?_⟩⟩
  · simp [go_sem]
  · simp [go_sem]
  · simp [go_sem]
  · have h1 : ((w.alloc (.cells #[.int .i64 1, .int .i64 2, .int .i64 3] t1)).alloc (.cells (Array.replicate 37 (Value.bool false)) t2)).heap[w.heap.size + 1]? = some (.cells (Array.replicate 37 (Value.bool false)) t2) := by
      have := heap_alloc_new (w.alloc (.cells #[.int .i64 1, .int .i64 2, .int .i64 3] t1)) (.cells (Array.replicate 37 (Value.bool false)) t2)
      rw [World.size_alloc] at this; exact this
    unfold World.cell?
    simp only [h1]
    exact falses_at v hv
  · have h1 : ((w.alloc (.cells #[.int .i64 1, .int .i64 2, .int .i64 3] t1)).alloc (.cells (Array.replicate 37 (Value.bool false)) t2)).heap[w.heap.size + 1]? = some (.cells (Array.replicate 37 (Value.bool false)) t2) := by
      have := heap_alloc_new (w.alloc (.cells #[.int .i64 1, .int .i64 2, .int .i64 3] t1)) (.cells (Array.replicate 37 (Value.bool false)) t2)
      rw [World.size_alloc] at this; exact this
    unfold World.frozen?
    simp only [h1]
    simp
theorem Marks.set {w : World} {O S : Nat} {f : Nat → Bool} (h : Marks w O S f) (hne : O ≠ S) {v : Nat} (hv : v < 37) : Marks (w.setCell ⟨S, v, none⟩ (.bool true)) O S (fun u => f u || (v == u)) := by
  refine ⟨⟨?_, ?_, ?_⟩, fun u hu => ⟨?_, ?_⟩⟩
  · rw [World.cell?_setCell_other _ _ _ _ (fun e => by cases e; exact hne rfl)]; exact h.1.1
  · rw [World.cell?_setCell_other _ _ _ _ (fun e => by cases e; exact hne rfl)]; exact h.1.2.1
  · rw [World.cell?_setCell_other _ _ _ _ (fun e => by cases e; exact hne rfl)]; exact h.1.2.2
  · by_cases e : v = u
    · subst e
      rw [World.cell?_setCell_same' _ _ _ (by rw [(h.2 v hv).1]; rfl)]
      simp
    · rw [World.cell?_setCell_other _ _ _ _ (fun e2 => by cases e2; exact e rfl), (h.2 u hu).1]
      simp [e]
  · rw [World.frozen?_setCell]; exact (h.2 u hu).2
theorem Marks.congr {w : World} {O S : Nat} {f g : Nat → Bool} (h : Marks w O S f) (e : ∀ v, v < 37 → f v = g v) : Marks w O S g :=
  ⟨h.1, fun v hv => by rw [← e v hv]; exact h.2 v hv⟩
theorem seen_next {rs : List RowD} {k v : Nat} (hv : (rat rs k).id = (v : Int)) : ∀ u, u < 37 → (seenAt rs k u || (v == u)) = seenAt rs (k + 1) u := fun u _ => by
  rw [seenAt_succ, hv]
  congr 1
  rw [Bool.eq_iff_iff]; simp only [beq_iff_eq]; omega
theorem seen_bad {rs : List RowD} {k v : Nat} (hk : k < rs.length) (hv : (rat rs k).id = (v : Int)) (h : seenAt rs k v = true) : treeB rs = false := by
  obtain ⟨j, h1, h2⟩ := seenAt_yes h
  exact treeB_bad hk (step_bad4 h1 (by rw [hv, h2]; simp))
theorem seen_good {rs : List RowD} {k v : Nat} (hv : (rat rs k).id = (v : Int)) (h : seenAt rs k v = false) : ∀ j, j < k → (rat rs j).id ≠ (rat rs k).id := fun j hj => by
  rw [hv]; exact seenAt_no h j hj
theorem order_bad {rs : List RowD} {k : Nat} (hk : k < rs.length) (h1 : rowB (rat rs k).id (rat rs k).dep (rat rs k).txt = true) (h2 : (rat rs k).dep = 0) (h : ((rat rs k).id == (nroots rs k : Int) + 1) = false) : treeB rs = false := by
  have hr := (rok_root (r := rat rs k) h1).1 h2
  exact treeB_bad hk (step_bad3 ((rord_yes hr).trans h))
end Go.Proofs.Ytcpmahchagjhkaa
/-
  The program's tree of nodes in memory: what its blocks hold when the first m nodes are there (node 0 is the top, node i + 1 is row i), and what adding one does. Conditions: as each theorem says.
-/
namespace Go.Proofs.Ytcpmahchagjhkaa
open Go.ChangeShapes Go.WideShapes Go.ChangeAt Go.RowKit Go.Joins

def padr (nb : Nat → Nat) : Option Nat → Option Addr
  | none => none
  | some i => some ⟨nb i, 0, none⟩
def upO (rs : List RowD) (i : Nat) : Option Nat := if i = 0 then none else some (par (dp rs) i)
def ahO (rs : List RowD) (i : Nat) : Option Nat := if i = 0 then none else ah (dp rs) i
def nxO (rs : List RowD) (m i : Nat) : Option Nat := if i = 0 then none else nx (dp rs) m i
def nodeArr (nb : Nat → Nat) (rs : List RowD) (m i : Nat) : Array Value :=
  #[.int .i64 (nd rs i).id, .int .i64 (nd rs i).dep, .string (nd rs i).txt, .pointer (padr nb (upO rs i)), .pointer (padr nb (ahO rs i)), .pointer (padr nb (nxO rs m i)), .pointer (padr nb (fi (dp rs) m i)), .pointer (padr nb (la (dp rs) m i))]
theorem padr_congr {nb nb' : Nat → Nat} {o : Option Nat} (h : ∀ i, o = some i → nb i = nb' i) : padr nb o = padr nb' o := by
  cases o with
  | none => rfl
  | some i => simp [padr, h i rfl]
theorem blk_set {w : World} {b o : Nat} {c : Array Value} {t : TypeId} {v : Value} (h : w.heap[b]? = some (.cells c t (0, 0))) : (w.setCell ⟨b, o, none⟩ v).heap[b]? = some (.cells (c.setIfInBounds o v) t (0, 0)) := by
  simp [World.setCell, Array.getElem?_modify, h]

/-- What the links of an old node come to when node k + 1 is added under p. -/
theorem arr_next {rs : List RowD} {nb : Nat → Nat} {k g i : Nat} (hD : Deps (dp rs) (rs.length + 1)) (hk : k < rs.length) (hi : i < k + 1) :
    nodeArr (fun j => if j = k + 1 then g else nb j) rs (k + 2) i =
      #[.int .i64 (nd rs i).id, .int .i64 (nd rs i).dep, .string (nd rs i).txt, .pointer (padr nb (upO rs i)), .pointer (padr nb (ahO rs i)),
        .pointer (if i ≠ 0 ∧ la (dp rs) (k + 1) (par (dp rs) (k + 1)) = some i then some ⟨g, 0, none⟩ else padr nb (nxO rs (k + 1) i)),
        .pointer (if par (dp rs) (k + 1) = i ∧ la (dp rs) (k + 1) i = none then some ⟨g, 0, none⟩ else padr nb (fi (dp rs) (k + 1) i)),
        .pointer (if par (dp rs) (k + 1) = i then some ⟨g, 0, none⟩ else padr nb (la (dp rs) (k + 1) i))] := by
  have old : ∀ o : Option Nat, (∀ j, o = some j → j < k + 1) → padr (fun j => if j = k + 1 then g else nb j) o = padr nb o := fun o ho =>
    padr_congr fun j hj => if_neg (by have := ho j hj; omega)
  have new : padr (fun j => if j = k + 1 then g else nb j) (some (k + 1)) = some ⟨g, 0, none⟩ := by simp [padr]
  have e1 : padr (fun j => if j = k + 1 then g else nb j) (upO rs i) = padr nb (upO rs i) := by
    refine old _ fun j hj => ?_
    unfold upO at hj; split at hj
    · cases hj
    · cases hj; have := (par_spec hD (show 1 ≤ i by omega) (by omega)).1; omega
  have e2 : padr (fun j => if j = k + 1 then g else nb j) (ahO rs i) = padr nb (ahO rs i) := by
    refine old _ fun j hj => ?_
    unfold ahO at hj; split at hj
    · cases hj
    · have := (lstBelow_some _ _ _ hj).1; omega
  have e3 : padr (fun j => if j = k + 1 then g else nb j) (nxO rs (k + 2) i) = if i ≠ 0 ∧ la (dp rs) (k + 1) (par (dp rs) (k + 1)) = some i then some ⟨g, 0, none⟩ else padr nb (nxO rs (k + 1) i) := by
    unfold nxO
    by_cases h0 : i = 0
    · simp [h0, padr]
    · rw [if_neg h0, if_neg h0, nx_succ (dp rs) (k + 1) i (by omega) (by omega) (by omega)]
      by_cases hl : la (dp rs) (k + 1) (par (dp rs) (k + 1)) = some i
      · rw [if_pos hl, if_pos ⟨h0, hl⟩, new]
      · rw [if_neg hl, if_neg (fun h => hl h.2)]
        exact old _ fun j hj => (fstBelow_some _ _ _ hj).1
  have e4 : padr (fun j => if j = k + 1 then g else nb j) (fi (dp rs) (k + 2) i) = if par (dp rs) (k + 1) = i ∧ la (dp rs) (k + 1) i = none then some ⟨g, 0, none⟩ else padr nb (fi (dp rs) (k + 1) i) := by
    rw [fi_succ (dp rs) (k + 1) i (by omega)]
    split
    · exact new
    · exact old _ fun j hj => (fstBelow_some _ _ _ hj).1
  have e5 : padr (fun j => if j = k + 1 then g else nb j) (la (dp rs) (k + 2) i) = if par (dp rs) (k + 1) = i then some ⟨g, 0, none⟩ else padr nb (la (dp rs) (k + 1) i) := by
    rw [la_succ (dp rs) (k + 1) i (by omega)]
    split
    · exact new
    · exact old _ fun j hj => (lstBelow_some _ _ _ hj).1
  unfold nodeArr
  rw [e1, e2, e3, e4, e5]
theorem arr_new {rs : List RowD} {nb : Nat → Nat} {k g : Nat} (hD : Deps (dp rs) (rs.length + 1)) (hk : k < rs.length) :
    nodeArr (fun j => if j = k + 1 then g else nb j) rs (k + 2) (k + 1) =
      #[.int .i64 (rat rs k).id, .int .i64 (rat rs k).dep, .string (rat rs k).txt, .pointer (some ⟨nb (par (dp rs) (k + 1)), 0, none⟩), .pointer (padr nb (la (dp rs) (k + 1) (par (dp rs) (k + 1)))), .pointer none, .pointer none, .pointer none] := by
  have hp := (par_spec hD (show 1 ≤ k + 1 by omega) (by omega)).1
  have lt : ∀ j, 1 ≤ j → j ≤ k + 1 → par (dp rs) j < j := fun j h1 h2 => (par_spec hD h1 (by omega)).1
  have e1 : padr (fun j => if j = k + 1 then g else nb j) (upO rs (k + 1)) = some ⟨nb (par (dp rs) (k + 1)), 0, none⟩ := by
    unfold upO; rw [if_neg (by omega)]
    simp only [padr]; rw [if_neg (by omega)]
  have e2 : padr (fun j => if j = k + 1 then g else nb j) (ahO rs (k + 1)) = padr nb (la (dp rs) (k + 1) (par (dp rs) (k + 1))) := by
    unfold ahO; rw [if_neg (by omega), ah_new]
    exact padr_congr fun j hj => if_neg (by have := (lstBelow_some _ _ _ hj).1; omega)
  have e3 : padr (fun j => if j = k + 1 then g else nb j) (nxO rs (k + 2) (k + 1)) = none := by
    unfold nxO; rw [if_neg (by omega), nx_new]; rfl
  have e4 : padr (fun j => if j = k + 1 then g else nb j) (fi (dp rs) (k + 2) (k + 1)) = none := by rw [fi_new (k + 1) lt]; rfl
  have e5 : padr (fun j => if j = k + 1 then g else nb j) (la (dp rs) (k + 2) (k + 1)) = none := by rw [la_new (k + 1) lt]; rfl
  unfold nodeArr
  rw [e1, e2, e3, e4, e5]
  rfl
/-- Two new blocks behind a world: the old ones stay, the second is the last. -/
theorem two_old (u : World) (o1 o2 : Obj) (b : Nat) (hb : b < u.heap.size) : ((u.alloc o1).alloc o2).drew.heap[b]? = u.heap[b]? := by
  show ((u.alloc o1).alloc o2).heap[b]? = _
  rw [Below.heap_alloc _ _ _ (by simp; omega), Below.heap_alloc _ _ _ hb]
theorem two_new (u : World) (o1 o2 : Obj) : ((u.alloc o1).alloc o2).drew.heap[u.heap.size + 1]? = some o2 := by
  show ((u.alloc o1).alloc o2).heap[u.heap.size + 1]? = _
  have := heap_alloc_new (u.alloc o1) o2
  rw [World.size_alloc] at this; exact this
theorem size_set (w : World) (p : Addr) (v : Value) : (w.setCell p v).heap.size = w.heap.size := by simp [World.setCell]
end Go.Proofs.Ytcpmahchagjhkaa
/-
  The program's nodes in memory, by their links: what a store into a link does, and the contracts of (*node).join and put. Conditions: as each theorem says.
-/
namespace Go.Proofs.Ytcpmahchagjhkaa
open Go.ChangeShapes Go.WideShapes Go.ChangeAt Go.RowKit Go.Joins

structure L5 where
  up : Nat → Option Nat
  ah : Nat → Option Nat
  nx : Nat → Option Nat
  fi : Nat → Option Nat
  la : Nat → Option Nat
def upd (f : Nat → Option Nat) (x : Nat) (v : Option Nat) : Nat → Option Nat := fun y => if y = x then v else f y
theorem upd_same (f : Nat → Option Nat) (x : Nat) (v : Option Nat) : upd f x v x = v := by simp [upd]
theorem upd_ne {f : Nat → Option Nat} {x y : Nat} {v : Option Nat} (h : y ≠ x) : upd f x v y = f y := by simp [upd, h]
def lkArr (nb : Nat → Nat) (R : Nat → RowD) (L : L5) (x : Nat) : Array Value :=
  #[.int .i64 (R x).id, .int .i64 (R x).dep, .string (R x).txt, .pointer (padr nb (L.up x)), .pointer (padr nb (L.ah x)), .pointer (padr nb (L.nx x)), .pointer (padr nb (L.fi x)), .pointer (padr nb (L.la x))]
def l5D (rs : List RowD) (m : Nat) : L5 := ⟨upO rs, ahO rs, nxO rs m, fi (dp rs) m, la (dp rs) m⟩
section
variable {w w' : World} {nb : Nat → Nat} {R : Nat → RowD} {L : L5} {M : Nat}
end

/-! ### join -/
def join1 (L : L5) (n : Nat) (a x : Option Nat) : L5 := match a with
  | none => { L with fi := upd L.fi n x }
  | some a => { L with nx := upd L.nx a x }
def join2 (L : L5) (n : Nat) (a x : Option Nat) : L5 := match x with
  | none => { L with la := upd L.la n a }
  | some x => { L with ah := upd L.ah x a }
def joinL (L : L5) (n : Nat) (a x : Option Nat) : L5 := join2 (join1 L n a x) n a x
/-! ### put -/
def nextOf (L : L5) (n : Nat) (a : Option Nat) : Option Nat := match a with
  | none => L.fi n
  | some a => L.nx a
def put1 (L : L5) (n k : Nat) (a : Option Nat) : L5 := { L with up := upd L.up k (some n), ah := upd L.ah k a, nx := upd L.nx k (nextOf L n a) }
def putL (L : L5) (n k : Nat) (a : Option Nat) : L5 := joinL (joinL (put1 L n k a) n a (some k)) n (some k) (nextOf L n a)
theorem upd_upd (f : Nat → Option Nat) (x : Nat) (u v : Option Nat) : upd (upd f x u) x v = upd f x v := by
  funext y; unfold upd; split <;> rfl
theorem put_nx (L : L5) (n k : Nat) (a : Option Nat) (hak : a ≠ some k) : (joinL (put1 L n k a) n a (some k)).nx k = nextOf L n a := by
  cases a with
  | none => simp [joinL, join2, join1, put1, upd]
  | some a =>
    have : k ≠ a := fun e => hak (by rw [e])
    simp [joinL, join2, join1, put1, upd, this]
end Go.Proofs.Ytcpmahchagjhkaa
/-
  Contracts of the program's (*node).add and treeOf. Conditions: the rows lie in memory as a slice of rows; the table 'creators' holds what its initialiser lays.
-/
namespace Go.Proofs.Ytcpmahchagjhkaa
open Go.ChangeShapes Go.WideShapes Go.ChangeAt Go.RowKit Go.Joins

/-- The links before node k + 1 is put: it has none. -/
def l50 (rs : List RowD) (k : Nat) : L5 := ⟨upd (upO rs) (k + 1) none, upd (ahO rs) (k + 1) none, upd (nxO rs (k + 1)) (k + 1) none, upd (fi (dp rs) (k + 1)) (k + 1) none, upd (la (dp rs) (k + 1)) (k + 1) none⟩
theorem la_nx {D : Nat → Int} {m p l : Nat} (h : la D m p = some l) : nx D m l = none := by
  obtain ⟨a, b, c⟩ := lstBelow_some _ _ _ h
  refine fstBelow_mk_none _ _ (fun i hi => ?_)
  rw [Bool.eq_false_iff]; intro g
  simp only [Bool.and_eq_true, decide_eq_true_eq] at g
  have := c i g.1 hi
  rw [(isKid_iff.1 b).2] at g
  rw [g.2] at this; cases this
theorem la_fi {D : Nat → Int} {m p : Nat} (h : la D m p = none) : fi D m p = none := fstBelow_mk_none _ _ (lstBelow_none _ _ h)
theorem l50_next {rs : List RowD} {k p : Nat} (hp : p < k + 1) : nextOf (l50 rs k) p (la (dp rs) (k + 1) p) = none := by
  cases h : la (dp rs) (k + 1) p with
  | none => simp only [nextOf, l50]; rw [upd_ne (by omega)]; exact la_fi h
  | some l =>
    have hl := (lstBelow_some _ _ _ h).1
    have h0 := (isKid_iff.1 (lstBelow_some _ _ _ h).2.1).1
    simp only [nextOf, l50]; rw [upd_ne (by omega)]
    unfold nxO; rw [if_neg (by omega)]; exact la_nx h
/-- Put behind the last one, the new node has the links of the longer row of nodes. -/
theorem add_links {rs : List RowD} {k : Nat} (hD : Deps (dp rs) (rs.length + 1)) (hk : k < rs.length) : ∀ i, i < k + 2 →
    (putL (l50 rs k) (par (dp rs) (k + 1)) (k + 1) (la (dp rs) (k + 1) (par (dp rs) (k + 1)))).up i = upO rs i ∧ (putL (l50 rs k) (par (dp rs) (k + 1)) (k + 1) (la (dp rs) (k + 1) (par (dp rs) (k + 1)))).ah i = ahO rs i ∧
    (putL (l50 rs k) (par (dp rs) (k + 1)) (k + 1) (la (dp rs) (k + 1) (par (dp rs) (k + 1)))).nx i = nxO rs (k + 2) i ∧ (putL (l50 rs k) (par (dp rs) (k + 1)) (k + 1) (la (dp rs) (k + 1) (par (dp rs) (k + 1)))).fi i = fi (dp rs) (k + 2) i ∧
    (putL (l50 rs k) (par (dp rs) (k + 1)) (k + 1) (la (dp rs) (k + 1) (par (dp rs) (k + 1)))).la i = la (dp rs) (k + 2) i := by
  intro i hi
  have hp := (par_spec hD (show 1 ≤ k + 1 by omega) (by omega)).1
  have lt : ∀ j, 1 ≤ j → j ≤ k + 1 → par (dp rs) j < j := fun j h1 h2 => (par_spec hD h1 (by omega)).1
  have hnx := l50_next (rs := rs) hp
  have eU : upO rs (k + 1) = some (par (dp rs) (k + 1)) := by unfold upO; rw [if_neg (by omega)]
  have eA : ahO rs (k + 1) = la (dp rs) (k + 1) (par (dp rs) (k + 1)) := by unfold ahO; rw [if_neg (by omega), ah_new]
  have eN : nxO rs (k + 2) (k + 1) = none := by unfold nxO; rw [if_neg (by omega)]; exact nx_new _ _
  have eF : fi (dp rs) (k + 2) (k + 1) = none := fi_new (k + 1) lt
  have eL : la (dp rs) (k + 2) (k + 1) = none := la_new (k + 1) lt
  unfold putL
  rw [hnx]
  unfold put1
  rw [hnx]
  cases h : la (dp rs) (k + 1) (par (dp rs) (k + 1)) with
  | none =>
    rw [h] at eA
    simp only [joinL, join1, join2, l50, upd_upd]
    by_cases e : i = k + 1
    · subst e
      simp [upd, eU, eA, eN, eF, eL, show k + 1 ≠ par (dp rs) (k + 1) by omega]
    · have n1 : nxO rs (k + 2) i = nxO rs (k + 1) i := by
        unfold nxO
        split
        · rfl
        · rw [nx_succ (dp rs) (k + 1) i (by omega) (by omega) (by omega), h]; simp
      rw [fi_succ (dp rs) (k + 1) i (by omega), la_succ (dp rs) (k + 1) i (by omega), n1]
      by_cases ep : i = par (dp rs) (k + 1)
      · simp [upd, ep, show par (dp rs) (k + 1) ≠ k + 1 by omega, h]
      · have ep' : par (dp rs) (k + 1) ≠ i := fun q => ep q.symm
        simp [upd, e, ep, ep']
  | some l =>
    have hl := (lstBelow_some _ _ _ h).1
    have hl0 := (isKid_iff.1 (lstBelow_some _ _ _ h).2.1).1
    rw [h] at eA
    simp only [joinL, join1, join2, l50, upd_upd]
    by_cases e : i = k + 1
    · subst e
      simp [upd, eU, eA, eN, eF, eL, show k + 1 ≠ par (dp rs) (k + 1) by omega]
    · have n1 : nxO rs (k + 2) i = if i = l then some (k + 1) else nxO rs (k + 1) i := by
        unfold nxO
        by_cases i0 : i = 0
        · simp [i0, show (0 : Nat) ≠ l by omega]
        · rw [if_neg i0, if_neg i0, nx_succ (dp rs) (k + 1) i (by omega) (by omega) (by omega), h]
          by_cases il : i = l
          · simp [il]
          · simp [il, show l ≠ i from fun q => il q.symm]
      rw [fi_succ (dp rs) (k + 1) i (by omega), la_succ (dp rs) (k + 1) i (by omega), n1]
      by_cases ep : i = par (dp rs) (k + 1)
      · have hne : par (dp rs) (k + 1) ≠ k + 1 := by omega
        subst ep
        simp [upd, e, h]
      · have ep' : par (dp rs) (k + 1) ≠ i := fun q => ep q.symm
        simp [upd, e, ep, ep']
/-! ### treeOf -/
end Go.Proofs.Ytcpmahchagjhkaa
/-
  Contracts of the program's (*node).walk, below and find: the descendants of a node are gone over in preorder; find gives the first one with a number. Conditions: the nodes lie in memory as treeOf makes them.
-/
namespace Go.Proofs.Ytcpmahchagjhkaa
open Go.ChangeShapes Go.WideShapes Go.ChangeAt Go.RowKit Go.Joins Go.Shelf

attribute [local go_sem] Oper.semAt_some

/-- The places s, s + 1 and so on, k of them. -/
def seg (m : Nat) : Nat → Nat → List (Fin m)
  | _, 0 => []
  | s, k + 1 => (if h : s < m then [⟨s, h⟩] else []) ++ seg m (s + 1) k
theorem seg_add (m : Nat) : ∀ a s b, seg m s (a + b) = seg m s a ++ seg m (s + a) b
  | 0, s, b => by simp [seg]
  | a + 1, s, b => by
    rw [show a + 1 + b = (a + b) + 1 by omega, seg, seg, seg_add m a (s + 1) b, List.append_assoc, show s + 1 + a = s + (a + 1) by omega]
theorem seg_len (m : Nat) : ∀ k s, s + k ≤ m → (seg m s k).length = k
  | 0, s, _ => rfl
  | k + 1, s, h => by
    have := seg_len m k (s + 1) (by omega)
    rw [seg, dif_pos (show s < m by omega), List.length_append, this]; simp; omega
theorem seg_one (m s : Nat) (h : s < m) : seg m s 1 = [⟨s, h⟩] := by simp [seg, h]

def ptrLeft (n₀ : Nat) (v : Value) : Nat := match v with
  | .pointer (some a) => n₀ - a.block
  | _ => 0
theorem room_none {F : Fence} (hd : F.depth = none) (k : Nat) : F.room k := fun d h => by rw [hd] at h; cases h
theorem yield_any {F : Fence} (hd : F.depth = none) {m : Nat} (m' : Nat) {P : Program} {l : Nat} {args : Array Value} {W : World} {R : Ending → World → Prop} (h : YieldAt F m P l args W R) : YieldAt F m' P l args W R := by
  obtain ⟨fn, tmps, assign, body, hy, hR⟩ := h
  exact ⟨fn, tmps, assign, body, hy, hR.1, fun c cs _ => hR.2 c cs (room_none hd _)⟩

/-- The pointer to the child at place c, if there is one ahead of place e. -/
def kidP (nb : Nat → Nat) (c e : Nat) : Option Addr := if c < e then some ⟨nb c, 0, none⟩ else none
theorem kidP_yes {nb : Nat → Nat} {c e : Nat} (h : c < e) : kidP nb c e = some ⟨nb c, 0, none⟩ := if_pos h
theorem kidP_no {nb : Nat → Nat} {c e : Nat} (h : ¬ c < e) : kidP nb c e = none := if_neg h
theorem padr_kid {nb : Nat → Nat} {c e : Nat} : padr nb (if c < e then some c else none) = kidP nb c e := by
  unfold kidP; split <;> rfl
theorem left_kid {n₀ : Nat} {nb : Nat → Nat} {c e : Nat} : ptrLeft n₀ (.pointer (kidP nb c e)) = if c < e then n₀ - nb c else 0 := by
  unfold kidP; split <;> rfl
def Walked {m : Nat} (n₀ : Nat) (J Jx : List (Fin m) → World → Prop) (pre xs : List (Fin m)) (W : World) (e : Ending) (W' : World) : Prop :=
  (e = .returned (.bool true) ∧ J (pre ++ xs) W' ∧ Below n₀ W W') ∨ (e = .returned (.bool false) ∧ ∃ q, q <+: xs ∧ Jx (pre ++ q) W')

end Go.Proofs.Ytcpmahchagjhkaa
/-
  Contracts of the program's (*node).below and find: find gives the first descendant with a number. Conditions: the nodes lie in memory as treeOf makes them.
-/
namespace Go.Proofs.Ytcpmahchagjhkaa
open Go.ChangeShapes Go.WideShapes Go.ChangeAt Go.RowKit Go.Joins Go.Shelf

attribute [local go_sem] Oper.semAt_some

/-! ### find -/
def fndO (rs : List RowD) (m : Nat) (id : Int) : Option Nat := if fstFrom (fun i => (rat rs i).id == id) (m - 1) 0 < m - 1 then some (fstFrom (fun i => (rat rs i).id == id) (m - 1) 0 + 1) else none
theorem seg_mem (m : Nat) : ∀ k s (x : Fin m), x ∈ seg m s k → s ≤ x.1 ∧ x.1 < s + k
  | 0, s, x, h => by simp [seg] at h
  | k + 1, s, x, h => by
    rw [seg, List.mem_append] at h
    rcases h with h | h
    · split at h
      · simp at h; subst h; exact ⟨Nat.le_refl _, by show s < s + (k + 1); omega⟩
      · simp at h
    · have := seg_mem m k (s + 1) x h; omega
theorem mem_seg (m : Nat) : ∀ k s (x : Fin m), s ≤ x.1 → x.1 < s + k → x ∈ seg m s k
  | 0, s, x, h1, h2 => by omega
  | k + 1, s, x, h1, h2 => by
    rw [seg, List.mem_append]
    by_cases e : x.1 = s
    · left; rw [dif_pos (by omega)]; simp; exact Fin.ext e
    · right; exact mem_seg m k (s + 1) x (by omega) (by omega)
/-- A prefix of the places from s on is again such a list. -/
theorem seg_prefix (m : Nat) (s k : Nat) (hm : s + k ≤ m) (pre : List (Fin m)) (h : pre <+: seg m s k) : pre = seg m s pre.length := by
  obtain ⟨r, hr⟩ := h
  have hl : (seg m s k).length = k := seg_len m k s hm
  have hle : pre.length ≤ k := by rw [← hl, ← hr, List.length_append]; omega
  have : seg m s k = seg m s pre.length ++ seg m (s + pre.length) (k - pre.length) := by rw [← seg_add]; congr 1; omega
  rw [this] at hr
  exact (List.append_inj hr (by rw [seg_len m _ _ (by omega)])).1
theorem fnd_none {rs : List RowD} {m : Nat} {id : Int} (h : ∀ y : Fin m, y ∈ seg m 1 (m - 1) → (nd rs y.1).id ≠ id) : fndO rs m id = none := by
  unfold fndO
  rw [if_neg]
  intro g
  have := fstFrom_yes (fun i => (rat rs i).id == id) (m - 1) 0 (by omega)
  simp only [beq_iff_eq] at this
  exact h ⟨_, show fstFrom (fun i => (rat rs i).id == id) (m - 1) 0 + 1 < m by omega⟩ (mem_seg m _ _ _ (by simp) (by simp; omega)) this
theorem fnd_some {rs : List RowD} {m : Nat} {id : Int} {pre : List (Fin m)} {x : Fin m} (hp : pre ++ [x] <+: seg m 1 (m - 1)) (hx : (nd rs x.1).id = id) (h : ∀ y, y ∈ pre → (nd rs y.1).id ≠ id) : fndO rs m id = some x.1 := by
  have hm : 1 ≤ m := by have := x.2; omega
  have e := seg_prefix m 1 (m - 1) (by omega) _ hp
  have hl : (pre ++ [x]).length = pre.length + 1 := by simp
  rw [hl, seg_add] at e
  have hle : pre.length + 1 ≤ m - 1 := by
    obtain ⟨r, hr⟩ := hp
    have := congrArg List.length hr
    rw [seg_len m _ _ (by omega)] at this
    simp at this; omega
  obtain ⟨e1, e2⟩ := List.append_inj e (by rw [seg_len m _ _ (by omega)])
  rw [seg_one m _ (by omega)] at e2
  have ex : x.1 = 1 + pre.length := by have := List.cons.inj e2 |>.1; rw [this]
  have hmem : ∀ y : Fin m, y ∈ seg m 1 pre.length → y ∈ pre := fun y hy => by rw [e1]; exact hy
  have key : fstFrom (fun i => (rat rs i).id == id) (m - 1) 0 = pre.length := by
    refine fstFrom_uniq _ _ _ _ (Nat.zero_le _) (by omega) (fun j _ hj => ?_) (fun _ => ?_)
    · have := h ⟨j + 1, by omega⟩ (hmem _ (mem_seg m _ _ _ (by simp) (by simp; omega)))
      simpa [nd] using this
    · rw [ex, show 1 + pre.length = pre.length + 1 by omega] at hx
      simpa [nd] using hx
  unfold fndO
  rw [key, if_pos (by omega), ex]
  congr 1; omega
theorem deps_one (D : Nat → Int) (h : D 0 = -1) : Deps D 1 := ⟨Nat.le_refl _, h, fun i h1 h2 => by omega, fun i h1 h2 => by omega⟩
theorem cell_box {W : World} {B : Nat} {v : Value} {t : TypeId} (h : W.heap[B]? = some (.cells #[v] t (0, 0))) : W.cell? ⟨B, 0, none⟩ = some v ∧ W.frozen? ⟨B, 0, none⟩ = false := by
  constructor <;> simp [World.cell?, World.frozen?, h]
theorem cell_newbox (W : World) (v : Value) (t : TypeId) : (W.alloc (.cells #[v] t)).cell? ⟨W.heap.size, 0, none⟩ = some v ∧ (W.alloc (.cells #[v] t)).frozen? ⟨W.heap.size, 0, none⟩ = false :=
  cell_box (World.alloc_heap_new W _)
theorem cell_onbox {W : World} {a : Addr} {v : Value} (o : Obj) (h : W.cell? a = some v) : (W.alloc o).cell? a = some v := cell_kept h (World.grownBy_alloc W o none) (fun r e => by cases e)
theorem frozen_onbox {W : World} {a : Addr} {v : Value} (o : Obj) (h : W.cell? a = some v) (hf : W.frozen? a = false) : (W.alloc o).frozen? a = false := (frozen_kept h (World.grownBy_alloc W o none) (fun r e => by cases e)).trans hf
def Found (nb : Nat → Nat) (o : Option Nat) (w : World) (e : Ending) (w' : World) : Prop := e = .returned (.pointer (padr nb o)) ∧ Below w.heap.size w w'
end Go.Proofs.Ytcpmahchagjhkaa
/-
  Contracts of the program's TreeUp, TreeAhead, TreeUnder: they answer as the model's. Conditions: the rows lie in memory as a slice of rows; the table 'creators' holds what its initialiser lays.
-/
namespace Go.Proofs.Ytcpmahchagjhkaa
open Go.ChangeShapes Go.WideShapes Go.ChangeAt Go.RowKit Go.Joins

/-- How many nodes there are: the top alone where the rows are no outline. -/
def nodesN (rs : List RowD) : Nat := (if treeB rs then rs.length else 0) + 1
theorem nodesN_deps (rs : List RowD) : Deps (dp rs) (nodesN rs) := by
  unfold nodesN
  cases h : treeB rs
  · exact deps_one _ rfl
  · exact (treeP_of h).deps
theorem fnd_no {rs : List RowD} {id : Int} (h : hasB rs id = false) : fndO rs (nodesN rs) id = none := by
  unfold fndO nodesN
  cases ht : treeB rs
  · rfl
  · simp only [hasB, ht, Bool.true_and, decide_eq_false_iff_not] at h
    rw [if_neg]
    exact h
theorem hasB_iff {rs : List RowD} {id : Int} : hasB rs id = true ↔ treeB rs = true ∧ atN rs id < rs.length := by simp [hasB]
theorem fnd_yes {rs : List RowD} {id : Int} (h : hasB rs id = true) : fndO rs (nodesN rs) id = some (atN rs id + 1) := by
  obtain ⟨h1, h2⟩ := hasB_iff.1 h
  unfold fndO nodesN
  rw [h1]
  exact if_pos h2
theorem nodesN_tree {rs : List RowD} (h : treeB rs = true) : nodesN rs = rs.length + 1 := by simp [nodesN, h]

/-! ### TreeAhead -/
theorem ah_shift {rs : List RowD} (h : TreeP rs) {i : Nat} (hi : i < rs.length) (hr : 1 ≤ (rat rs i).dep) :
    (ah (dp rs) (i + 1) = none ∧ ahAt rs i = 0) ∨ (∃ j, j < rs.length ∧ ah (dp rs) (i + 1) = some (j + 1) ∧ ahAt rs i = (rat rs j).id) := by
  have hD := h.deps
  obtain ⟨p1, p2, p3⟩ := par_spec hD (show 1 ≤ i + 1 by omega) (show i + 1 < rs.length + 1 by omega)
  have pd := par_dep hD (show 1 ≤ i + 1 by omega) (show i + 1 < rs.length + 1 by omega)
  have pin := par_in hD (show 1 ≤ i + 1 by omega) (show i + 1 < rs.length + 1 by omega)
  have pne : par (dp rs) (i + 1) ≠ 0 := fun e => by
    rw [e] at pd
    have h0 := hD.top
    have : dp rs (i + 1) = (rat rs i).dep := rfl
    omega
  obtain ⟨q, hq⟩ : ∃ q, par (dp rs) (i + 1) = q + 1 := ⟨par (dp rs) (i + 1) - 1, by omega⟩
  have dq : rdep rs q = rdep rs i - 1 := by rw [hq] at pd; exact pd
  unfold ahAt
  cases e : lstBelow (fun j => decide (rdep rs j ≤ rdep rs i)) i with
  | none =>
    have := lstBelow_none _ _ e q (by omega)
    simp only [decide_eq_false_iff_not] at this
    omega
  | some j =>
    obtain ⟨a, b, c⟩ := lstBelow_some _ _ _ e
    simp only [decide_eq_true_eq] at b
    have hqj : q ≤ j := by
      rcases Nat.lt_or_ge j q with g | g
      · have := c q g (by omega)
        simp only [decide_eq_false_iff_not] at this; omega
      · exact g
    by_cases ej : rdep rs j = rdep rs i
    · right
      refine ⟨j, by omega, ?_, by simp only; rw [if_pos ej]⟩
      unfold ah
      have hjq : q < j := by
        rcases Nat.lt_or_ge q j with g | g
        · exact g
        · have : j = q := by omega
          rw [this] at ej; omega
      refine lstBelow_mk _ _ _ (by omega) ?_ (fun l h1 h2 => ?_)
      · refine (kid_iff hD (by omega) (by omega)).2 ⟨by omega, by omega, ?_⟩
        rw [pd]
        show rdep rs j = rdep rs i - 1 + 1
        omega
      · obtain ⟨l', rfl⟩ : ∃ l', l = l' + 1 := ⟨l - 1, by omega⟩
        rw [Bool.eq_false_iff]; intro g
        have k := ((kid_iff hD (show par (dp rs) (i + 1) < rs.length + 1 by omega) (show l' + 1 < rs.length + 1 by omega)).1 g).2.2
        rw [pd] at k
        have := c l' (by omega) (by omega)
        simp only [decide_eq_false_iff_not] at this
        have k' : rdep rs l' = rdep rs i - 1 + 1 := k
        omega
    · left
      have hj : j = q := by
        rcases Nat.lt_or_ge q j with g | g
        · have := p3 (j + 1) (by omega) (by omega)
          have t : rdep rs i ≤ rdep rs j := this
          omega
        · omega
      refine ⟨?_, by simp only; rw [if_neg ej]⟩
      unfold ah
      refine lstBelow_mk_none _ _ (fun l hl => ?_)
      rw [Bool.eq_false_iff]; intro g
      have k := (kid_iff hD (show par (dp rs) (i + 1) < rs.length + 1 by omega) (show l < rs.length + 1 by omega)).1 g
      obtain ⟨l', rfl⟩ : ∃ l', l = l' + 1 := ⟨l - 1, by omega⟩
      have := c l' (by omega) (by omega)
      simp only [decide_eq_false_iff_not] at this
      have k' : rdep rs l' = dp rs (par (dp rs) (i + 1)) + 1 := k.2.2
      rw [pd] at k'
      have : dp rs (i + 1) = rdep rs i := rfl
      omega
theorem ahB_iff {rs : List RowD} {id : Int} (h : hasB rs id = true) : ahB rs id = !rootB id := by simp [ahB, h]
theorem root_at {rs : List RowD} {id : Int} (h : hasB rs id = true) : ((rat rs (atN rs id)).dep == 0) = rootB id := by
  obtain ⟨h1, h2⟩ := hasB_iff.1 h
  have h3 := rok_root ((treeP_of h1).rok _ h2)
  rw [atN_id h2] at h3
  rw [Bool.eq_iff_iff, beq_iff_eq]; exact h3
end Go.Proofs.Ytcpmahchagjhkaa
/-
  Go's == and != between two pointers to nodes, each to the first cell of a block of its own. Conditions: the two blocks hold cells, none of them frozen.
-/
namespace Go.Proofs.Ytcpmahchagjhkaa
open Go.ChangeShapes Go.WideShapes Go.ChangeAt Go.RowKit

theorem same_nodes (w : World) (a : Nat) : (sameAddr ⟨a, 0, none⟩ ⟨a, 0, none⟩).run Try.prog w = .ok true w := run_sameAddr_same w _
end Go.Proofs.Ytcpmahchagjhkaa
/-
  Contracts of the program's TreeUnder and TreeKids: they answer as the model's. Conditions: the rows lie in memory as a slice of rows; the table 'creators' holds what its initialiser lays.
-/
namespace Go.Proofs.Ytcpmahchagjhkaa
open Go.ChangeShapes Go.WideShapes Go.ChangeAt Go.RowKit Go.Joins

theorem undT_no1 {rs : List RowD} {id under : Int} (h : hasB rs id = false) : undT rs id under = false := by
  cases ht : treeB rs
  · simp [undT, ht]
  · simp only [hasB, ht, Bool.true_and, decide_eq_false_iff_not] at h
    simp [undT, undB_no1 h]
theorem undT_no2 {rs : List RowD} {id under : Int} (h : hasB rs under = false) : undT rs id under = false := by
  cases ht : treeB rs
  · simp [undT, ht]
  · simp only [hasB, ht, Bool.true_and, decide_eq_false_iff_not] at h
    simp [undT, undB_no2 h]
theorem undT_un {rs : List RowD} {id under : Int} (h1 : hasB rs id = true) (h2 : hasB rs under = true) : undT rs id under = true ↔ un (dp rs) (rs.length + 1) (atN rs id + 1) (atN rs under + 1) := by
  obtain ⟨ht, ha⟩ := hasB_iff.1 h1
  obtain ⟨_, hb⟩ := hasB_iff.1 h2
  unfold un
  rw [en_shift hb]
  simp only [undT, ht, undB, ha, hb, decide_true, Bool.true_and, Bool.and_eq_true, decide_eq_true_eq]
  omega
/-- Where the program's look upwards stands: at node c, or beyond the top. -/
def curO (k : Nat) : Option Nat := if k = 0 then none else some (k - 1)
theorem un_top {D : Nat → Int} {m b : Nat} (hb : 1 ≤ b) : ¬ un D m 0 b := fun h => by have := h.1; omega
def unB (D : Nat → Int) (m a b : Nat) : Bool := decide (b ≤ a) && decide (a < en D m b)
theorem unB_iff {D : Nat → Int} {m a b : Nat} : unB D m a b = true ↔ un D m a b := by simp [unB, un]
theorem undT_eq {rs : List RowD} {id under : Int} (h1 : hasB rs id = true) (h2 : hasB rs under = true) : undT rs id under = unB (dp rs) (rs.length + 1) (atN rs id + 1) (atN rs under + 1) := by
  rw [Bool.eq_iff_iff, unB_iff]; exact undT_un h1 h2
end Go.Proofs.Ytcpmahchagjhkaa
/-
  Contract of the program's TreeKids: it answers as the model's, in memory of its own. Conditions: the rows lie in memory as a slice of rows; the table 'creators' holds what its initialiser lays.
-/
namespace Go.Proofs.Ytcpmahchagjhkaa
open Go.ChangeShapes Go.WideShapes Go.ChangeAt Go.RowKit Go.Joins

theorem kidsOf_skip {rs : List RowD} {x : Nat} : ∀ k s, (∀ j, s ≤ j → j < s + k → rdep rs j ≠ rdep rs x + 1) → kidsOf rs x s k = []
  | 0, s, _ => rfl
  | k + 1, s, h => by
    rw [kidsOf, if_neg (h s (Nat.le_refl _) (by omega)), kidsOf_skip k (s + 1) (fun j h1 h2 => h j (by omega) (by omega))]; rfl
theorem kidsOf_add (rs : List RowD) (x : Nat) : ∀ a s b, kidsOf rs x s (a + b) = kidsOf rs x s a ++ kidsOf rs x (s + a) b
  | 0, s, b => by simp [kidsOf]
  | a + 1, s, b => by
    rw [show a + 1 + b = (a + b) + 1 by omega, kidsOf, kidsOf, kidsOf_add rs x a (s + 1) b, List.append_assoc, show s + 1 + a = s + (a + 1) by omega]
theorem kids_jump {rs : List RowD} {x c c' : Nat} (h1 : x + 2 ≤ c) (h2 : c < c') (h3 : rdep rs (c - 1) = rdep rs x + 1) (h4 : ∀ j, c ≤ j → j < c' - 1 → rdep rs x + 1 < rdep rs j) :
    kidsOf rs x (x + 1) (c' - (x + 2)) = kidsOf rs x (x + 1) (c - (x + 2)) ++ [(rat rs (c - 1)).id] := by
  rw [show c' - (x + 2) = (c - (x + 2)) + (1 + (c' - 1 - c)) by omega, kidsOf_add, kidsOf_add, show x + 1 + (c - (x + 2)) = c - 1 by omega, show c - 1 + 1 = c by omega,
    kidsOf_skip (c' - 1 - c) c (fun j a b => by have := h4 j a (by omega); omega)]
  simp [kidsOf, h3]
theorem kidsT_no {rs : List RowD} {id : Int} (h : hasB rs id = false) : kidsT rs id = [] := by
  unfold kidsT
  cases ht : treeB rs
  · rfl
  · simp only [hasB, ht, Bool.true_and, decide_eq_false_iff_not] at h
    exact kidsL_no h
theorem kidsT_yes {rs : List RowD} {id : Int} (h : hasB rs id = true) : kidsT rs id = kidsOf rs (atN rs id) (atN rs id + 1) (enR rs (atN rs id) + 1 - (atN rs id + 2)) := by
  obtain ⟨h1, h2⟩ := hasB_iff.1 h
  unfold kidsT
  rw [h1, if_pos rfl, kidsL_yes h2]
  congr 1
  omega
end Go.Proofs.Ytcpmahchagjhkaa
/-
  Plain mathematics of children in outlines (lists of rows), and the contracts of the laws' own helpers on slices of ints. Conditions: as each theorem says.
-/
namespace Go.Proofs.Ytcpmahchagjhkaa
open Go.ChangeShapes Go.WideShapes Go.ChangeAt Go.RowKit Go.Joins

theorem kidsOf_iff (rs : List RowD) (x : Nat) : ∀ k s (q : Int), q ∈ kidsOf rs x s k ↔ ∃ j, s ≤ j ∧ j < s + k ∧ rdep rs j = rdep rs x + 1 ∧ (rat rs j).id = q
  | 0, s, q => by simp [kidsOf]; intro j h1 h2; omega
  | k + 1, s, q => by
    rw [kidsOf, List.mem_append, kidsOf_iff rs x k (s + 1) q]
    constructor
    · rintro (h | ⟨j, a, b, c⟩)
      · split at h
        · rename_i hd
          simp at h; exact ⟨s, Nat.le_refl _, by omega, hd, h.symm⟩
        · simp at h
      · exact ⟨j, by omega, by omega, c⟩
    · rintro ⟨j, a, b, c, d⟩
      by_cases e : j = s
      · subst e; left; rw [if_pos c]; simp [d]
      · right; exact ⟨j, by omega, by omega, c, d⟩
theorem kidsT_row {rs : List RowD} (ht : treeB rs = true) {k : Nat} (hk : k < rs.length) : kidsT rs (rat rs k).id = kidsOf rs k (k + 1) (enR rs k - (k + 1)) := by
  have ha := (treeP_of ht).at_self hk
  unfold kidsT
  rw [if_pos ht, kidsL_yes (by rw [ha]; exact hk), ha]
/-- A row is among the children of place k just if its parent is there. -/
theorem kid_par {rs : List RowD} (ht : treeB rs = true) {k j : Nat} (hk : k < rs.length) (hj : j < rs.length) : (rat rs j).id ∈ kidsT rs (rat rs k).id ↔ par (dp rs) (j + 1) = k + 1 := by
  have hT := treeP_of ht
  have hD := hT.deps
  have h1 := kid_iff hD (p := k + 1) (j := j + 1) (by omega) (by omega)
  rw [isKid_iff, en_shift hk] at h1
  rw [kidsT_row ht hk, kidsOf_iff]
  constructor
  · rintro ⟨l, a, b, c, d⟩
    have hl : enR rs k ≤ rs.length := (en_spec (D := rdep rs) hk).2.1
    have e : l = j := hT.id_inj (by omega) hj d
    subst e
    exact (h1.2 ⟨by omega, by omega, c⟩).2
  · intro h
    obtain ⟨a, b, c⟩ := h1.1 ⟨by omega, h⟩
    exact ⟨j, by omega, by omega, c, rfl⟩
theorem up_row {rs : List RowD} (ht : treeB rs = true) {j : Nat} (hj : j < rs.length) : upI rs (rat rs j).id = (nd rs (par (dp rs) (j + 1))).id := by
  have hT := treeP_of ht
  have ha := hT.at_self hj
  rw [par_shift hT hj]
  unfold upI hasB
  rw [ht, ha]
  simp [hj]
def amongB (xs : List Int) (n : Int) : Bool := xs.any (· == n)
theorem amongB_iff {xs : List Int} {n : Int} : amongB xs n = true ↔ n ∈ xs := by simp [amongB]
theorem among_up {rs : List RowD} {z : Int} (hh : hasB rs z = true) {k : Nat} (hk : k < rs.length) : amongB (kidsT rs (rat rs k).id) z = ((rat rs k).id == upI rs z) := by
  obtain ⟨ht, hz⟩ := hasB_iff.1 hh
  have hT := treeP_of ht
  have e := atN_id hz
  have hp := par_spec hT.deps (i := atN rs z + 1) (by omega) (by omega)
  have h1 := kid_par ht hk hz
  have h2 := up_row ht hz
  rw [e] at h1 h2
  rw [Bool.eq_iff_iff, amongB_iff, h1, h2, beq_iff_eq]
  rcases hc : par (dp rs) (atN rs z + 1) with _ | p
  · have := rok_id (hT.rok k hk)
    have e0 : (nd rs 0).id = 0 := rfl
    rw [e0]
    exact ⟨fun h => by omega, fun h => by omega⟩
  · rw [hc] at hp
    constructor
    · intro h; rw [show k = p by omega]; rfl
    · intro h; rw [hT.id_inj hk (show p < rs.length by omega) h]
/-! ### the laws' helpers -/
end Go.Proofs.Ytcpmahchagjhkaa
