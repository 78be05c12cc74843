/-
  The program's tree of nodes in memory: what its blocks hold when the first m nodes are there (node 0 is the top, node i + 1 is row i), and what adding one does. Conditions: as each theorem says.
-/
import Derived.Test.YtefelnodahcolaaDoorTOkI
namespace Go.Proofs.YtefelnodahcolaaDoor
open Go.ChangeShapes Go.WideShapes Go.ChangeAt Go.RowKit Go.Joins

def padr (nb : Nat → Nat) : Option Nat → Option Addr
  | none => none
  | some i => some ⟨nb i, 0, none⟩
def upO (rs : List RowD) (i : Nat) : Option Nat := if i = 0 then none else some (par (dp rs) i)
def ahO (rs : List RowD) (i : Nat) : Option Nat := if i = 0 then none else ah (dp rs) i
def nxO (rs : List RowD) (m i : Nat) : Option Nat := if i = 0 then none else nx (dp rs) m i
def nodeArr (nb : Nat → Nat) (rs : List RowD) (m i : Nat) : Array Value :=
  #[.int .i64 (nd rs i).id, .int .i64 (nd rs i).dep, .string (nd rs i).txt, .pointer (padr nb (upO rs i)), .pointer (padr nb (ahO rs i)), .pointer (padr nb (nxO rs m i)), .pointer (padr nb (fi (dp rs) m i)), .pointer (padr nb (la (dp rs) m i))]
/-- The blocks nb 0, nb 1 and so on hold the first m nodes. -/
structure Nodes (w : World) (nb : Nat → Nat) (rs : List RowD) (m : Nat) : Prop where
  blk : ∀ i, i < m → w.heap[nb i]? = some (.cells (nodeArr nb rs m i) 77 (0, 0))
  inj : ∀ i j, i < j → j < m → nb i < nb j
theorem Nodes.lt {w : World} {nb : Nat → Nat} {rs : List RowD} {m : Nat} (h : Nodes w nb rs m) {i : Nat} (hi : i < m) : nb i < w.heap.size := (Array.getElem?_eq_some_iff.1 (h.blk i hi)).1
theorem Nodes.ne {w : World} {nb : Nat → Nat} {rs : List RowD} {m : Nat} (h : Nodes w nb rs m) {i j : Nat} (hi : i < m) (hj : j < m) (hne : i ≠ j) : nb i ≠ nb j := by
  rcases Nat.lt_or_gt_of_ne hne with g | g
  · have := h.inj i j g hj; omega
  · have := h.inj j i g hi; omega
theorem Nodes.ge {w : World} {nb : Nat → Nat} {rs : List RowD} {m : Nat} (h : Nodes w nb rs m) {i : Nat} (hi : i < m) : nb 0 ≤ nb i := by
  by_cases e : i = 0
  · subst e; exact Nat.le_refl _
  · exact Nat.le_of_lt (h.inj 0 i (by omega) hi)
theorem Nodes.below {w w' : World} {nb : Nat → Nat} {rs : List RowD} {m : Nat} (h : Nodes w nb rs m) (hb : Below w.heap.size w w') : Nodes w' nb rs m :=
  ⟨fun i hi => by rw [hb.block _ (h.lt hi)]; exact h.blk i hi, h.inj⟩
theorem Nodes.drewN {w : World} {nb : Nat → Nat} {rs : List RowD} {m : Nat} (h : Nodes w nb rs m) (n : Nat) : Nodes (w.drewN n) nb rs m := ⟨h.blk, h.inj⟩
theorem Nodes.row {w : World} {nb : Nat → Nat} {rs : List RowD} {m : Nat} (h : Nodes w nb rs m) {i : Nat} (hi : i < m) :
    w.cell? ⟨nb i, 0, none⟩ = some (.int .i64 (nd rs i).id) ∧ w.cell? ⟨nb i, 1, none⟩ = some (.int .i64 (nd rs i).dep) ∧ w.cell? ⟨nb i, 2, none⟩ = some (.string (nd rs i).txt) := by
  have hb := h.blk i hi
  unfold nodeArr at hb
  refine ⟨?_, ?_, ?_⟩ <;> simp [World.cell?, hb]
theorem Nodes.links {w : World} {nb : Nat → Nat} {rs : List RowD} {m : Nat} (h : Nodes w nb rs m) {i : Nat} (hi : i < m) :
    w.cell? ⟨nb i, 3, none⟩ = some (.pointer (padr nb (upO rs i))) ∧ w.cell? ⟨nb i, 4, none⟩ = some (.pointer (padr nb (ahO rs i))) ∧ w.cell? ⟨nb i, 5, none⟩ = some (.pointer (padr nb (nxO rs m i))) ∧
    w.cell? ⟨nb i, 6, none⟩ = some (.pointer (padr nb (fi (dp rs) m i))) ∧ w.cell? ⟨nb i, 7, none⟩ = some (.pointer (padr nb (la (dp rs) m i))) := by
  have hb := h.blk i hi
  unfold nodeArr at hb
  refine ⟨?_, ?_, ?_, ?_, ?_⟩ <;> simp [World.cell?, hb]
theorem Nodes.frozen {w : World} {nb : Nat → Nat} {rs : List RowD} {m : Nat} (h : Nodes w nb rs m) {i : Nat} (hi : i < m) (o : Nat) : w.frozen? ⟨nb i, o, none⟩ = false := by
  have hb := h.blk i hi
  simp [World.frozen?, hb]
theorem padr_congr {nb nb' : Nat → Nat} {o : Option Nat} (h : ∀ i, o = some i → nb i = nb' i) : padr nb o = padr nb' o := by
  cases o with
  | none => rfl
  | some i => simp [padr, h i rfl]
theorem blk_set {w : World} {b o : Nat} {c : Array Value} {t : TypeId} {v : Value} (h : w.heap[b]? = some (.cells c t (0, 0))) : (w.setCell ⟨b, o, none⟩ v).heap[b]? = some (.cells (c.setIfInBounds o v) t (0, 0)) := by
  simp [World.setCell, Array.getElem?_modify, h]

/-- What the links of an old node come to when node k + 1 is added under p. -/
theorem arr_next {rs : List RowD} {nb : Nat → Nat} {k g i : Nat} (hD : Deps (dp rs) (rs.length + 1)) (hk : k < rs.length) (hi : i < k + 1) :
    nodeArr (fun j => if j = k + 1 then g else nb j) rs (k + 2) i =
      #[.int .i64 (nd rs i).id, .int .i64 (nd rs i).dep, .string (nd rs i).txt, .pointer (padr nb (upO rs i)), .pointer (padr nb (ahO rs i)),
        .pointer (if i ≠ 0 ∧ la (dp rs) (k + 1) (par (dp rs) (k + 1)) = some i then some ⟨g, 0, none⟩ else padr nb (nxO rs (k + 1) i)),
        .pointer (if par (dp rs) (k + 1) = i ∧ la (dp rs) (k + 1) i = none then some ⟨g, 0, none⟩ else padr nb (fi (dp rs) (k + 1) i)),
        .pointer (if par (dp rs) (k + 1) = i then some ⟨g, 0, none⟩ else padr nb (la (dp rs) (k + 1) i))] := by
  have old : ∀ o : Option Nat, (∀ j, o = some j → j < k + 1) → padr (fun j => if j = k + 1 then g else nb j) o = padr nb o := fun o ho =>
    padr_congr fun j hj => if_neg (by have := ho j hj; omega)
  have new : padr (fun j => if j = k + 1 then g else nb j) (some (k + 1)) = some ⟨g, 0, none⟩ := by simp [padr]
  have e1 : padr (fun j => if j = k + 1 then g else nb j) (upO rs i) = padr nb (upO rs i) := by
    refine old _ fun j hj => ?_
    unfold upO at hj; split at hj
    · cases hj
    · cases hj; have := (par_spec hD (show 1 ≤ i by omega) (by omega)).1; omega
  have e2 : padr (fun j => if j = k + 1 then g else nb j) (ahO rs i) = padr nb (ahO rs i) := by
    refine old _ fun j hj => ?_
    unfold ahO at hj; split at hj
    · cases hj
    · have := (lstBelow_some _ _ _ hj).1; omega
  have e3 : padr (fun j => if j = k + 1 then g else nb j) (nxO rs (k + 2) i) = if i ≠ 0 ∧ la (dp rs) (k + 1) (par (dp rs) (k + 1)) = some i then some ⟨g, 0, none⟩ else padr nb (nxO rs (k + 1) i) := by
    unfold nxO
    by_cases h0 : i = 0
    · simp [h0, padr]
    · rw [if_neg h0, if_neg h0, nx_succ (dp rs) (k + 1) i (by omega) (by omega) (by omega)]
      by_cases hl : la (dp rs) (k + 1) (par (dp rs) (k + 1)) = some i
      · rw [if_pos hl, if_pos ⟨h0, hl⟩, new]
      · rw [if_neg hl, if_neg (fun h => hl h.2)]
        exact old _ fun j hj => (fstBelow_some _ _ _ hj).1
  have e4 : padr (fun j => if j = k + 1 then g else nb j) (fi (dp rs) (k + 2) i) = if par (dp rs) (k + 1) = i ∧ la (dp rs) (k + 1) i = none then some ⟨g, 0, none⟩ else padr nb (fi (dp rs) (k + 1) i) := by
    rw [fi_succ (dp rs) (k + 1) i (by omega)]
    split
    · exact new
    · exact old _ fun j hj => (fstBelow_some _ _ _ hj).1
  have e5 : padr (fun j => if j = k + 1 then g else nb j) (la (dp rs) (k + 2) i) = if par (dp rs) (k + 1) = i then some ⟨g, 0, none⟩ else padr nb (la (dp rs) (k + 1) i) := by
    rw [la_succ (dp rs) (k + 1) i (by omega)]
    split
    · exact new
    · exact old _ fun j hj => (lstBelow_some _ _ _ hj).1
  unfold nodeArr
  rw [e1, e2, e3, e4, e5]
theorem arr_new {rs : List RowD} {nb : Nat → Nat} {k g : Nat} (hD : Deps (dp rs) (rs.length + 1)) (hk : k < rs.length) :
    nodeArr (fun j => if j = k + 1 then g else nb j) rs (k + 2) (k + 1) =
      #[.int .i64 (rat rs k).id, .int .i64 (rat rs k).dep, .string (rat rs k).txt, .pointer (some ⟨nb (par (dp rs) (k + 1)), 0, none⟩), .pointer (padr nb (la (dp rs) (k + 1) (par (dp rs) (k + 1)))), .pointer none, .pointer none, .pointer none] := by
  have hp := (par_spec hD (show 1 ≤ k + 1 by omega) (by omega)).1
  have lt : ∀ j, 1 ≤ j → j ≤ k + 1 → par (dp rs) j < j := fun j h1 h2 => (par_spec hD h1 (by omega)).1
  have e1 : padr (fun j => if j = k + 1 then g else nb j) (upO rs (k + 1)) = some ⟨nb (par (dp rs) (k + 1)), 0, none⟩ := by
    unfold upO; rw [if_neg (by omega)]
    simp only [padr]; rw [if_neg (by omega)]
  have e2 : padr (fun j => if j = k + 1 then g else nb j) (ahO rs (k + 1)) = padr nb (la (dp rs) (k + 1) (par (dp rs) (k + 1))) := by
    unfold ahO; rw [if_neg (by omega), ah_new]
    exact padr_congr fun j hj => if_neg (by have := (lstBelow_some _ _ _ hj).1; omega)
  have e3 : padr (fun j => if j = k + 1 then g else nb j) (nxO rs (k + 2) (k + 1)) = none := by
    unfold nxO; rw [if_neg (by omega), nx_new]; rfl
  have e4 : padr (fun j => if j = k + 1 then g else nb j) (fi (dp rs) (k + 2) (k + 1)) = none := by rw [fi_new (k + 1) lt]; rfl
  have e5 : padr (fun j => if j = k + 1 then g else nb j) (la (dp rs) (k + 2) (k + 1)) = none := by rw [la_new (k + 1) lt]; rfl
  unfold nodeArr
  rw [e1, e2, e3, e4, e5]
  rfl
/-- Adding node k + 1: the new block g lies beside the old ones; p's last and, by the case, p's first or the old last one's next are set. -/
theorem nodes_add0 {w w' : World} {nb : Nat → Nat} {rs : List RowD} {k g : Nat} (hD : Deps (dp rs) (rs.length + 1)) (hk : k < rs.length) (h : Nodes w nb rs (k + 1)) (hg : w.heap.size ≤ g) (hl : la (dp rs) (k + 1) (par (dp rs) (k + 1)) = none)
    (hb : ∀ b, b < w.heap.size → w'.heap[b]? = ((w.setCell ⟨nb (par (dp rs) (k + 1)), 6, none⟩ (.pointer (some ⟨g, 0, none⟩))).setCell ⟨nb (par (dp rs) (k + 1)), 7, none⟩ (.pointer (some ⟨g, 0, none⟩))).heap[b]?)
    (hnew : w'.heap[g]? = some (.cells #[.int .i64 (rat rs k).id, .int .i64 (rat rs k).dep, .string (rat rs k).txt, .pointer (some ⟨nb (par (dp rs) (k + 1)), 0, none⟩), .pointer none, .pointer none, .pointer none, .pointer none] 77 (0, 0))) :
    Nodes w' (fun j => if j = k + 1 then g else nb j) rs (k + 2) := by
  have hp := (par_spec hD (show 1 ≤ k + 1 by omega) (by omega)).1
  have hge : ∀ i, i < k + 1 → nb i < g := fun i hi => Nat.lt_of_lt_of_le (h.lt hi) hg
  refine ⟨fun i hi => ?_, fun i j hij hj => ?_⟩
  · by_cases ei : i = k + 1
    · subst ei
      rw [if_pos rfl, arr_new hD hk, hl]
      exact hnew
    · have hik : i < k + 1 := by omega
      rw [if_neg ei, arr_next hD hk hik, hb _ (h.lt hik)]
      have hbk := h.blk i hik
      by_cases ep : par (dp rs) (k + 1) = i
      · subst ep
        rw [blk_set (blk_set hbk)]
        simp [nodeArr, hl]
      · rw [Below.heap_setCell _ _ _ _ (h.ne hik hp (fun e => ep e.symm)), Below.heap_setCell _ _ _ _ (h.ne hik hp (fun e => ep e.symm)), hbk]
        simp [nodeArr, hl, ep]
  · rw [if_neg (show i ≠ k + 1 by omega)]
    by_cases e : j = k + 1
    · rw [if_pos e]; exact hge i (by omega)
    · rw [if_neg e]; exact h.inj i j hij (by omega)
theorem nodes_add1 {w w' : World} {nb : Nat → Nat} {rs : List RowD} {k g l : Nat} (hD : Deps (dp rs) (rs.length + 1)) (hk : k < rs.length) (h : Nodes w nb rs (k + 1)) (hg : w.heap.size ≤ g) (hl : la (dp rs) (k + 1) (par (dp rs) (k + 1)) = some l)
    (hb : ∀ b, b < w.heap.size → w'.heap[b]? = ((w.setCell ⟨nb l, 5, none⟩ (.pointer (some ⟨g, 0, none⟩))).setCell ⟨nb (par (dp rs) (k + 1)), 7, none⟩ (.pointer (some ⟨g, 0, none⟩))).heap[b]?)
    (hnew : w'.heap[g]? = some (.cells #[.int .i64 (rat rs k).id, .int .i64 (rat rs k).dep, .string (rat rs k).txt, .pointer (some ⟨nb (par (dp rs) (k + 1)), 0, none⟩), .pointer (some ⟨nb l, 0, none⟩), .pointer none, .pointer none, .pointer none] 77 (0, 0))) :
    Nodes w' (fun j => if j = k + 1 then g else nb j) rs (k + 2) := by
  have hp := (par_spec hD (show 1 ≤ k + 1 by omega) (by omega)).1
  have hge : ∀ i, i < k + 1 → nb i < g := fun i hi => Nat.lt_of_lt_of_le (h.lt hi) hg
  have hll := (lstBelow_some _ _ _ hl).1
  have hlk := isKid_iff.1 (lstBelow_some _ _ _ hl).2.1
  have hlp : l ≠ par (dp rs) (k + 1) := by
    intro e
    have := (par_spec hD hlk.1 (by omega)).1
    rw [hlk.2] at this; omega
  refine ⟨fun i hi => ?_, fun i j hij hj => ?_⟩
  · by_cases ei : i = k + 1
    · subst ei
      rw [if_pos rfl, arr_new hD hk, hl]
      exact hnew
    · have hik : i < k + 1 := by omega
      rw [if_neg ei, arr_next hD hk hik, hb _ (h.lt hik)]
      have hbk := h.blk i hik
      by_cases ep : par (dp rs) (k + 1) = i
      · subst ep
        have hb2 : (w.setCell ⟨nb l, 5, none⟩ (.pointer (some ⟨g, 0, none⟩))).heap[nb (par (dp rs) (k + 1))]? = _ := (Below.heap_setCell _ _ _ _ (h.ne hik hll (fun e => hlp e.symm))).trans hbk
        rw [blk_set hb2]
        have hne : ¬ (some l = some (par (dp rs) (k + 1))) := fun e => hlp (Option.some.inj e)
        simp [nodeArr, hl, hne]
      · rw [Below.heap_setCell _ _ _ _ (h.ne hik hp (fun e => ep e.symm))]
        by_cases el : l = i
        · subst el
          rw [blk_set hbk]
          have h0 : l ≠ 0 := by omega
          simp [nodeArr, hl, ep, h0]
        · rw [Below.heap_setCell _ _ _ _ (h.ne hik hll (fun e => el e.symm)), hbk]
          simp [nodeArr, hl, ep, el]
  · rw [if_neg (show i ≠ k + 1 by omega)]
    by_cases e : j = k + 1
    · rw [if_pos e]; exact hge i (by omega)
    · rw [if_neg e]; exact h.inj i j hij (by omega)
/-- Two new blocks behind a world: the old ones stay, the second is the last. -/
theorem two_old (u : World) (o1 o2 : Obj) (b : Nat) (hb : b < u.heap.size) : ((u.alloc o1).alloc o2).drew.heap[b]? = u.heap[b]? := by
  show ((u.alloc o1).alloc o2).heap[b]? = _
  rw [Below.heap_alloc _ _ _ (by simp; omega), Below.heap_alloc _ _ _ hb]
theorem two_new (u : World) (o1 o2 : Obj) : ((u.alloc o1).alloc o2).drew.heap[u.heap.size + 1]? = some o2 := by
  show ((u.alloc o1).alloc o2).heap[u.heap.size + 1]? = _
  have := heap_alloc_new (u.alloc o1) o2
  rw [World.size_alloc] at this; exact this
theorem size_set (w : World) (p : Addr) (v : Value) : (w.setCell p v).heap.size = w.heap.size := by simp [World.setCell]
end Go.Proofs.YtefelnodahcolaaDoor
