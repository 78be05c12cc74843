/-
  Joined texts, each with its own head: what it holds, and its conditions.
-/
import Derived.Test.YtclhjgcapalniaaDoorGA
import Derived.Deep.LoopGhost
import Derived.RangeFuncNested
import Derived.RangeFuncBound
import Derived.RangeFuncCalls
import Derived.RangeFuncLeaves
import Derived.RangeFuncFrom
import Derived.Shelf.Abstract
import Derived.Shelf.RegionOpen
import Derived.OwnWalkIn
import Derived.TacticsInMore
import Derived.LoopNIn
import Derived.LoopIn
import Derived.Laws.Pointers
import Derived.LaidEql
import Derived.ChangeKeysEq

/-
  Contract of the program's TreeOk: it answers as the model's. Conditions: the rows lie in memory as a slice of rows; the table 'creators' holds what its initialiser lays.
-/
namespace Go.Proofs.YtclhjgcapalniaaDoor
open Go.ChangeShapes Go.WideShapes Go.ChangeAt Go.RowKit Go.Joins

def seenAt (rs : List RowD) (k v : Nat) : Bool := (List.range k).any fun j => (rat rs j).id == (v : Int)
theorem seenAt_succ (rs : List RowD) (k v : Nat) : seenAt rs (k + 1) v = (seenAt rs k v || ((rat rs k).id == (v : Int))) := by simp [seenAt, List.range_succ]
theorem seenAt_yes {rs : List RowD} {k v : Nat} (h : seenAt rs k v = true) : ∃ j, j < k ∧ (rat rs j).id = (v : Int) := by
  simp only [seenAt, List.any_eq_true, List.mem_range, beq_iff_eq] at h
  obtain ⟨j, h1, h2⟩ := h
  exact ⟨j, h1, h2⟩
theorem seenAt_no {rs : List RowD} {k v : Nat} (h : seenAt rs k v = false) : ∀ j, j < k → (rat rs j).id ≠ (v : Int) := by
  intro j hj e
  simp only [seenAt, List.any_eq_false, List.mem_range, beq_iff_eq] at h
  exact h j hj e
def deepI (rs : List RowD) : Nat → Int
  | 0 => 0
  | k + 1 => (rat rs k).dep + 1
/-- What holds of the rows ahead of place k while the program goes over them. -/
def OkInv (rs : List RowD) (k : Nat) : Prop := okTo rs k = true ∧ (0 < k → (rat rs 0).id = 1)
theorem okInv_zero (rs : List RowD) : OkInv rs 0 := ⟨okTo_zero rs, fun h => by omega⟩
theorem step_parts {rs : List RowD} {k : Nat} (h : stepB rs k = true) : rokB (rat rs k) = true ∧ riseB rs k = true ∧ rordB rs k = true ∧ freshTo rs k k = true := by
  simp only [stepB, Bool.and_eq_true] at h
  exact ⟨h.1.1.1, h.1.1.2, h.1.2, h.2⟩
/-- The roots ahead of place k are numbered 1, 2 and so on. -/
theorem roots_seen {rs : List RowD} : ∀ k, okTo rs k = true → ∀ v : Nat, 1 ≤ v → v ≤ nroots rs k → ∃ j, j < k ∧ (rat rs j).id = (v : Int)
  | 0, _, v, h1, h2 => by simp [nroots] at h2; omega
  | k + 1, h, v, h1, h2 => by
    rw [okTo_succ, Bool.and_eq_true] at h
    by_cases e : v ≤ nroots rs k
    · obtain ⟨j, a, b⟩ := roots_seen k h.1 v h1 e
      exact ⟨j, by omega, b⟩
    · cases hr : rootB (rat rs k).id
      · rw [nroots_not hr] at h2; omega
      · rw [nroots_yes hr] at h2
        have := (step_parts h.2).2.2.1
        rw [rord_yes hr] at this
        simp at this
        exact ⟨k, by omega, by omega⟩
theorem roots_few {rs : List RowD} {k : Nat} (h : okTo rs k = true) : nroots rs k ≤ 3 := by
  rcases Nat.lt_or_ge 3 (nroots rs k) with g | g
  · obtain ⟨j, a, b⟩ := roots_seen k h (nroots rs k) (by omega) (Nat.le_refl _)
    have p := step_parts (okTo_at h a)
    rcases rok_cases p.1 with ⟨q, _⟩ | ⟨_, q, _⟩
    · have := (rootB_iff _).1 q; omega
    · obtain ⟨i, c, d⟩ := roots_seen k h 4 (by omega) (by omega)
      have p2 := step_parts (okTo_at h c)
      rcases rok_cases p2.1 with ⟨q2, _⟩ | ⟨_, q2, _⟩
      · have := (rootB_iff _).1 q2; omega
      · have := (madeB_iff _).1 q2; omega
  · exact g
/-- A fresh root finds room among the three. -/
theorem found_lt {rs : List RowD} {k : Nat} (h : okTo rs k = true) (hr : rootB (rat rs k).id = true) (hf : ∀ j, j < k → (rat rs j).id ≠ (rat rs k).id) : nroots rs k < 3 := by
  have h1 := roots_few h
  rcases Nat.lt_or_ge (nroots rs k) 3 with g | g
  · exact g
  · have h2 := (rootB_iff _).1 hr
    obtain ⟨v, hv⟩ := Int.eq_ofNat_of_zero_le (show 0 ≤ (rat rs k).id by omega)
    obtain ⟨j, a, b⟩ := roots_seen k h v (by omega) (by omega)
    exact absurd (b.trans hv.symm) (hf j a)
theorem inv_next {rs : List RowD} {k : Nat} (h : OkInv rs k) (h1 : rowB (rat rs k).id (rat rs k).dep (rat rs k).txt = true) (h2 : (rat rs k).dep ≤ deepI rs k) (h3 : (rat rs k).dep = 0 → (rat rs k).id = (nroots rs k : Int) + 1) (h4 : ∀ j, j < k → (rat rs j).id ≠ (rat rs k).id) :
    OkInv rs (k + 1) := by
  have hrok : rokB (rat rs k) = true := h1
  have hroot := rok_root hrok
  refine ⟨step_good h.1 h1 ?_ ?_ (freshTo_iff.2 h4), fun _ => ?_⟩
  · cases k with
    | zero => rfl
    | succ q => simp only [riseB, Bool.or_eq_true, decide_eq_true_eq]; exact .inr h2
  · cases hr : rootB (rat rs k).id
    · exact rord_not hr
    · rw [rord_yes hr]; simpa using h3 (hroot.2 hr)
  · cases k with
    | zero =>
      have := (rok_dep hrok).1
      have h5 := h3 (by simp [deepI] at h2; omega)
      simpa [nroots] using h5
    | succ q => exact h.2 (by omega)
theorem inv_deep {rs : List RowD} {k : Nat} (hk : k < rs.length) (h1 : rowB (rat rs k).id (rat rs k).dep (rat rs k).txt = true) (h2 : deepI rs k < (rat rs k).dep) : treeB rs = false := by
  cases k with
  | zero =>
    have hrok : rokB (rat rs 0) = true := h1
    rw [Bool.eq_false_iff]; intro g
    have p := treeP_of g
    have := (rok_root hrok).2 ((rootB_iff _).2 (by have := p.head; omega))
    simp [deepI] at h2; omega
  | succ q =>
    refine treeB_bad hk (step_bad2 ?_)
    simp only [deepI] at h2
    simp [riseB]; exact h2
theorem nroots_next {rs : List RowD} {k : Nat} (h1 : rowB (rat rs k).id (rat rs k).dep (rat rs k).txt = true) : (nroots rs (k + 1) : Int) = if (rat rs k).dep = 0 then (nroots rs k : Int) + 1 else (nroots rs k : Int) := by
  have hroot := rok_root (r := rat rs k) h1
  by_cases h : (rat rs k).dep = 0
  · rw [nroots_yes (hroot.1 h), if_pos h]; omega
  · have : rootB (rat rs k).id = false := by rw [Bool.eq_false_iff]; exact fun e => h (hroot.2 e)
    rw [nroots_not this, if_neg h]
theorem inv_end {rs : List RowD} (h : OkInv rs rs.length) : treeB rs = ((nroots rs rs.length : Int) == 3) := by
  cases h3 : ((nroots rs rs.length : Int) == 3)
  · exact tree_no3 h3
  · rw [tree_yes3 h.1 h3]
    have : (nroots rs rs.length : Int) = 3 := by simpa using h3
    have := nroots_le rs rs.length
    simpa using h.2 (by omega)

/-- The two arrays that the program keeps beside: block S has a mark for each number, block O the three roots. -/
def Marks (w : World) (O S : Nat) (f : Nat → Bool) : Prop :=
  (w.cell? ⟨O, 0, none⟩ = some (.int .i64 1) ∧ w.cell? ⟨O, 1, none⟩ = some (.int .i64 2) ∧ w.cell? ⟨O, 2, none⟩ = some (.int .i64 3)) ∧ ∀ v, v < 37 → w.cell? ⟨S, v, none⟩ = some (.bool (f v)) ∧ w.frozen? ⟨S, v, none⟩ = false
theorem Marks.below {w w' : World} {O S B : Nat} {f : Nat → Bool} (h : Marks w O S f) (hb : Below B w w') (h1 : O < B) (h2 : S < B) : Marks w' O S f := by
  refine ⟨?_, fun v hv => ?_⟩
  · rw [hb.cell (p := ⟨O, 0, none⟩) h1, hb.cell (p := ⟨O, 1, none⟩) h1, hb.cell (p := ⟨O, 2, none⟩) h1]; exact h.1
  · rw [hb.cell (p := ⟨S, v, none⟩) h2, hb.frozen (p := ⟨S, v, none⟩) h2]; exact h.2 v hv
theorem Marks.order {w : World} {O S : Nat} {f : Nat → Bool} (h : Marks w O S f) {c : Nat} (hc : c < 3) : w.cell? ⟨O, c, none⟩ = some (.int .i64 ((c : Int) + 1)) := by
  obtain ⟨a, b, d⟩ := h.1
  obtain rfl | rfl | rfl : c = 0 ∨ c = 1 ∨ c = 2 := by omega
  · exact a
  · exact b
  · exact d
theorem falses_at (v : Nat) (hv : v < 37) : (Array.replicate 37 (Value.bool false))[v]? = some (.bool false) := by
  rw [Array.getElem?_replicate, if_pos hv]
theorem marks_new (w : World) (t1 t2 : TypeId) : Marks ((w.alloc (.cells #[.int .i64 1, .int .i64 2, .int .i64 3] t1)).alloc (.cells (Array.replicate 37 (Value.bool false)) t2)) w.heap.size (w.heap.size + 1) (fun _ => false) := by
  refine ⟨⟨?_, ?_, ?_⟩, fun v hv => ⟨?_, ?_⟩⟩
  · simp [go_sem]
  · simp [go_sem]
  · simp [go_sem]
  · have h1 : ((w.alloc (.cells #[.int .i64 1, .int .i64 2, .int .i64 3] t1)).alloc (.cells (Array.replicate 37 (Value.bool false)) t2)).heap[w.heap.size + 1]? = some (.cells (Array.replicate 37 (Value.bool false)) t2) := by
      have := heap_alloc_new (w.alloc (.cells #[.int .i64 1, .int .i64 2, .int .i64 3] t1)) (.cells (Array.replicate 37 (Value.bool false)) t2)
      rw [World.size_alloc] at this; exact this
    unfold World.cell?
    simp only [h1]
    exact falses_at v hv
  · have h1 : ((w.alloc (.cells #[.int .i64 1, .int .i64 2, .int .i64 3] t1)).alloc (.cells (Array.replicate 37 (Value.bool false)) t2)).heap[w.heap.size + 1]? = some (.cells (Array.replicate 37 (Value.bool false)) t2) := by
      have := heap_alloc_new (w.alloc (.cells #[.int .i64 1, .int .i64 2, .int .i64 3] t1)) (.cells (Array.replicate 37 (Value.bool false)) t2)
      rw [World.size_alloc] at this; exact this
    unfold World.frozen?
    simp only [h1]
    simp
theorem Marks.set {w : World} {O S : Nat} {f : Nat → Bool} (h : Marks w O S f) (hne : O ≠ S) {v : Nat} (hv : v < 37) : Marks (w.setCell ⟨S, v, none⟩ (.bool true)) O S (fun u => f u || (v == u)) := by
  refine ⟨⟨?_, ?_, ?_⟩, fun u hu => ⟨?_, ?_⟩⟩
  · rw [World.cell?_setCell_other _ _ _ _ (fun e => by cases e; exact hne rfl)]; exact h.1.1
  · rw [World.cell?_setCell_other _ _ _ _ (fun e => by cases e; exact hne rfl)]; exact h.1.2.1
  · rw [World.cell?_setCell_other _ _ _ _ (fun e => by cases e; exact hne rfl)]; exact h.1.2.2
  · by_cases e : v = u
    · subst e
      rw [World.cell?_setCell_same' _ _ _ (by rw [(h.2 v hv).1]; rfl)]
      simp
    · rw [World.cell?_setCell_other _ _ _ _ (fun e2 => by cases e2; exact e rfl), (h.2 u hu).1]
      simp [e]
  · rw [World.frozen?_setCell]; exact (h.2 u hu).2
theorem Marks.congr {w : World} {O S : Nat} {f g : Nat → Bool} (h : Marks w O S f) (e : ∀ v, v < 37 → f v = g v) : Marks w O S g :=
  ⟨h.1, fun v hv => by rw [← e v hv]; exact h.2 v hv⟩
theorem seen_next {rs : List RowD} {k v : Nat} (hv : (rat rs k).id = (v : Int)) : ∀ u, u < 37 → (seenAt rs k u || (v == u)) = seenAt rs (k + 1) u := fun u _ => by
  rw [seenAt_succ, hv]
  congr 1
  rw [Bool.eq_iff_iff]; simp only [beq_iff_eq]; omega
theorem seen_bad {rs : List RowD} {k v : Nat} (hk : k < rs.length) (hv : (rat rs k).id = (v : Int)) (h : seenAt rs k v = true) : treeB rs = false := by
  obtain ⟨j, h1, h2⟩ := seenAt_yes h
  exact treeB_bad hk (step_bad4 h1 (by rw [hv, h2]; simp))
theorem seen_good {rs : List RowD} {k v : Nat} (hv : (rat rs k).id = (v : Int)) (h : seenAt rs k v = false) : ∀ j, j < k → (rat rs j).id ≠ (rat rs k).id := fun j hj => by
  rw [hv]; exact seenAt_no h j hj
theorem order_bad {rs : List RowD} {k : Nat} (hk : k < rs.length) (h1 : rowB (rat rs k).id (rat rs k).dep (rat rs k).txt = true) (h2 : (rat rs k).dep = 0) (h : ((rat rs k).id == (nroots rs k : Int) + 1) = false) : treeB rs = false := by
  have hr := (rok_root (r := rat rs k) h1).1 h2
  exact treeB_bad hk (step_bad3 ((rord_yes hr).trans h))
set_option maxRecDepth 100000 in
set_option maxHeartbeats 1000000 in
theorem implTreeOk_any (B : Nat) (a : Option Addr) (cap : Nat) (rs : List RowD) (w : World) (hB : B ≤ w.heap.size) (h : RowsAt B w a rs) (hf : Fit rs) (ht : Tab w) :
    Calls Tryd.prog 20 #[.slice a rs.length cap] w (RetBelow (.bool (treeB rs)) w) := by
  have hl := hf.1
  have hz := ht.pos
  go_enter Tryd.func20, Tryd.ntmps20
  go_wp2_with fail
  go_loopw [5, 6, 12] (fun f d t wr => ∃ k : Nat, k ≤ rs.length ∧ t = .int .i64 k ∧ f = .int .i64 (nroots rs k) ∧ d = .int .i64 (deepI rs k) ∧ Hid (OkInv rs k) ∧ Marks wr w.heap.size (w.heap.size + 1) (seenAt rs k) ∧ Below w.heap.size w wr ∧ w.heap.size + 2 ≤ wr.heap.size) (fun _ _ t _ => rs.length - (intOf t).toNat)
  case atStart => exact ⟨0, Nat.zero_le _, rfl, rfl, rfl, okInv_zero rs, marks_new w _ _, ((Below.refl _ _).alloc (Nat.le_refl _) _).alloc (by simp) _, by simp⟩
  case round =>
    obtain ⟨k, hk, rfl, rfl, rfl, ho, hm, hb, hsz⟩ := hrel
    have hr := h.below (hb.mono hB)
    by_cases hlt : k < rs.length
    · obtain ⟨b, off, rfl, hbB, c0, c1, c2⟩ := hr.at_ hlt
      have i1 : (k : Int) < (rs.length : Int) := by omega
      obtain ⟨f1, f2, f3⟩ := hf.2 k hlt
      have hbw : b < wr.heap.size := by omega
      have hax : Below wr.heap.size wr (wr.alloc (.cells #[.int .i64 (rat rs k).id, .int .i64 (rat rs k).dep, .string (rat rs k).txt] 39)) := (Below.refl _ _).alloc (Nat.le_refl _) _
      have hx := RowAt.new wr (rat rs k).id (rat rs k).dep (rat rs k).txt
      have hba : Below w.heap.size w (wr.alloc (.cells #[.int .i64 (rat rs k).id, .int .i64 (rat rs k).dep, .string (rat rs k).txt] 39)) := hb.trans (hax.mono hb.size)
      have hma := hm.below hax (by omega) (by omega)
      go_wp2_with fail
      refine (implRowOk_any _ _ _ _ f3 (ht.below hba hz) (Nat.lt_of_lt_of_le hz hba.size)).mono ?_
      rintro e w1 ⟨rfl, hb1⟩
      rw [World.size_alloc] at hb1
      have hx1 := hx.below hb1 (by omega)
      have hm1 := hma.below hb1 (by omega) (by omega)
      have hbw1 : Below w.heap.size w w1 := hba.trans (hb1.mono (by omega))
      have hs1 : wr.heap.size + 1 ≤ w1.heap.size := by have := hb1.size; simp at this; exact this
      clear hx hma hba hax hm hb hr hb1 c0 c1 c2 hbB hbw f1 f2 f3
      obtain ⟨⟨x0, x1, x2⟩, x3, x4, x5⟩ := hx1
      generalize wr.heap.size = xb at *
      cases hrow : rowB (rat rs k).id (rat rs k).dep (rat rs k).txt
      · have HF := Lib.hid (treeB_bad hlt (step_bad1 hrow))
        go_wp2
        go_ret
        exact ⟨by rw [HF.out]; rfl, hbw1⟩
      · obtain ⟨d1, d2⟩ := rok_id (r := rat rs k) hrow
        obtain ⟨p1, p2⟩ := rok_dep (r := rat rs k) hrow
        obtain ⟨v, hv⟩ := Int.eq_ofNat_of_zero_le (show 0 ≤ (rat rs k).id by omega)
        have v37 : v < 37 := by omega
        have v37' : (v : Int) < 37 := by omega
        obtain ⟨m1, m2⟩ := hm1.2 v v37
        have HV := Lib.hid hv
        have HROW := Lib.hid hrow
        rw [hv] at x0
        clear hv hrow d1 d2
        cases hseen : seenAt rs k v
        · rw [hseen] at m1
          have HG := Lib.hid (seen_good HV.out hseen)
          by_cases hdeep : (rat rs k).dep ≤ deepI rs k
          · have HM : Marks (w1.setCell ⟨w.heap.size + 1, v, none⟩ (.bool true)) w.heap.size (w.heap.size + 1) (seenAt rs (k + 1)) := (hm1.set (by omega) v37).congr (seen_next HV.out)
            have HB : Below w.heap.size w (w1.setCell ⟨w.heap.size + 1, v, none⟩ (.bool true)) := hbw1.setCell (by show w.heap.size ≤ w.heap.size + 1; omega) _
            have HN := Lib.hid (nroots_next HROW.out)
            cases hd0 : ((rat rs k).dep == 0)
            · have h0 : (rat rs k).dep ≠ 0 := by simpa using hd0
              have HI := Lib.hid (inv_next ho.out HROW.out hdeep (fun e => absurd e h0) HG.out)
              have HN' : Hid ((nroots rs (k + 1) : Int) = (nroots rs k : Int)) := HN.out.trans (if_neg h0)
              clear h0
              go_wp2
              go_roundw
              case rel => exact ⟨k + 1, by omega, by go_num, by rw [HN'.out], rfl, HI, HM, HB, by simp [World.setCell]; omega⟩
              case measure => simp [intOf]; omega
            · have h0 : (rat rs k).dep = 0 := by simpa using hd0
              have hroot := (rok_root (r := rat rs k) HROW.out).1 h0
              have hlt3 := found_lt ho.out.1 hroot HG.out
              have HN' : Hid ((nroots rs (k + 1) : Int) = (nroots rs k : Int) + 1) := HN.out.trans (if_pos h0)
              have o1 := hm1.order hlt3
              have hlt3' : (nroots rs k : Int) < 3 := by omega
              cases hord : ((v : Int) == (nroots rs k : Int) + 1)
              · have hord2 : ((v : Int) != (nroots rs k : Int) + 1) = true := by simp [bne, hord]
                have HF : Hid (treeB rs = false) := order_bad hlt HROW.out h0 (by rw [HV.out]; exact hord)
                clear h0 hroot
                go_wp2
                go_quiet (fail)
                go_wp2
                go_ret
                exact ⟨by rw [HF.out]; rfl, below_drewN _ hbw1⟩
              · have hord2 : ((v : Int) != (nroots rs k : Int) + 1) = false := by simp [bne, hord]
                have HI := Lib.hid (inv_next ho.out HROW.out hdeep (fun _ => by rw [HV.out]; simpa using hord) HG.out)
                clear h0 hroot
                go_wp2
                go_quiet (fail)
                go_wp2
                go_roundw
                case rel => exact ⟨k + 1, by omega, by go_num, by rw [HN'.out], rfl, HI, HM, below_drewN _ HB, by simp [World.setCell]; omega⟩
                case measure => simp [intOf]; omega
          · have HF := Lib.hid (inv_deep hlt HROW.out (by omega))
            go_wp2
            go_ret
            exact ⟨by rw [HF.out]; rfl, hbw1⟩
        · rw [hseen] at m1
          have HF := Lib.hid (seen_bad hlt HV.out hseen)
          go_wp2
          go_ret
          exact ⟨by rw [HF.out]; rfl, hbw1⟩
    · obtain rfl : k = rs.length := by omega
      have HF := Lib.hid (inv_end ho.out)
      go_wp2
      go_ret
      exact ⟨by rw [HF.out]; rfl, hb⟩
end Go.Proofs.YtclhjgcapalniaaDoor
/-
  The program's tree of nodes in memory: what its blocks hold when the first m nodes are there (node 0 is the top, node i + 1 is row i), and what adding one does. Conditions: as each theorem says.
-/
namespace Go.Proofs.YtclhjgcapalniaaDoor
open Go.ChangeShapes Go.WideShapes Go.ChangeAt Go.RowKit Go.Joins

def padr (nb : Nat → Nat) : Option Nat → Option Addr
  | none => none
  | some i => some ⟨nb i, 0, none⟩
def upO (rs : List RowD) (i : Nat) : Option Nat := if i = 0 then none else some (par (dp rs) i)
def ahO (rs : List RowD) (i : Nat) : Option Nat := if i = 0 then none else ah (dp rs) i
def nxO (rs : List RowD) (m i : Nat) : Option Nat := if i = 0 then none else nx (dp rs) m i
def nodeArr (nb : Nat → Nat) (rs : List RowD) (m i : Nat) : Array Value :=
  #[.int .i64 (nd rs i).id, .int .i64 (nd rs i).dep, .string (nd rs i).txt, .pointer (padr nb (upO rs i)), .pointer (padr nb (ahO rs i)), .pointer (padr nb (nxO rs m i)), .pointer (padr nb (fi (dp rs) m i)), .pointer (padr nb (la (dp rs) m i))]
/-- The blocks nb 0, nb 1 and so on hold the first m nodes. -/
structure Nodes (w : World) (nb : Nat → Nat) (rs : List RowD) (m : Nat) : Prop where
  blk : ∀ i, i < m → w.heap[nb i]? = some (.cells (nodeArr nb rs m i) 73 (0, 0))
  inj : ∀ i j, i < j → j < m → nb i < nb j
theorem Nodes.lt {w : World} {nb : Nat → Nat} {rs : List RowD} {m : Nat} (h : Nodes w nb rs m) {i : Nat} (hi : i < m) : nb i < w.heap.size := (Array.getElem?_eq_some_iff.1 (h.blk i hi)).1
theorem Nodes.ne {w : World} {nb : Nat → Nat} {rs : List RowD} {m : Nat} (h : Nodes w nb rs m) {i j : Nat} (hi : i < m) (hj : j < m) (hne : i ≠ j) : nb i ≠ nb j := by
  rcases Nat.lt_or_gt_of_ne hne with g | g
  · have := h.inj i j g hj; omega
  · have := h.inj j i g hi; omega
theorem Nodes.ge {w : World} {nb : Nat → Nat} {rs : List RowD} {m : Nat} (h : Nodes w nb rs m) {i : Nat} (hi : i < m) : nb 0 ≤ nb i := by
  by_cases e : i = 0
  · subst e; exact Nat.le_refl _
  · exact Nat.le_of_lt (h.inj 0 i (by omega) hi)
theorem Nodes.below {w w' : World} {nb : Nat → Nat} {rs : List RowD} {m : Nat} (h : Nodes w nb rs m) (hb : Below w.heap.size w w') : Nodes w' nb rs m :=
  ⟨fun i hi => by rw [hb.block _ (h.lt hi)]; exact h.blk i hi, h.inj⟩
theorem Nodes.drewN {w : World} {nb : Nat → Nat} {rs : List RowD} {m : Nat} (h : Nodes w nb rs m) (n : Nat) : Nodes (w.drewN n) nb rs m := ⟨h.blk, h.inj⟩
theorem Nodes.row {w : World} {nb : Nat → Nat} {rs : List RowD} {m : Nat} (h : Nodes w nb rs m) {i : Nat} (hi : i < m) :
    w.cell? ⟨nb i, 0, none⟩ = some (.int .i64 (nd rs i).id) ∧ w.cell? ⟨nb i, 1, none⟩ = some (.int .i64 (nd rs i).dep) ∧ w.cell? ⟨nb i, 2, none⟩ = some (.string (nd rs i).txt) := by
  have hb := h.blk i hi
  unfold nodeArr at hb
  refine ⟨?_, ?_, ?_⟩ <;> simp [World.cell?, hb]
theorem Nodes.links {w : World} {nb : Nat → Nat} {rs : List RowD} {m : Nat} (h : Nodes w nb rs m) {i : Nat} (hi : i < m) :
    w.cell? ⟨nb i, 3, none⟩ = some (.pointer (padr nb (upO rs i))) ∧ w.cell? ⟨nb i, 4, none⟩ = some (.pointer (padr nb (ahO rs i))) ∧ w.cell? ⟨nb i, 5, none⟩ = some (.pointer (padr nb (nxO rs m i))) ∧
    w.cell? ⟨nb i, 6, none⟩ = some (.pointer (padr nb (fi (dp rs) m i))) ∧ w.cell? ⟨nb i, 7, none⟩ = some (.pointer (padr nb (la (dp rs) m i))) := by
  have hb := h.blk i hi
  unfold nodeArr at hb
  refine ⟨?_, ?_, ?_, ?_, ?_⟩ <;> simp [World.cell?, hb]
theorem Nodes.frozen {w : World} {nb : Nat → Nat} {rs : List RowD} {m : Nat} (h : Nodes w nb rs m) {i : Nat} (hi : i < m) (o : Nat) : w.frozen? ⟨nb i, o, none⟩ = false := by
  have hb := h.blk i hi
  simp [World.frozen?, hb]
theorem padr_congr {nb nb' : Nat → Nat} {o : Option Nat} (h : ∀ i, o = some i → nb i = nb' i) : padr nb o = padr nb' o := by
  cases o with
  | none => rfl
  | some i => simp [padr, h i rfl]
theorem blk_set {w : World} {b o : Nat} {c : Array Value} {t : TypeId} {v : Value} (h : w.heap[b]? = some (.cells c t (0, 0))) : (w.setCell ⟨b, o, none⟩ v).heap[b]? = some (.cells (c.setIfInBounds o v) t (0, 0)) := by
  simp [World.setCell, Array.getElem?_modify, h]

/-- What the links of an old node come to when node k + 1 is added under p. -/
theorem arr_next {rs : List RowD} {nb : Nat → Nat} {k g i : Nat} (hD : Deps (dp rs) (rs.length + 1)) (hk : k < rs.length) (hi : i < k + 1) :
    nodeArr (fun j => if j = k + 1 then g else nb j) rs (k + 2) i =
      #[.int .i64 (nd rs i).id, .int .i64 (nd rs i).dep, .string (nd rs i).txt, .pointer (padr nb (upO rs i)), .pointer (padr nb (ahO rs i)),
        .pointer (if i ≠ 0 ∧ la (dp rs) (k + 1) (par (dp rs) (k + 1)) = some i then some ⟨g, 0, none⟩ else padr nb (nxO rs (k + 1) i)),
        .pointer (if par (dp rs) (k + 1) = i ∧ la (dp rs) (k + 1) i = none then some ⟨g, 0, none⟩ else padr nb (fi (dp rs) (k + 1) i)),
        .pointer (if par (dp rs) (k + 1) = i then some ⟨g, 0, none⟩ else padr nb (la (dp rs) (k + 1) i))] := by
  have old : ∀ o : Option Nat, (∀ j, o = some j → j < k + 1) → padr (fun j => if j = k + 1 then g else nb j) o = padr nb o := fun o ho =>
    padr_congr fun j hj => if_neg (by have := ho j hj; omega)
  have new : padr (fun j => if j = k + 1 then g else nb j) (some (k + 1)) = some ⟨g, 0, none⟩ := by simp [padr]
  have e1 : padr (fun j => if j = k + 1 then g else nb j) (upO rs i) = padr nb (upO rs i) := by
    refine old _ fun j hj => ?_
    unfold upO at hj; split at hj
    · cases hj
    · cases hj; have := (par_spec hD (show 1 ≤ i by omega) (by omega)).1; omega
  have e2 : padr (fun j => if j = k + 1 then g else nb j) (ahO rs i) = padr nb (ahO rs i) := by
    refine old _ fun j hj => ?_
    unfold ahO at hj; split at hj
    · cases hj
    · have := (lstBelow_some _ _ _ hj).1; omega
  have e3 : padr (fun j => if j = k + 1 then g else nb j) (nxO rs (k + 2) i) = if i ≠ 0 ∧ la (dp rs) (k + 1) (par (dp rs) (k + 1)) = some i then some ⟨g, 0, none⟩ else padr nb (nxO rs (k + 1) i) := by
    unfold nxO
    by_cases h0 : i = 0
    · simp [h0, padr]
    · rw [if_neg h0, if_neg h0, nx_succ (dp rs) (k + 1) i (by omega) (by omega) (by omega)]
      by_cases hl : la (dp rs) (k + 1) (par (dp rs) (k + 1)) = some i
      · rw [if_pos hl, if_pos ⟨h0, hl⟩, new]
      · rw [if_neg hl, if_neg (fun h => hl h.2)]
        exact old _ fun j hj => (fstBelow_some _ _ _ hj).1
  have e4 : padr (fun j => if j = k + 1 then g else nb j) (fi (dp rs) (k + 2) i) = if par (dp rs) (k + 1) = i ∧ la (dp rs) (k + 1) i = none then some ⟨g, 0, none⟩ else padr nb (fi (dp rs) (k + 1) i) := by
    rw [fi_succ (dp rs) (k + 1) i (by omega)]
    split
    · exact new
    · exact old _ fun j hj => (fstBelow_some _ _ _ hj).1
  have e5 : padr (fun j => if j = k + 1 then g else nb j) (la (dp rs) (k + 2) i) = if par (dp rs) (k + 1) = i then some ⟨g, 0, none⟩ else padr nb (la (dp rs) (k + 1) i) := by
    rw [la_succ (dp rs) (k + 1) i (by omega)]
    split
    · exact new
    · exact old _ fun j hj => (lstBelow_some _ _ _ hj).1
  unfold nodeArr
  rw [e1, e2, e3, e4, e5]
theorem arr_new {rs : List RowD} {nb : Nat → Nat} {k g : Nat} (hD : Deps (dp rs) (rs.length + 1)) (hk : k < rs.length) :
    nodeArr (fun j => if j = k + 1 then g else nb j) rs (k + 2) (k + 1) =
      #[.int .i64 (rat rs k).id, .int .i64 (rat rs k).dep, .string (rat rs k).txt, .pointer (some ⟨nb (par (dp rs) (k + 1)), 0, none⟩), .pointer (padr nb (la (dp rs) (k + 1) (par (dp rs) (k + 1)))), .pointer none, .pointer none, .pointer none] := by
  have hp := (par_spec hD (show 1 ≤ k + 1 by omega) (by omega)).1
  have lt : ∀ j, 1 ≤ j → j ≤ k + 1 → par (dp rs) j < j := fun j h1 h2 => (par_spec hD h1 (by omega)).1
  have e1 : padr (fun j => if j = k + 1 then g else nb j) (upO rs (k + 1)) = some ⟨nb (par (dp rs) (k + 1)), 0, none⟩ := by
    unfold upO; rw [if_neg (by omega)]
    simp only [padr]; rw [if_neg (by omega)]
  have e2 : padr (fun j => if j = k + 1 then g else nb j) (ahO rs (k + 1)) = padr nb (la (dp rs) (k + 1) (par (dp rs) (k + 1))) := by
    unfold ahO; rw [if_neg (by omega), ah_new]
    exact padr_congr fun j hj => if_neg (by have := (lstBelow_some _ _ _ hj).1; omega)
  have e3 : padr (fun j => if j = k + 1 then g else nb j) (nxO rs (k + 2) (k + 1)) = none := by
    unfold nxO; rw [if_neg (by omega), nx_new]; rfl
  have e4 : padr (fun j => if j = k + 1 then g else nb j) (fi (dp rs) (k + 2) (k + 1)) = none := by rw [fi_new (k + 1) lt]; rfl
  have e5 : padr (fun j => if j = k + 1 then g else nb j) (la (dp rs) (k + 2) (k + 1)) = none := by rw [la_new (k + 1) lt]; rfl
  unfold nodeArr
  rw [e1, e2, e3, e4, e5]
  rfl
/-- Adding node k + 1: the new block g lies beside the old ones; p's last and, by the case, p's first or the old last one's next are set. -/
theorem nodes_add0 {w w' : World} {nb : Nat → Nat} {rs : List RowD} {k g : Nat} (hD : Deps (dp rs) (rs.length + 1)) (hk : k < rs.length) (h : Nodes w nb rs (k + 1)) (hg : w.heap.size ≤ g) (hl : la (dp rs) (k + 1) (par (dp rs) (k + 1)) = none)
    (hb : ∀ b, b < w.heap.size → w'.heap[b]? = ((w.setCell ⟨nb (par (dp rs) (k + 1)), 6, none⟩ (.pointer (some ⟨g, 0, none⟩))).setCell ⟨nb (par (dp rs) (k + 1)), 7, none⟩ (.pointer (some ⟨g, 0, none⟩))).heap[b]?)
    (hnew : w'.heap[g]? = some (.cells #[.int .i64 (rat rs k).id, .int .i64 (rat rs k).dep, .string (rat rs k).txt, .pointer (some ⟨nb (par (dp rs) (k + 1)), 0, none⟩), .pointer none, .pointer none, .pointer none, .pointer none] 73 (0, 0))) :
    Nodes w' (fun j => if j = k + 1 then g else nb j) rs (k + 2) := by
  have hp := (par_spec hD (show 1 ≤ k + 1 by omega) (by omega)).1
  have hge : ∀ i, i < k + 1 → nb i < g := fun i hi => Nat.lt_of_lt_of_le (h.lt hi) hg
  refine ⟨fun i hi => ?_, fun i j hij hj => ?_⟩
  · by_cases ei : i = k + 1
    · subst ei
      rw [if_pos rfl, arr_new hD hk, hl]
      exact hnew
    · have hik : i < k + 1 := by omega
      rw [if_neg ei, arr_next hD hk hik, hb _ (h.lt hik)]
      have hbk := h.blk i hik
      by_cases ep : par (dp rs) (k + 1) = i
      · subst ep
        rw [blk_set (blk_set hbk)]
        simp [nodeArr, hl]
      · rw [Below.heap_setCell _ _ _ _ (h.ne hik hp (fun e => ep e.symm)), Below.heap_setCell _ _ _ _ (h.ne hik hp (fun e => ep e.symm)), hbk]
        simp [nodeArr, hl, ep]
  · rw [if_neg (show i ≠ k + 1 by omega)]
    by_cases e : j = k + 1
    · rw [if_pos e]; exact hge i (by omega)
    · rw [if_neg e]; exact h.inj i j hij (by omega)
theorem nodes_add1 {w w' : World} {nb : Nat → Nat} {rs : List RowD} {k g l : Nat} (hD : Deps (dp rs) (rs.length + 1)) (hk : k < rs.length) (h : Nodes w nb rs (k + 1)) (hg : w.heap.size ≤ g) (hl : la (dp rs) (k + 1) (par (dp rs) (k + 1)) = some l)
    (hb : ∀ b, b < w.heap.size → w'.heap[b]? = ((w.setCell ⟨nb l, 5, none⟩ (.pointer (some ⟨g, 0, none⟩))).setCell ⟨nb (par (dp rs) (k + 1)), 7, none⟩ (.pointer (some ⟨g, 0, none⟩))).heap[b]?)
    (hnew : w'.heap[g]? = some (.cells #[.int .i64 (rat rs k).id, .int .i64 (rat rs k).dep, .string (rat rs k).txt, .pointer (some ⟨nb (par (dp rs) (k + 1)), 0, none⟩), .pointer (some ⟨nb l, 0, none⟩), .pointer none, .pointer none, .pointer none] 73 (0, 0))) :
    Nodes w' (fun j => if j = k + 1 then g else nb j) rs (k + 2) := by
  have hp := (par_spec hD (show 1 ≤ k + 1 by omega) (by omega)).1
  have hge : ∀ i, i < k + 1 → nb i < g := fun i hi => Nat.lt_of_lt_of_le (h.lt hi) hg
  have hll := (lstBelow_some _ _ _ hl).1
  have hlk := isKid_iff.1 (lstBelow_some _ _ _ hl).2.1
  have hlp : l ≠ par (dp rs) (k + 1) := by
    intro e
    have := (par_spec hD hlk.1 (by omega)).1
    rw [hlk.2] at this; omega
  refine ⟨fun i hi => ?_, fun i j hij hj => ?_⟩
  · by_cases ei : i = k + 1
    · subst ei
      rw [if_pos rfl, arr_new hD hk, hl]
      exact hnew
    · have hik : i < k + 1 := by omega
      rw [if_neg ei, arr_next hD hk hik, hb _ (h.lt hik)]
      have hbk := h.blk i hik
      by_cases ep : par (dp rs) (k + 1) = i
      · subst ep
        have hb2 : (w.setCell ⟨nb l, 5, none⟩ (.pointer (some ⟨g, 0, none⟩))).heap[nb (par (dp rs) (k + 1))]? = _ := (Below.heap_setCell _ _ _ _ (h.ne hik hll (fun e => hlp e.symm))).trans hbk
        rw [blk_set hb2]
        have hne : ¬ (some l = some (par (dp rs) (k + 1))) := fun e => hlp (Option.some.inj e)
        simp [nodeArr, hl, hne]
      · rw [Below.heap_setCell _ _ _ _ (h.ne hik hp (fun e => ep e.symm))]
        by_cases el : l = i
        · subst el
          rw [blk_set hbk]
          have h0 : l ≠ 0 := by omega
          simp [nodeArr, hl, ep, h0]
        · rw [Below.heap_setCell _ _ _ _ (h.ne hik hll (fun e => el e.symm)), hbk]
          simp [nodeArr, hl, ep, el]
  · rw [if_neg (show i ≠ k + 1 by omega)]
    by_cases e : j = k + 1
    · rw [if_pos e]; exact hge i (by omega)
    · rw [if_neg e]; exact h.inj i j hij (by omega)
/-- Two new blocks behind a world: the old ones stay, the second is the last. -/
theorem two_old (u : World) (o1 o2 : Obj) (b : Nat) (hb : b < u.heap.size) : ((u.alloc o1).alloc o2).drew.heap[b]? = u.heap[b]? := by
  show ((u.alloc o1).alloc o2).heap[b]? = _
  rw [Below.heap_alloc _ _ _ (by simp; omega), Below.heap_alloc _ _ _ hb]
theorem two_new (u : World) (o1 o2 : Obj) : ((u.alloc o1).alloc o2).drew.heap[u.heap.size + 1]? = some o2 := by
  show ((u.alloc o1).alloc o2).heap[u.heap.size + 1]? = _
  have := heap_alloc_new (u.alloc o1) o2
  rw [World.size_alloc] at this; exact this
theorem size_set (w : World) (p : Addr) (v : Value) : (w.setCell p v).heap.size = w.heap.size := by simp [World.setCell]
end Go.Proofs.YtclhjgcapalniaaDoor
/-
  The program's nodes in memory, by their links: what a store into a link does, and the contracts of (*node).join and put. Conditions: as each theorem says.
-/
namespace Go.Proofs.YtclhjgcapalniaaDoor
open Go.ChangeShapes Go.WideShapes Go.ChangeAt Go.RowKit Go.Joins

structure L5 where
  up : Nat → Option Nat
  ah : Nat → Option Nat
  nx : Nat → Option Nat
  fi : Nat → Option Nat
  la : Nat → Option Nat
def upd (f : Nat → Option Nat) (x : Nat) (v : Option Nat) : Nat → Option Nat := fun y => if y = x then v else f y
theorem upd_same (f : Nat → Option Nat) (x : Nat) (v : Option Nat) : upd f x v x = v := by simp [upd]
theorem upd_ne {f : Nat → Option Nat} {x y : Nat} {v : Option Nat} (h : y ≠ x) : upd f x v y = f y := by simp [upd, h]
def lkArr (nb : Nat → Nat) (R : Nat → RowD) (L : L5) (x : Nat) : Array Value :=
  #[.int .i64 (R x).id, .int .i64 (R x).dep, .string (R x).txt, .pointer (padr nb (L.up x)), .pointer (padr nb (L.ah x)), .pointer (padr nb (L.nx x)), .pointer (padr nb (L.fi x)), .pointer (padr nb (L.la x))]
/-- The blocks nb 0, nb 1 and so on hold M nodes, with these rows and these links. -/
structure Lk (w : World) (nb : Nat → Nat) (R : Nat → RowD) (L : L5) (M : Nat) : Prop where
  blk : ∀ x, x < M → w.heap[nb x]? = some (.cells (lkArr nb R L x) 73 (0, 0))
  inj : ∀ i j, i < M → j < M → nb i = nb j → i = j
def l5D (rs : List RowD) (m : Nat) : L5 := ⟨upO rs, ahO rs, nxO rs m, fi (dp rs) m, la (dp rs) m⟩
theorem Nodes.lk {w : World} {nb : Nat → Nat} {rs : List RowD} {m : Nat} (h : Nodes w nb rs m) : Lk w nb (nd rs) (l5D rs m) m :=
  ⟨fun x hx => h.blk x hx, fun i j hi hj e => by
    rcases Nat.lt_trichotomy i j with g | g | g
    · have := h.inj i j g hj; omega
    · exact g
    · have := h.inj j i g hi; omega⟩
theorem Nodes.of_lk {w : World} {nb : Nat → Nat} {rs : List RowD} {L : L5} {m : Nat} (h : Lk w nb (nd rs) L m) (hl : ∀ i, i < m → L.up i = upO rs i ∧ L.ah i = ahO rs i ∧ L.nx i = nxO rs m i ∧ L.fi i = fi (dp rs) m i ∧ L.la i = la (dp rs) m i) (hi : ∀ i j, i < j → j < m → nb i < nb j) : Nodes w nb rs m :=
  ⟨fun i hi' => by
    rw [h.blk i hi']
    obtain ⟨a, b, c, d, e⟩ := hl i hi'
    unfold lkArr nodeArr
    rw [a, b, c, d, e], hi⟩
section
variable {w w' : World} {nb : Nat → Nat} {R : Nat → RowD} {L : L5} {M : Nat}
theorem Lk.lt (h : Lk w nb R L M) {x : Nat} (hx : x < M) : nb x < w.heap.size := (Array.getElem?_eq_some_iff.1 (h.blk x hx)).1
theorem Lk.below {n₀ : Nat} (h : Lk w nb R L M) (hn : ∀ x, x < M → nb x < n₀) (hb : Below n₀ w w') : Lk w' nb R L M := ⟨fun x hx => by rw [hb.block _ (hn x hx)]; exact h.blk x hx, h.inj⟩
theorem Lk.drewN (h : Lk w nb R L M) (n : Nat) : Lk (w.drewN n) nb R L M := ⟨h.blk, h.inj⟩
theorem Lk.row (h : Lk w nb R L M) {x : Nat} (hx : x < M) :
    w.cell? ⟨nb x, 0, none⟩ = some (.int .i64 (R x).id) ∧ w.cell? ⟨nb x, 1, none⟩ = some (.int .i64 (R x).dep) ∧ w.cell? ⟨nb x, 2, none⟩ = some (.string (R x).txt) := by
  have hb := h.blk x hx
  unfold lkArr at hb
  refine ⟨?_, ?_, ?_⟩ <;> simp [World.cell?, hb]
theorem Lk.links (h : Lk w nb R L M) {x : Nat} (hx : x < M) :
    w.cell? ⟨nb x, 3, none⟩ = some (.pointer (padr nb (L.up x))) ∧ w.cell? ⟨nb x, 4, none⟩ = some (.pointer (padr nb (L.ah x))) ∧ w.cell? ⟨nb x, 5, none⟩ = some (.pointer (padr nb (L.nx x))) ∧
    w.cell? ⟨nb x, 6, none⟩ = some (.pointer (padr nb (L.fi x))) ∧ w.cell? ⟨nb x, 7, none⟩ = some (.pointer (padr nb (L.la x))) := by
  have hb := h.blk x hx
  unfold lkArr at hb
  refine ⟨?_, ?_, ?_, ?_, ?_⟩ <;> simp [World.cell?, hb]
theorem Lk.frozen (h : Lk w nb R L M) {x : Nat} (hx : x < M) (o : Nat) : w.frozen? ⟨nb x, o, none⟩ = false := by
  have hb := h.blk x hx
  simp [World.frozen?, hb]
theorem lk_set {o : Nat} {v : Value} {R' : Nat → RowD} {L' : L5} (h : Lk w nb R L M) {x : Nat} (hx : x < M) (h1 : ∀ y, y ≠ x → lkArr nb R' L' y = lkArr nb R L y) (h2 : lkArr nb R' L' x = (lkArr nb R L x).setIfInBounds o v) : Lk (w.setCell ⟨nb x, o, none⟩ v) nb R' L' M := by
  refine ⟨fun y hy => ?_, h.inj⟩
  by_cases e : y = x
  · subst e
    rw [blk_set (h.blk y hx), h2]
  · rw [Below.heap_setCell _ _ _ _ (fun g => e (h.inj y x hy hx g)), h.blk y hy, h1 y e]
theorem Lk.set3 (h : Lk w nb R L M) {x : Nat} (hx : x < M) (v : Option Nat) : Lk (w.setCell ⟨nb x, 3, none⟩ (.pointer (padr nb v))) nb R { L with up := upd L.up x v } M :=
  lk_set h hx (fun y hy => by simp [lkArr, upd_ne hy]) (by simp [lkArr, upd_same])
theorem Lk.set4 (h : Lk w nb R L M) {x : Nat} (hx : x < M) (v : Option Nat) : Lk (w.setCell ⟨nb x, 4, none⟩ (.pointer (padr nb v))) nb R { L with ah := upd L.ah x v } M :=
  lk_set h hx (fun y hy => by simp [lkArr, upd_ne hy]) (by simp [lkArr, upd_same])
theorem Lk.set5 (h : Lk w nb R L M) {x : Nat} (hx : x < M) (v : Option Nat) : Lk (w.setCell ⟨nb x, 5, none⟩ (.pointer (padr nb v))) nb R { L with nx := upd L.nx x v } M :=
  lk_set h hx (fun y hy => by simp [lkArr, upd_ne hy]) (by simp [lkArr, upd_same])
theorem Lk.set6 (h : Lk w nb R L M) {x : Nat} (hx : x < M) (v : Option Nat) : Lk (w.setCell ⟨nb x, 6, none⟩ (.pointer (padr nb v))) nb R { L with fi := upd L.fi x v } M :=
  lk_set h hx (fun y hy => by simp [lkArr, upd_ne hy]) (by simp [lkArr, upd_same])
theorem Lk.set7 (h : Lk w nb R L M) {x : Nat} (hx : x < M) (v : Option Nat) : Lk (w.setCell ⟨nb x, 7, none⟩ (.pointer (padr nb v))) nb R { L with la := upd L.la x v } M :=
  lk_set h hx (fun y hy => by simp [lkArr, upd_ne hy]) (by simp [lkArr, upd_same])
end

/-! ### join -/
def join1 (L : L5) (n : Nat) (a x : Option Nat) : L5 := match a with
  | none => { L with fi := upd L.fi n x }
  | some a => { L with nx := upd L.nx a x }
def join2 (L : L5) (n : Nat) (a x : Option Nat) : L5 := match x with
  | none => { L with la := upd L.la n a }
  | some x => { L with ah := upd L.ah x a }
def joinL (L : L5) (n : Nat) (a x : Option Nat) : L5 := join2 (join1 L n a x) n a x
/-- The nodes have these links now; below block n₀ nothing has turned. -/
def Linked (nb : Nat → Nat) (R : Nat → RowD) (L : L5) (M n₀ : Nat) (w : World) (e : Ending) (w' : World) : Prop := (∃ v, e = .returned v) ∧ Lk w' nb R L M ∧ Below n₀ w w' ∧ w'.heap.size = w.heap.size
theorem join_lk (nb : Nat → Nat) (R : Nat → RowD) (L : L5) (M n₀ : Nat) (n : Nat) (a x : Option Nat) (w : World) (h : Lk w nb R L M) (h0 : ∀ y, y < M → n₀ ≤ nb y) (hn : n < M) (ha : ∀ y, a = some y → y < M) (hx : ∀ y, x = some y → y < M) :
    Calls Tryd.prog 92 #[.pointer (some ⟨nb n, 0, none⟩), .pointer (padr nb a), .pointer (padr nb x)] w (Linked nb R (joinL L n a x) M n₀ w) := by
  obtain ⟨l3, l4, l5, l6, l7⟩ := h.links hn
  have z6 := h.frozen hn 6
  have z7 := h.frozen hn 7
  cases a with
  | none =>
    cases x with
    | none =>
      simp only [padr]
      go_enter Tryd.func92, Tryd.ntmps92
      go_wp2
      go_end0
      exact ⟨⟨_, rfl⟩, (h.set6 hn none).set7 hn none, ((Below.refl _ w).setCell (p := ⟨nb n, 6, none⟩) (h0 n hn) _).setCell (p := ⟨nb n, 7, none⟩) (h0 n hn) _, by simp⟩
    | some x =>
      have hxM := hx x rfl
      obtain ⟨m3, m4, m5, m6, m7⟩ := h.links hxM
      have y4 := h.frozen hxM 4
      simp only [padr]
      go_enter Tryd.func92, Tryd.ntmps92
      go_wp2
      go_end0
      exact ⟨⟨_, rfl⟩, (h.set6 hn (some x)).set4 hxM none, ((Below.refl _ w).setCell (p := ⟨nb n, 6, none⟩) (h0 n hn) _).setCell (p := ⟨nb x, 4, none⟩) (h0 x hxM) _, by simp⟩
  | some a =>
    have haM := ha a rfl
    obtain ⟨k3, k4, k5, k6, k7⟩ := h.links haM
    have x5 := h.frozen haM 5
    cases x with
    | none =>
      simp only [padr]
      go_enter Tryd.func92, Tryd.ntmps92
      go_wp2
      go_end0
      exact ⟨⟨_, rfl⟩, (h.set5 haM none).set7 hn (some a), ((Below.refl _ w).setCell (p := ⟨nb a, 5, none⟩) (h0 a haM) _).setCell (p := ⟨nb n, 7, none⟩) (h0 n hn) _, by simp⟩
    | some x =>
      have hxM := hx x rfl
      obtain ⟨m3, m4, m5, m6, m7⟩ := h.links hxM
      have y4 := h.frozen hxM 4
      simp only [padr]
      go_enter Tryd.func92, Tryd.ntmps92
      go_wp2
      go_end0
      exact ⟨⟨_, rfl⟩, (h.set5 haM (some x)).set4 hxM (some a), ((Below.refl _ w).setCell (p := ⟨nb a, 5, none⟩) (h0 a haM) _).setCell (p := ⟨nb x, 4, none⟩) (h0 x hxM) _, by simp⟩
/-! ### put -/
def nextOf (L : L5) (n : Nat) (a : Option Nat) : Option Nat := match a with
  | none => L.fi n
  | some a => L.nx a
def put1 (L : L5) (n k : Nat) (a : Option Nat) : L5 := { L with up := upd L.up k (some n), ah := upd L.ah k a, nx := upd L.nx k (nextOf L n a) }
def putL (L : L5) (n k : Nat) (a : Option Nat) : L5 := joinL (joinL (put1 L n k a) n a (some k)) n (some k) (nextOf L n a)
theorem upd_upd (f : Nat → Option Nat) (x : Nat) (u v : Option Nat) : upd (upd f x u) x v = upd f x v := by
  funext y; unfold upd; split <;> rfl
theorem put_nx (L : L5) (n k : Nat) (a : Option Nat) (hak : a ≠ some k) : (joinL (put1 L n k a) n a (some k)).nx k = nextOf L n a := by
  cases a with
  | none => simp [joinL, join2, join1, put1, upd]
  | some a =>
    have : k ≠ a := fun e => hak (by rw [e])
    simp [joinL, join2, join1, put1, upd, this]
set_option maxRecDepth 100000 in
theorem put_lk (nb : Nat → Nat) (R : Nat → RowD) (L : L5) (M n₀ : Nat) (n k : Nat) (a : Option Nat) (w : World) (h : Lk w nb R L M) (h0 : ∀ y, y < M → n₀ ≤ nb y) (hn : n < M) (hk : k < M) (ha : ∀ y, a = some y → y < M) (hak : a ≠ some k) (hx : ∀ y, nextOf L n a = some y → y < M) :
    Calls Tryd.prog 50 #[.pointer (some ⟨nb n, 0, none⟩), .pointer (some ⟨nb k, 0, none⟩), .pointer (padr nb a)] w (Linked nb R (putL L n k a) M n₀ w) := by
  obtain ⟨l3, l4, l5, l6, l7⟩ := h.links hn
  obtain ⟨k3, k4, k5, k6, k7⟩ := h.links hk
  have z3 := h.frozen hk 3
  have z4 := h.frozen hk 4
  have z5 := h.frozen hk 5
  have HN := Lib.hid (put_nx L n k a hak)
  have hkk : ∀ y, some k = some y → y < M := fun y e => by cases e; exact hk
  cases a with
  | none =>
    have hl1 : Lk (((w.setCell ⟨nb k, 3, none⟩ (.pointer (some ⟨nb n, 0, none⟩))).setCell ⟨nb k, 4, none⟩ (.pointer none)).setCell ⟨nb k, 5, none⟩ (.pointer (padr nb (L.fi n)))) nb R (put1 L n k none) M := ((h.set3 hk (some n)).set4 hk none).set5 hk (L.fi n)
    have hb1 : Below n₀ w (((w.setCell ⟨nb k, 3, none⟩ (.pointer (some ⟨nb n, 0, none⟩))).setCell ⟨nb k, 4, none⟩ (.pointer none)).setCell ⟨nb k, 5, none⟩ (.pointer (padr nb (L.fi n)))) :=
      (((Below.refl _ w).setCell (p := ⟨nb k, 3, none⟩) (h0 k hk) _).setCell (p := ⟨nb k, 4, none⟩) (h0 k hk) _).setCell (p := ⟨nb k, 5, none⟩) (h0 k hk) _
    have hs1 : (((w.setCell ⟨nb k, 3, none⟩ (.pointer (some ⟨nb n, 0, none⟩))).setCell ⟨nb k, 4, none⟩ (.pointer none)).setCell ⟨nb k, 5, none⟩ (.pointer (padr nb (L.fi n)))).heap.size = w.heap.size := by simp
    have HS := Lib.hid hs1
    clear hs1
    simp only [padr]
    go_enter Tryd.func50, Tryd.ntmps50
    go_wp2_with fail
    refine (join_lk nb R (put1 L n k none) M n₀ n none (some k) _ hl1 h0 hn ha hkk).mono ?_
    rintro e w2 ⟨⟨v, rfl⟩, hl2, hb2, hs2⟩
    have q5 := (hl2.links hk).2.2.1
    rw [HN.out] at q5
    have hs2' := hs2.trans HS.out
    have HS2 := Lib.hid hs2'
    have hb3 := hb1.trans hb2
    clear hl1 hb1 hb2 HS hs2 hs2'
    go_wp2_with fail
    refine (join_lk nb R _ M n₀ n (some k) (nextOf L n none) _ hl2 h0 hn hkk hx).mono ?_
    rintro e w3 ⟨⟨v, rfl⟩, hl3, hb4, hs3⟩
    go_wp2
    go_end0
    exact ⟨⟨_, rfl⟩, hl3, hb3.trans hb4, hs3.trans HS2.out⟩
  | some a =>
    have haM := ha a rfl
    have hne : a ≠ k := fun e => hak (by rw [e])
    obtain ⟨m3, m4, m5, m6, m7⟩ := h.links haM
    have hbk : nb a ≠ nb k := fun e => hne (h.inj a k haM hk e)
    have hl1 : Lk ((((w.setCell ⟨nb k, 3, none⟩ (.pointer (some ⟨nb n, 0, none⟩))).setCell ⟨nb k, 4, none⟩ (.pointer (some ⟨nb a, 0, none⟩))).setCell ⟨nb k, 5, none⟩ (.pointer (padr nb (L.fi n)))).setCell ⟨nb k, 5, none⟩ (.pointer (padr nb (L.nx a)))) nb R (put1 L n k (some a)) M := by
      have := (((h.set3 hk (some n)).set4 hk (some a)).set5 hk (L.fi n)).set5 hk (L.nx a)
      unfold put1 nextOf
      simp only [upd_upd] at this
      exact this
    have hb1 : Below n₀ w ((((w.setCell ⟨nb k, 3, none⟩ (.pointer (some ⟨nb n, 0, none⟩))).setCell ⟨nb k, 4, none⟩ (.pointer (some ⟨nb a, 0, none⟩))).setCell ⟨nb k, 5, none⟩ (.pointer (padr nb (L.fi n)))).setCell ⟨nb k, 5, none⟩ (.pointer (padr nb (L.nx a)))) :=
      ((((Below.refl _ w).setCell (p := ⟨nb k, 3, none⟩) (h0 k hk) _).setCell (p := ⟨nb k, 4, none⟩) (h0 k hk) _).setCell (p := ⟨nb k, 5, none⟩) (h0 k hk) _).setCell (p := ⟨nb k, 5, none⟩) (h0 k hk) _
    have hs1 : ((((w.setCell ⟨nb k, 3, none⟩ (.pointer (some ⟨nb n, 0, none⟩))).setCell ⟨nb k, 4, none⟩ (.pointer (some ⟨nb a, 0, none⟩))).setCell ⟨nb k, 5, none⟩ (.pointer (padr nb (L.fi n)))).setCell ⟨nb k, 5, none⟩ (.pointer (padr nb (L.nx a)))).heap.size = w.heap.size := by simp
    have HS := Lib.hid hs1
    clear hs1
    simp only [padr]
    go_enter Tryd.func50, Tryd.ntmps50
    go_wp2_with fail
    refine (join_lk nb R (put1 L n k (some a)) M n₀ n (some a) (some k) _ hl1 h0 hn ha hkk).mono ?_
    rintro e w2 ⟨⟨v, rfl⟩, hl2, hb2, hs2⟩
    have q5 := (hl2.links hk).2.2.1
    rw [HN.out] at q5
    have hs2' := hs2.trans HS.out
    have HS2 := Lib.hid hs2'
    have hb3 := hb1.trans hb2
    clear hl1 hb1 hb2 HS hs2 hs2'
    go_wp2_with fail
    refine (join_lk nb R _ M n₀ n (some k) (nextOf L n (some a)) _ hl2 h0 hn hkk hx).mono ?_
    rintro e w3 ⟨⟨v, rfl⟩, hl3, hb4, hs3⟩
    go_wp2
    go_end0
    exact ⟨⟨_, rfl⟩, hl3, hb3.trans hb4, hs3.trans HS2.out⟩
end Go.Proofs.YtclhjgcapalniaaDoor
/-
  Contracts of the program's (*node).add and treeOf. Conditions: the rows lie in memory as a slice of rows; the table 'creators' holds what its initialiser lays.
-/
namespace Go.Proofs.YtclhjgcapalniaaDoor
open Go.ChangeShapes Go.WideShapes Go.ChangeAt Go.RowKit Go.Joins

/-- Node k + 1 has been added: it lies in a new block, and below the first node nothing has turned. -/
def Added (nb : Nat → Nat) (rs : List RowD) (k : Nat) (w : World) (e : Ending) (w' : World) : Prop :=
  ∃ g, e = .returned (.pointer (some ⟨g, 0, none⟩)) ∧ w.heap.size ≤ g ∧ Nodes w' (fun j => if j = k + 1 then g else nb j) rs (k + 2) ∧ Below (nb 0) w w' ∧ w.heap.size ≤ w'.heap.size
/-- The links before node k + 1 is put: it has none. -/
def l50 (rs : List RowD) (k : Nat) : L5 := ⟨upd (upO rs) (k + 1) none, upd (ahO rs) (k + 1) none, upd (nxO rs (k + 1)) (k + 1) none, upd (fi (dp rs) (k + 1)) (k + 1) none, upd (la (dp rs) (k + 1)) (k + 1) none⟩
theorem la_nx {D : Nat → Int} {m p l : Nat} (h : la D m p = some l) : nx D m l = none := by
  obtain ⟨a, b, c⟩ := lstBelow_some _ _ _ h
  refine fstBelow_mk_none _ _ (fun i hi => ?_)
  rw [Bool.eq_false_iff]; intro g
  simp only [Bool.and_eq_true, decide_eq_true_eq] at g
  have := c i g.1 hi
  rw [(isKid_iff.1 b).2] at g
  rw [g.2] at this; cases this
theorem la_fi {D : Nat → Int} {m p : Nat} (h : la D m p = none) : fi D m p = none := fstBelow_mk_none _ _ (lstBelow_none _ _ h)
theorem l50_next {rs : List RowD} {k p : Nat} (hp : p < k + 1) : nextOf (l50 rs k) p (la (dp rs) (k + 1) p) = none := by
  cases h : la (dp rs) (k + 1) p with
  | none => simp only [nextOf, l50]; rw [upd_ne (by omega)]; exact la_fi h
  | some l =>
    have hl := (lstBelow_some _ _ _ h).1
    have h0 := (isKid_iff.1 (lstBelow_some _ _ _ h).2.1).1
    simp only [nextOf, l50]; rw [upd_ne (by omega)]
    unfold nxO; rw [if_neg (by omega)]; exact la_nx h
/-- Put behind the last one, the new node has the links of the longer row of nodes. -/
theorem add_links {rs : List RowD} {k : Nat} (hD : Deps (dp rs) (rs.length + 1)) (hk : k < rs.length) : ∀ i, i < k + 2 →
    (putL (l50 rs k) (par (dp rs) (k + 1)) (k + 1) (la (dp rs) (k + 1) (par (dp rs) (k + 1)))).up i = upO rs i ∧ (putL (l50 rs k) (par (dp rs) (k + 1)) (k + 1) (la (dp rs) (k + 1) (par (dp rs) (k + 1)))).ah i = ahO rs i ∧
    (putL (l50 rs k) (par (dp rs) (k + 1)) (k + 1) (la (dp rs) (k + 1) (par (dp rs) (k + 1)))).nx i = nxO rs (k + 2) i ∧ (putL (l50 rs k) (par (dp rs) (k + 1)) (k + 1) (la (dp rs) (k + 1) (par (dp rs) (k + 1)))).fi i = fi (dp rs) (k + 2) i ∧
    (putL (l50 rs k) (par (dp rs) (k + 1)) (k + 1) (la (dp rs) (k + 1) (par (dp rs) (k + 1)))).la i = la (dp rs) (k + 2) i := by
  intro i hi
  have hp := (par_spec hD (show 1 ≤ k + 1 by omega) (by omega)).1
  have lt : ∀ j, 1 ≤ j → j ≤ k + 1 → par (dp rs) j < j := fun j h1 h2 => (par_spec hD h1 (by omega)).1
  have hnx := l50_next (rs := rs) hp
  have eU : upO rs (k + 1) = some (par (dp rs) (k + 1)) := by unfold upO; rw [if_neg (by omega)]
  have eA : ahO rs (k + 1) = la (dp rs) (k + 1) (par (dp rs) (k + 1)) := by unfold ahO; rw [if_neg (by omega), ah_new]
  have eN : nxO rs (k + 2) (k + 1) = none := by unfold nxO; rw [if_neg (by omega)]; exact nx_new _ _
  have eF : fi (dp rs) (k + 2) (k + 1) = none := fi_new (k + 1) lt
  have eL : la (dp rs) (k + 2) (k + 1) = none := la_new (k + 1) lt
  unfold putL
  rw [hnx]
  unfold put1
  rw [hnx]
  cases h : la (dp rs) (k + 1) (par (dp rs) (k + 1)) with
  | none =>
    rw [h] at eA
    simp only [joinL, join1, join2, l50, upd_upd]
    by_cases e : i = k + 1
    · subst e
      simp [upd, eU, eA, eN, eF, eL, show k + 1 ≠ par (dp rs) (k + 1) by omega]
    · have n1 : nxO rs (k + 2) i = nxO rs (k + 1) i := by
        unfold nxO
        split
        · rfl
        · rw [nx_succ (dp rs) (k + 1) i (by omega) (by omega) (by omega), h]; simp
      rw [fi_succ (dp rs) (k + 1) i (by omega), la_succ (dp rs) (k + 1) i (by omega), n1]
      by_cases ep : i = par (dp rs) (k + 1)
      · simp [upd, ep, show par (dp rs) (k + 1) ≠ k + 1 by omega, h]
      · have ep' : par (dp rs) (k + 1) ≠ i := fun q => ep q.symm
        simp [upd, e, ep, ep']
  | some l =>
    have hl := (lstBelow_some _ _ _ h).1
    have hl0 := (isKid_iff.1 (lstBelow_some _ _ _ h).2.1).1
    rw [h] at eA
    simp only [joinL, join1, join2, l50, upd_upd]
    by_cases e : i = k + 1
    · subst e
      simp [upd, eU, eA, eN, eF, eL, show k + 1 ≠ par (dp rs) (k + 1) by omega]
    · have n1 : nxO rs (k + 2) i = if i = l then some (k + 1) else nxO rs (k + 1) i := by
        unfold nxO
        by_cases i0 : i = 0
        · simp [i0, show (0 : Nat) ≠ l by omega]
        · rw [if_neg i0, if_neg i0, nx_succ (dp rs) (k + 1) i (by omega) (by omega) (by omega), h]
          by_cases il : i = l
          · simp [il]
          · simp [il, show l ≠ i from fun q => il q.symm]
      rw [fi_succ (dp rs) (k + 1) i (by omega), la_succ (dp rs) (k + 1) i (by omega), n1]
      by_cases ep : i = par (dp rs) (k + 1)
      · have hne : par (dp rs) (k + 1) ≠ k + 1 := by omega
        subst ep
        simp [upd, e, h]
      · have ep' : par (dp rs) (k + 1) ≠ i := fun q => ep q.symm
        simp [upd, e, ep, ep']
/-- A new block for node k + 1, that leads nowhere yet. -/
theorem lk_new {w : World} {nb : Nat → Nat} {rs : List RowD} {k : Nat} {o1 : Obj} (hD : Deps (dp rs) (rs.length + 1)) (hk : k < rs.length) (h : Nodes w nb rs (k + 1)) :
    Lk ((w.alloc o1).alloc (.cells #[.int .i64 (rat rs k).id, .int .i64 (rat rs k).dep, .string (rat rs k).txt, .pointer none, .pointer none, .pointer none, .pointer none, .pointer none] 73)) (fun j => if j = k + 1 then w.heap.size + 1 else nb j) (nd rs) (l50 rs k) (k + 2) := by
  have old : ∀ o : Option Nat, (∀ j, o = some j → j < k + 1) → padr (fun j => if j = k + 1 then w.heap.size + 1 else nb j) o = padr nb o := fun o ho =>
    padr_congr fun j hj => if_neg (by have := ho j hj; omega)
  refine ⟨fun x hx => ?_, fun i j hi hj e => ?_⟩
  · by_cases e : x = k + 1
    · subst e
      rw [if_pos rfl]
      have := heap_alloc_new (w.alloc o1) (.cells #[.int .i64 (rat rs k).id, .int .i64 (rat rs k).dep, .string (rat rs k).txt, .pointer none, .pointer none, .pointer none, .pointer none, .pointer none] 73)
      rw [World.size_alloc] at this
      rw [this]
      simp [lkArr, l50, upd, padr, nd]
    · have hxk : x < k + 1 := by omega
      have hlt := h.lt hxk
      rw [if_neg e, Below.heap_alloc _ _ _ (by simp; omega), Below.heap_alloc _ _ _ hlt, h.blk x hxk]
      have e1 : padr (fun j => if j = k + 1 then w.heap.size + 1 else nb j) (upO rs x) = padr nb (upO rs x) := by
        refine old _ fun j hj => ?_
        unfold upO at hj; split at hj
        · cases hj
        · cases hj; have := (par_spec hD (show 1 ≤ x by omega) (by omega)).1; omega
      have e2 : padr (fun j => if j = k + 1 then w.heap.size + 1 else nb j) (ahO rs x) = padr nb (ahO rs x) := by
        refine old _ fun j hj => ?_
        unfold ahO at hj; split at hj
        · cases hj
        · have := (lstBelow_some _ _ _ hj).1; omega
      have e3 : padr (fun j => if j = k + 1 then w.heap.size + 1 else nb j) (nxO rs (k + 1) x) = padr nb (nxO rs (k + 1) x) := by
        refine old _ fun j hj => ?_
        unfold nxO at hj; split at hj
        · cases hj
        · exact (fstBelow_some _ _ _ hj).1
      have e4 : padr (fun j => if j = k + 1 then w.heap.size + 1 else nb j) (fi (dp rs) (k + 1) x) = padr nb (fi (dp rs) (k + 1) x) := old _ fun j hj => (fstBelow_some _ _ _ hj).1
      have e5 : padr (fun j => if j = k + 1 then w.heap.size + 1 else nb j) (la (dp rs) (k + 1) x) = padr nb (la (dp rs) (k + 1) x) := old _ fun j hj => (lstBelow_some _ _ _ hj).1
      simp only [lkArr, l50, upd_ne e, nodeArr, e1, e2, e3, e4, e5]
  · have hs : ∀ i, i < k + 1 → nb i < w.heap.size := fun i hi => h.lt hi
    by_cases ei : i = k + 1 <;> by_cases ej : j = k + 1
    · omega
    · simp only [ei, ej, if_true, if_false] at e; have := hs j (by omega); omega
    · simp only [ei, ej, if_true, if_false] at e; have := hs i (by omega); omega
    · simp only [ei, ej, if_false] at e
      rcases Nat.lt_trichotomy i j with g | g | g
      · have := h.inj i j g (by omega); omega
      · exact g
      · have := h.inj j i g (by omega); omega
set_option maxRecDepth 100000 in
theorem add_any (nb : Nat → Nat) (rs : List RowD) (k : Nat) (w : World) (hD : Deps (dp rs) (rs.length + 1)) (hk : k < rs.length) (h : Nodes w nb rs (k + 1)) :
    Calls Tryd.prog 88 #[.pointer (some ⟨nb (par (dp rs) (k + 1)), 0, none⟩), .agg #[.int .i64 (rat rs k).id, .int .i64 (rat rs k).dep, .string (rat rs k).txt]] w (Added nb rs k w) := by
  have hp := (par_spec hD (show 1 ≤ k + 1 by omega) (by omega)).1
  have hpl := h.lt hp
  have h0l := h.lt (show 0 < k + 1 by omega)
  have l7 := (h.links hp).2.2.2.2
  have hw1 : Below w.heap.size w (w.alloc (.cells #[.int .i64 (rat rs k).id, .int .i64 (rat rs k).dep, .string (rat rs k).txt] 39)) := (Below.refl _ _).alloc (Nat.le_refl _) _
  have hw2 : Below w.heap.size w ((w.alloc (.cells #[.int .i64 (rat rs k).id, .int .i64 (rat rs k).dep, .string (rat rs k).txt] 39)).alloc (.cells #[.int .i64 (rat rs k).id, .int .i64 (rat rs k).dep, .string (rat rs k).txt, .pointer none, .pointer none, .pointer none, .pointer none, .pointer none] 73)) := hw1.alloc (by simp) _
  have hlk := lk_new (o1 := .cells #[.int .i64 (rat rs k).id, .int .i64 (rat rs k).dep, .string (rat rs k).txt] 39) hD hk h
  have l7' := (hw2.cell (p := ⟨nb (par (dp rs) (k + 1)), 7, none⟩) hpl).trans l7
  have hge : ∀ y, y < k + 2 → nb 0 ≤ (if y = k + 1 then w.heap.size + 1 else nb y) := fun y hy => by
    split
    · omega
    · exact h.ge (by omega)
  have hLA : ∀ y, la (dp rs) (k + 1) (par (dp rs) (k + 1)) = some y → y < k + 1 := fun y e => (lstBelow_some _ _ _ e).1
  have hpa : padr nb (la (dp rs) (k + 1) (par (dp rs) (k + 1))) = padr (fun j => if j = k + 1 then w.heap.size + 1 else nb j) (la (dp rs) (k + 1) (par (dp rs) (k + 1))) := padr_congr fun j hj => (if_neg (by have := hLA j hj; omega)).symm
  have HPA := Lib.hid hpa
  have hput := put_lk (fun j => if j = k + 1 then w.heap.size + 1 else nb j) (nd rs) (l50 rs k) (k + 2) (nb 0) (par (dp rs) (k + 1)) (k + 1) (la (dp rs) (k + 1) (par (dp rs) (k + 1))) _ hlk hge (by omega) (by omega) (fun y e => by have := hLA y e; omega) (fun e => by have := hLA _ e; omega) (fun y e => by rw [l50_next hp] at e; cases e)
  simp only [if_neg (show par (dp rs) (k + 1) ≠ k + 1 by omega), if_true] at hput
  have HPUT := Lib.hid hput
  clear hput hlk hpa hw1 l7
  go_enter Tryd.func88, Tryd.ntmps88
  go_wp2_with fail
  rw [HPA.out]
  refine (HPUT.out).mono ?_
  rintro e w2 ⟨⟨v, rfl⟩, hl2, hb2, hs2⟩
  have HS := Lib.hid hs2
  clear hs2 HPUT
  go_wp2
  go_ret
  refine ⟨w.heap.size + 1, rfl, by omega, Nodes.of_lk hl2 (add_links hD hk) (fun i j hij hj => ?_), (hw2.mono (Nat.le_of_lt h0l)).trans hb2, ?_⟩
  · rw [if_neg (show i ≠ k + 1 by omega)]
    by_cases e : j = k + 1
    · rw [if_pos e]; have := h.lt (show i < k + 1 by omega); omega
    · rw [if_neg e]; exact h.inj i j hij (by omega)
  · rw [HS.out]; exact hw2.size
/-! ### treeOf -/
/-- The tree of rows: the top lies in block nb 0, node i + 1 holds row i; nothing old has turned. An outline that is none gives the top alone. -/
def Made (rs : List RowD) (w : World) (e : Ending) (w' : World) : Prop :=
  ∃ nb : Nat → Nat, e = .returned (.pointer (some ⟨nb 0, 0, none⟩)) ∧ w.heap.size ≤ nb 0 ∧ Nodes w' nb rs ((if treeB rs then rs.length else 0) + 1) ∧ Below w.heap.size w w'
theorem nodes_top (w : World) (rs : List RowD) : Nodes (w.alloc (.cells #[.int .i64 0, .int .i64 (-1), .string ⟨#[]⟩, .pointer none, .pointer none, .pointer none, .pointer none, .pointer none] 73)) (fun _ => w.heap.size) rs 1 := by
  refine ⟨fun i hi => ?_, fun i j h1 h2 => by omega⟩
  obtain rfl : i = 0 := by omega
  rw [heap_alloc_new]
  have z : ∀ i, i < 1 → isKid (dp rs) 0 i = false := fun i hi => by
    have e0 : i = 0 := by omega
    rw [e0]; rfl
  have e1 : fi (dp rs) 1 0 = none := fstBelow_mk_none _ _ z
  have e2 : la (dp rs) 1 0 = none := lstBelow_mk_none _ _ z
  simp [nodeArr, e1, e2, padr, upO, ahO, nxO, nd]
set_option maxRecDepth 100000 in
theorem treeOf_any (B : Nat) (a : Option Addr) (cap : Nat) (rs : List RowD) (w : World) (hB : B ≤ w.heap.size) (h : RowsAt B w a rs) (hf : Fit rs) (ht : Tab w) :
    Calls Tryd.prog 46 #[.slice a rs.length cap] w (Made rs w) := by
  have hl := hf.1
  have hz := ht.pos
  have hax : Below w.heap.size w (w.alloc (.cells #[.int .i64 0, .int .i64 (-1), .string ⟨#[]⟩, .pointer none, .pointer none, .pointer none, .pointer none, .pointer none] 73)) := (Below.refl _ _).alloc (Nat.le_refl _) _
  have hn0 := nodes_top w rs
  go_enter Tryd.func46, Tryd.ntmps46
  go_wp2_with fail
  refine (implTreeOk_any B _ _ _ _ (Nat.le_trans hB hax.size) (h.below (hax.mono hB)) hf (ht.below hax hz)).mono ?_
  rintro e w1 ⟨rfl, hb1⟩
  have hn1 := hn0.below hb1
  have b1 : Below w.heap.size w w1 := hax.trans (hb1.mono hax.size)
  clear hax hb1 hn0
  cases htb : treeB rs
  · go_wp2
    go_ret
    exact ⟨fun _ => w.heap.size, rfl, Nat.le_refl _, by rw [htb]; exact hn1, b1⟩
  · have hD := Lib.hid (treeP_of htb).deps
    have HT := Lib.hid htb
    clear htb
    go_wp2_with fail
    go_loopw [4, 18] (fun l t wr => ∃ (k : Nat) (nb : Nat → Nat), k ≤ rs.length ∧ t = .int .i64 k ∧ l = .pointer (some ⟨nb k, 0, none⟩) ∧ Hid (nb 0 = w.heap.size) ∧ Nodes wr nb rs (k + 1) ∧ Below w.heap.size w wr) (fun _ t _ => rs.length - (intOf t).toNat)
    case atStart => exact ⟨0, fun _ => w.heap.size, Nat.zero_le _, rfl, rfl, rfl, hn1, b1⟩
    case round =>
      obtain ⟨k, nb, hk, rfl, rfl, hn, hN, hb⟩ := hrel
      have hr := h.below (hb.mono hB)
      by_cases hlt : k < rs.length
      · obtain ⟨b, off, rfl, hbB, c0, c1, c2⟩ := hr.at_ hlt
        have i1 : (k : Int) < (rs.length : Int) := by omega
        have hx := RowAt.new wr (rat rs k).id (rat rs k).dep (rat rs k).txt
        have hax : Below wr.heap.size wr (wr.alloc (.cells #[.int .i64 (rat rs k).id, .int .i64 (rat rs k).dep, .string (rat rs k).txt] 39)) := (Below.refl _ _).alloc (Nat.le_refl _) _
        have hNa := hN.below hax
        have hba : Below w.heap.size w (wr.alloc (.cells #[.int .i64 (rat rs k).id, .int .i64 (rat rs k).dep, .string (rat rs k).txt] 39)) := hb.trans (hax.mono hb.size)
        have hdk : Hid (dp rs (k + 1) = (rat rs k).dep) := rfl
        go_wp2_with fail
        generalize wr.heap.size = xb at *
        go_loopg [7] k (fun j u wx => j ≤ k ∧ u = .pointer (some ⟨nb j, 0, none⟩) ∧ Hid (∀ l, j < l → l ≤ k → dp rs (k + 1) ≤ dp rs l) ∧ Nodes wx nb rs (k + 1) ∧ RowAt wx xb (rat rs k).id (rat rs k).dep (rat rs k).txt ∧ Below w.heap.size w wx)
        case atStart => exact ⟨Nat.le_refl _, rfl, fun l h1 h2 => by omega, hNa, hx, hba⟩
        case round =>
          obtain ⟨hj, rfl, hall, hNx, hxx, hbx⟩ := hrel
          have hD' := hD.out
          obtain ⟨⟨x0, x1, x2⟩, x3, x4, x5⟩ := hxx
          obtain ⟨n0, n1, n2⟩ := hNx.row (show gk < k + 1 by omega)
          by_cases hd : (rat rs k).dep ≤ (nd rs gk).dep
          · have hg0 : 1 ≤ gk := by
              rcases Nat.eq_zero_or_pos gk with e | e
              · subst e
                have h1 := hD'.low (k + 1) (by omega) (by omega)
                have h2 : dp rs (k + 1) ≤ dp rs 0 := hd
                have := hD'.top
                omega
              · exact e
            obtain ⟨p1, p2, p3⟩ := par_spec hD' hg0 (show gk < rs.length + 1 by omega)
            have l3 := (hNx.links (show gk < k + 1 by omega)).1
            have eup : padr nb (upO rs gk) = some ⟨nb (par (dp rs) gk), 0, none⟩ := by unfold upO; rw [if_neg (by omega)]; rfl
            rw [eup] at l3
            have HA : Hid (∀ l, par (dp rs) gk < l → l ≤ k → dp rs (k + 1) ≤ dp rs l) := fun l h1 h2 => by
              rcases Nat.lt_trichotomy l gk with e | e | e
              · have := p3 l h1 e
                have h3 : dp rs (k + 1) ≤ dp rs gk := hd
                omega
              · subst e; exact hd
              · exact hall.out l e h2
            clear eup p2 p3 hD'
            go_wp2
            go_quiet (fail)
            go_wp2
            go_roundg (par (dp rs) gk)
            case measure => exact p1
            case rel => exact ⟨by omega, rfl, HA, hNx.drewN _, ⟨⟨x0, x1, x2⟩, x3, x4, x5⟩, below_drewN _ hbx⟩
          · have hpar : par (dp rs) (k + 1) = gk := par_uniq (by omega) (show (nd rs gk).dep < (rat rs k).dep by omega) (fun l h1 h2 => hall.out l h1 (by omega))
            subst hpar
            clear hD' hall
            go_wp2
            go_quiet (fail)
            go_wp2_with fail
            refine (add_any nb rs k _ hD.out hlt (hNx.drewN nq)).mono ?_
            rintro e w2 ⟨g, rfl, hg, hN2, hb2, hs2⟩
            have hb3 : Below w.heap.size w w2 := (below_drewN nq hbx).trans (by rw [← hn.out]; exact hb2)
            go_wp2
            go_roundw
            case rel => exact ⟨k + 1, fun j => if j = k + 1 then g else nb j, by omega, by go_num, by simp, (if_neg (by omega)).trans hn.out, hN2, hb3⟩
            case measure => simp [intOf]; omega
      · obtain rfl : k = rs.length := by omega
        go_wp2
        go_ret
        exact ⟨nb, by rw [hn.out]; rfl, by rw [hn.out]; exact Nat.le_refl _, by rw [HT.out]; exact hN, hb⟩
end Go.Proofs.YtclhjgcapalniaaDoor
/-
  Contracts of the program's (*node).walk, below and find: the descendants of a node are gone over in preorder; find gives the first one with a number. Conditions: the nodes lie in memory as treeOf makes them.
-/
namespace Go.Proofs.YtclhjgcapalniaaDoor
open Go.ChangeShapes Go.WideShapes Go.ChangeAt Go.RowKit Go.Joins Go.Shelf

attribute [local go_sem] Oper.semAt_some

/-- The places s, s + 1 and so on, k of them. -/
def seg (m : Nat) : Nat → Nat → List (Fin m)
  | _, 0 => []
  | s, k + 1 => (if h : s < m then [⟨s, h⟩] else []) ++ seg m (s + 1) k
theorem seg_add (m : Nat) : ∀ a s b, seg m s (a + b) = seg m s a ++ seg m (s + a) b
  | 0, s, b => by simp [seg]
  | a + 1, s, b => by
    rw [show a + 1 + b = (a + b) + 1 by omega, seg, seg, seg_add m a (s + 1) b, List.append_assoc, show s + 1 + a = s + (a + 1) by omega]
theorem seg_len (m : Nat) : ∀ k s, s + k ≤ m → (seg m s k).length = k
  | 0, s, _ => rfl
  | k + 1, s, h => by
    have := seg_len m k (s + 1) (by omega)
    rw [seg, dif_pos (show s < m by omega), List.length_append, this]; simp; omega
theorem seg_one (m s : Nat) (h : s < m) : seg m s 1 = [⟨s, h⟩] := by simp [seg, h]

def ptrLeft (n₀ : Nat) (v : Value) : Nat := match v with
  | .pointer (some a) => n₀ - a.block
  | _ => 0
/-- The nodes lie below block n₀. -/
def NodesB (n₀ : Nat) (w : World) (nb : Nat → Nat) (rs : List RowD) (m : Nat) : Prop := Nodes w nb rs m ∧ ∀ i, i < m → nb i < n₀
theorem NodesB.below {n₀ : Nat} {w w' : World} {nb : Nat → Nat} {rs : List RowD} {m : Nat} (h : NodesB n₀ w nb rs m) (hb : Below n₀ w w') : NodesB n₀ w' nb rs m :=
  ⟨⟨fun i hi => by rw [hb.block _ (h.2 i hi)]; exact h.1.blk i hi, h.1.inj⟩, h.2⟩
theorem room_none {F : Fence} (hd : F.depth = none) (k : Nat) : F.room k := fun d h => by rw [hd] at h; cases h
theorem yield_any {F : Fence} (hd : F.depth = none) {m : Nat} (m' : Nat) {P : Program} {l : Nat} {args : Array Value} {W : World} {R : Ending → World → Prop} (h : YieldAt F m P l args W R) : YieldAt F m' P l args W R := by
  obtain ⟨fn, tmps, assign, body, hy, hR⟩ := h
  exact ⟨fn, tmps, assign, body, hy, hR.1, fun c cs _ => hR.2 c cs (room_none hd _)⟩

/-- The pointer to the child at place c, if there is one ahead of place e. -/
def kidP (nb : Nat → Nat) (c e : Nat) : Option Addr := if c < e then some ⟨nb c, 0, none⟩ else none
theorem kidP_yes {nb : Nat → Nat} {c e : Nat} (h : c < e) : kidP nb c e = some ⟨nb c, 0, none⟩ := if_pos h
theorem kidP_no {nb : Nat → Nat} {c e : Nat} (h : ¬ c < e) : kidP nb c e = none := if_neg h
theorem padr_kid {nb : Nat → Nat} {c e : Nat} : padr nb (if c < e then some c else none) = kidP nb c e := by
  unfold kidP; split <;> rfl
theorem left_kid {n₀ : Nat} {nb : Nat → Nat} {c e : Nat} : ptrLeft n₀ (.pointer (kidP nb c e)) = if c < e then n₀ - nb c else 0 := by
  unfold kidP; split <;> rfl
def Walked {m : Nat} (n₀ : Nat) (J Jx : List (Fin m) → World → Prop) (pre xs : List (Fin m)) (W : World) (e : Ending) (W' : World) : Prop :=
  (e = .returned (.bool true) ∧ J (pre ++ xs) W' ∧ Below n₀ W W') ∨ (e = .returned (.bool false) ∧ ∃ q, q <+: xs ∧ Jx (pre ++ q) W')

set_option maxRecDepth 100000 in
set_option maxHeartbeats 2000000 in
theorem walkAll_in (F : Fence) (hd : F.depth = none) (hw : F.fn 110) (hro : F.round = none) (l n₀ N : Nat) (nb : Nat → Nat) (rs : List RowD) (m : Nat) (hD : Deps (dp rs) m) (J Jx : List (Fin m) → World → Prop)
    (hY : ∀ k pre (x : Fin m) W, J pre W → pre.length < N → YieldAt F k Tryd.prog l #[.pointer (some ⟨nb x.1, 0, none⟩)] W fun e W' =>
      (e = .returned (.bool true) ∧ J (pre ++ [x]) W' ∧ Below n₀ W W') ∨ (e = .returned (.bool false) ∧ Jx (pre ++ [x]) W')) (z : Nat) :
    ∀ (i n : Nat) (pre : List (Fin m)) (W : World), i < m → en (dp rs) m i - i ≤ z → NodesB n₀ W nb rs m → J pre W → pre.length + (en (dp rs) m i - (i + 1)) ≤ N →
      CallsIn F n Tryd.prog 110 #[.pointer (some ⟨nb i, 0, none⟩), .func (.yield l) #[] #[]] W (Walked n₀ J Jx pre (seg m (i + 1) (en (dp rs) m i - (i + 1))) W) := by
  induction z with
  | zero =>
    intro i n pre W hi hz
    have := (en_spec (D := dp rs) hi).1
    omega
  | succ z ih =>
    intro i n pre W hi hz hN hJ hlen
    have IH := Lib.hid ih
    have HY := Lib.hid hY
    clear ih hY
    obtain ⟨e1, e2, e3, e4⟩ := en_spec (D := dp rs) hi
    have hfi := fi_eq hD hi
    have hdd : ∀ k : Nat, (F.depth.isSome = true → 1 ≤ k) := fun k h => by rw [hd] at h; cases h
    obtain ⟨l3, l4, l5, l6, l7⟩ := hN.1.links hi
    rw [hfi, padr_kid] at l6
    clear hfi l3 l4 l5 l7
    refine callsIn_of_wp Tryd.func110 rfl hw ?_ hro
    simp only [Tryd.ntmps110, List.size_toArray, List.length_cons, List.length_nil, Nat.reduceAdd, Nat.reduceSub, Array.replicate_succ, Array.replicate_zero, List.push_toArray, List.append_toArray, List.nil_append, List.cons_append]
    gi_wp2
    gi_loopw [5] (fun p wr => ∃ c : Nat, i + 1 ≤ c ∧ c ≤ en (dp rs) m i ∧ p = .pointer (kidP nb c (en (dp rs) m i)) ∧ Hid (c < en (dp rs) m i → par (dp rs) c = i) ∧ NodesB n₀ wr nb rs m ∧ J (pre ++ seg m (i + 1) (c - (i + 1))) wr ∧ Below n₀ W wr) (fun p _ => ptrLeft n₀ p)
    case atStart =>
      refine ⟨i + 1, Nat.le_refl _, e1, rfl, fun hc => ?_, hN, by rw [Nat.sub_self]; simpa [seg] using hJ, Below.refl _ _⟩
      exact (isKid_iff.1 ((kid_iff hD hi (by omega)).2 ⟨by omega, hc, by have s := hD.step (i + 1) (by omega) (by omega); rw [Nat.add_sub_cancel] at s; have := e3 (i + 1) (by omega) hc; omega⟩)).2
    case round =>
      obtain ⟨c, hc1, hc2, rfl, hpar, hNr, hJr, hbr⟩ := hrel
      by_cases hlt : c < en (dp rs) m i
      · rw [kidP_yes hlt]
        have hcm : c < m := by omega
        have hp := hpar.out hlt
        obtain ⟨f1, f2, f3, f4⟩ := en_spec (D := dp rs) hcm
        have hek : en (dp rs) m c ≤ en (dp rs) m i := by have := en_kid hD (show 1 ≤ c by omega) hcm; rw [hp] at this; exact this
        have hsl : (seg m (i + 1) (c - (i + 1))).length = c - (i + 1) := seg_len m _ _ (by omega)
        have hs1 : pre ++ seg m (i + 1) (c - (i + 1)) ++ [⟨c, hcm⟩] = pre ++ seg m (i + 1) (c + 1 - (i + 1)) := by
          rw [show c + 1 - (i + 1) = (c - (i + 1)) + 1 by omega, seg_add, show i + 1 + (c - (i + 1)) = c by omega, seg_one m c hcm, List.append_assoc]
        have hs2 : pre ++ seg m (i + 1) (c + 1 - (i + 1)) ++ seg m (c + 1) (en (dp rs) m c - (c + 1)) = pre ++ seg m (i + 1) (en (dp rs) m c - (i + 1)) := by
          rw [show en (dp rs) m c - (i + 1) = (c + 1 - (i + 1)) + (en (dp rs) m c - (c + 1)) by omega, seg_add, show i + 1 + (c + 1 - (i + 1)) = c + 1 by omega, List.append_assoc]
        obtain ⟨fn, tmps, assign, body, hy, hR⟩ := HY.out (n - 1) _ ⟨c, hcm⟩ wr hJr (by simp [hsl]; omega)
        rw [hs1] at hR
        have HS := Lib.hid hs2
        have HP := Lib.hid hp
        have HL := Lib.hid hsl
        clear hs1 hs2 hp hsl
        dsimp only at hy
        gi_wp2
        refine hR.mono ?_
        clear hR hy
        rintro e W2 (⟨rfl, hJ2, hb2⟩ | ⟨rfl, hx2⟩)
        · have hN2 := hNr.below hb2
          have hb2' := hbr.trans hb2
          gi_wp2_with fail
          refine (IH.out c (n - 1) _ W2 hcm (by omega) hN2 hJ2 (by rw [List.length_append, seg_len m _ _ (by omega)]; omega)).mono ?_
          rintro e W3 (⟨rfl, hJ3, hb3⟩ | ⟨rfl, q, hq, hx3⟩)
          · have hN3 := hN2.below hb3
            have l5 := (hN3.1.links hcm).2.2.1
            have enx : padr nb (nxO rs m c) = kidP nb (en (dp rs) m c) (en (dp rs) m i) := by
              unfold nxO; rw [if_neg (by omega), nx_eq hD (by omega) hcm, HP.out, padr_kid]
            rw [enx] at l5
            rw [HS.out] at hJ3
            clear enx
            have hnx : Hid (en (dp rs) m c < en (dp rs) m i → par (dp rs) (en (dp rs) m c) = i) := fun h => by
              have d1 := par_dep hD (show 1 ≤ c by omega) hcm
              rw [HP.out] at d1
              have d2 := f4 (by omega)
              have d3 := e3 _ (by omega) h
              exact (isKid_iff.1 ((kid_iff hD hi (by omega)).2 ⟨by omega, h, by omega⟩)).2
            have hms : ptrLeft n₀ (.pointer (kidP nb (en (dp rs) m c) (en (dp rs) m i))) < ptrLeft n₀ (.pointer (some ⟨nb c, 0, none⟩)) := by
              have h1 := hN3.2 c hcm
              rw [left_kid]
              show _ < n₀ - nb c
              split
              · have h2 := hN3.1.inj c (en (dp rs) m c) (by omega) (by omega)
                have h3 := hN3.2 (en (dp rs) m c) (by omega)
                omega
              · omega
            gi_wp2
            exact ⟨⟨en (dp rs) m c, by omega, hek, rfl, hnx, hN3, hJ3, hb2'.trans hb3⟩, hms⟩
          · have hpf : seg m (i + 1) (c + 1 - (i + 1)) ++ q <+: seg m (i + 1) (en (dp rs) m i - (i + 1)) := by
              obtain ⟨r, hr⟩ := hq
              refine ⟨r ++ seg m (en (dp rs) m c) (en (dp rs) m i - en (dp rs) m c), ?_⟩
              rw [show en (dp rs) m i - (i + 1) = (c + 1 - (i + 1)) + ((en (dp rs) m c - (c + 1)) + (en (dp rs) m i - en (dp rs) m c)) by omega, seg_add, seg_add, show i + 1 + (c + 1 - (i + 1)) = c + 1 by omega, ← hr, show c + 1 + (en (dp rs) m c - (c + 1)) = en (dp rs) m c by omega]
              simp only [List.append_assoc]
            gi_wp2
            go_ret
            exact .inr ⟨rfl, _, hpf, by rw [← List.append_assoc]; exact hx3⟩
        · have hpf : seg m (i + 1) (c + 1 - (i + 1)) <+: seg m (i + 1) (en (dp rs) m i - (i + 1)) := by
            refine ⟨seg m (c + 1) (en (dp rs) m i - (c + 1)), ?_⟩
            rw [show en (dp rs) m i - (i + 1) = (c + 1 - (i + 1)) + (en (dp rs) m i - (c + 1)) by omega, seg_add, show i + 1 + (c + 1 - (i + 1)) = c + 1 by omega]
          gi_wp2
          go_ret
          exact .inr ⟨rfl, _, hpf, hx2⟩
      · rw [kidP_no hlt]
        obtain rfl : c = en (dp rs) m i := by omega
        gi_wp2
        go_ret
        exact .inl ⟨rfl, hJr, hbr⟩
end Go.Proofs.YtclhjgcapalniaaDoor
/-
  Contracts of the program's (*node).below and find: find gives the first descendant with a number. Conditions: the nodes lie in memory as treeOf makes them.
-/
namespace Go.Proofs.YtclhjgcapalniaaDoor
open Go.ChangeShapes Go.WideShapes Go.ChangeAt Go.RowKit Go.Joins Go.Shelf

attribute [local go_sem] Oper.semAt_some

set_option maxHeartbeats 1000000 in
theorem below1_in (F : Fence) (hd : F.depth = none) (n : Nat) (hc : F.fn 109) (hw : F.fn 110) (hro : F.round = none) (l Bt n₀ : Nat) (nb : Nat → Nat) (rs : List RowD) (m i : Nat) (hD : Deps (dp rs) m) (hi : i < m) (J Jx : List (Fin m) → World → Prop)
    (hY : ∀ pre (x : Fin m) W, J pre W → pre.length < en (dp rs) m i - (i + 1) → YieldAt F (n - 1) Tryd.prog l #[.pointer (some ⟨nb x.1, 0, none⟩)] W fun e W' =>
      (e = .returned (.bool true) ∧ J (pre ++ [x]) W' ∧ Below n₀ W W') ∨ (e = .returned (.bool false) ∧ Jx (pre ++ [x]) W'))
    (W : World) (hBt : W.cell? ⟨Bt, 0, none⟩ = some (.pointer (some ⟨nb i, 0, none⟩))) (hN : NodesB n₀ W nb rs m) (h0 : J [] W) :
    CallsIn F n Tryd.prog 109 #[.func (.yield l) #[] #[], .pointer (some ⟨Bt, 0, none⟩)] W fun e W' => (∃ v, e = .returned v) ∧
      ((∃ ys, ys = seg m (i + 1) (en (dp rs) m i - (i + 1)) ∧ J ys W') ∨ (∃ pre, pre <+: seg m (i + 1) (en (dp rs) m i - (i + 1)) ∧ Jx pre W')) := by
  have hp := walkAll_in F hd hw hro l n₀ (en (dp rs) m i - (i + 1)) nb rs m hD J Jx (fun k pre x W hj hl => yield_any hd k (hY pre x W hj hl)) (en (dp rs) m i - i) i (n - 1) [] W hi (Nat.le_refl _) hN h0 (by simp)
  refine callsIn_of_wp Tryd.func109 rfl hc ?_ hro
  simp only [Tryd.ntmps109, List.size_toArray, List.length_cons, List.length_nil, Nat.reduceAdd, Nat.reduceSub, Array.replicate_succ, Array.replicate_zero, List.push_toArray, List.append_toArray, List.nil_append, List.cons_append]
  have HP := Lib.hid hp
  clear hp
  gi_wp2_with fail
  refine (HP.out).mono ?_
  rintro e W1 (⟨rfl, hJ1, _⟩ | ⟨rfl, q, hq, hx⟩)
  · gi_wp2
    go_end0
    exact ⟨⟨_, rfl⟩, .inl ⟨_, rfl, by simpa using hJ1⟩⟩
  · gi_wp2
    go_end0
    exact ⟨⟨_, rfl⟩, .inr ⟨q, hq, by simpa using hx⟩⟩
set_option maxHeartbeats 1000000 in
theorem below_in (F : Fence) (n : Nat) (hb : F.fn 89) (hro : F.round = none) (p0 : Option Addr) (w : World) :
    CallsIn F n Tryd.prog 89 #[.pointer p0] w fun e w' => e = .returned (.func (.func 109) #[] #[.pointer (some ⟨w.heap.size, 0, none⟩)]) ∧ w' = w.alloc (.cells #[.pointer p0] 69) := by
  refine callsIn_of_wp Tryd.func89 rfl hb ?_ hro
  simp only [Tryd.ntmps89, List.size_toArray, List.length_cons, List.length_nil, Nat.reduceAdd, Nat.reduceSub, Array.replicate_succ, Array.replicate_zero, List.push_toArray, List.append_toArray, List.nil_append, List.cons_append]
  gi_wp2
  go_ret
  exact ⟨rfl, rfl⟩
theorem below_stops (F : Fence) (hd : F.depth = none) (n : Nat) (hc : F.fn 109) (hw : F.fn 110) (hro : F.round = none) (Bt n₀ : Nat) (nb : Nat → Nat) (rs : List RowD) (m i : Nat) (hD : Deps (dp rs) m) (hi : i < m) (w : World) (hBt : Bt < w.heap.size) (hn₀ : n₀ ≤ w.heap.size)
    (hcell : w.cell? ⟨Bt, 0, none⟩ = some (.pointer (some ⟨nb i, 0, none⟩))) (hN : NodesB n₀ w nb rs m) :
    SeqStopsK F n Tryd.prog 109 #[.pointer (some ⟨Bt, 0, none⟩)] (fun x : Fin m => #[Value.pointer (some ⟨nb x.1, 0, none⟩)]) (Below n₀) (fun ys => ys = seg m (i + 1) (en (dp rs) m i - (i + 1))) (fun pre => pre <+: seg m (i + 1) (en (dp rs) m i - (i + 1))) (en (dp rs) m i - (i + 1)) w := fun l J Jx W hW _ _ hY h0 =>
  below1_in F hd n hc hw hro l Bt n₀ nb rs m i hD hi J Jx hY W ((hW.cell (p := ⟨Bt, 0, none⟩) hBt).trans hcell) (hN.below (hW.mono hn₀)) h0

/-! ### find -/
def fndO (rs : List RowD) (m : Nat) (id : Int) : Option Nat := if fstFrom (fun i => (rat rs i).id == id) (m - 1) 0 < m - 1 then some (fstFrom (fun i => (rat rs i).id == id) (m - 1) 0 + 1) else none
theorem seg_mem (m : Nat) : ∀ k s (x : Fin m), x ∈ seg m s k → s ≤ x.1 ∧ x.1 < s + k
  | 0, s, x, h => by simp [seg] at h
  | k + 1, s, x, h => by
    rw [seg, List.mem_append] at h
    rcases h with h | h
    · split at h
      · simp at h; subst h; exact ⟨Nat.le_refl _, by show s < s + (k + 1); omega⟩
      · simp at h
    · have := seg_mem m k (s + 1) x h; omega
theorem mem_seg (m : Nat) : ∀ k s (x : Fin m), s ≤ x.1 → x.1 < s + k → x ∈ seg m s k
  | 0, s, x, h1, h2 => by omega
  | k + 1, s, x, h1, h2 => by
    rw [seg, List.mem_append]
    by_cases e : x.1 = s
    · left; rw [dif_pos (by omega)]; simp; exact Fin.ext e
    · right; exact mem_seg m k (s + 1) x (by omega) (by omega)
/-- A prefix of the places from s on is again such a list. -/
theorem seg_prefix (m : Nat) (s k : Nat) (hm : s + k ≤ m) (pre : List (Fin m)) (h : pre <+: seg m s k) : pre = seg m s pre.length := by
  obtain ⟨r, hr⟩ := h
  have hl : (seg m s k).length = k := seg_len m k s hm
  have hle : pre.length ≤ k := by rw [← hl, ← hr, List.length_append]; omega
  have : seg m s k = seg m s pre.length ++ seg m (s + pre.length) (k - pre.length) := by rw [← seg_add]; congr 1; omega
  rw [this] at hr
  exact (List.append_inj hr (by rw [seg_len m _ _ (by omega)])).1
theorem fnd_none {rs : List RowD} {m : Nat} {id : Int} (h : ∀ y : Fin m, y ∈ seg m 1 (m - 1) → (nd rs y.1).id ≠ id) : fndO rs m id = none := by
  unfold fndO
  rw [if_neg]
  intro g
  have := fstFrom_yes (fun i => (rat rs i).id == id) (m - 1) 0 (by omega)
  simp only [beq_iff_eq] at this
  exact h ⟨_, show fstFrom (fun i => (rat rs i).id == id) (m - 1) 0 + 1 < m by omega⟩ (mem_seg m _ _ _ (by simp) (by simp; omega)) this
theorem fnd_some {rs : List RowD} {m : Nat} {id : Int} {pre : List (Fin m)} {x : Fin m} (hp : pre ++ [x] <+: seg m 1 (m - 1)) (hx : (nd rs x.1).id = id) (h : ∀ y, y ∈ pre → (nd rs y.1).id ≠ id) : fndO rs m id = some x.1 := by
  have hm : 1 ≤ m := by have := x.2; omega
  have e := seg_prefix m 1 (m - 1) (by omega) _ hp
  have hl : (pre ++ [x]).length = pre.length + 1 := by simp
  rw [hl, seg_add] at e
  have hle : pre.length + 1 ≤ m - 1 := by
    obtain ⟨r, hr⟩ := hp
    have := congrArg List.length hr
    rw [seg_len m _ _ (by omega)] at this
    simp at this; omega
  obtain ⟨e1, e2⟩ := List.append_inj e (by rw [seg_len m _ _ (by omega)])
  rw [seg_one m _ (by omega)] at e2
  have ex : x.1 = 1 + pre.length := by have := List.cons.inj e2 |>.1; rw [this]
  have hmem : ∀ y : Fin m, y ∈ seg m 1 pre.length → y ∈ pre := fun y hy => by rw [e1]; exact hy
  have key : fstFrom (fun i => (rat rs i).id == id) (m - 1) 0 = pre.length := by
    refine fstFrom_uniq _ _ _ _ (Nat.zero_le _) (by omega) (fun j _ hj => ?_) (fun _ => ?_)
    · have := h ⟨j + 1, by omega⟩ (hmem _ (mem_seg m _ _ _ (by simp) (by simp; omega)))
      simpa [nd] using this
    · rw [ex, show 1 + pre.length = pre.length + 1 by omega] at hx
      simpa [nd] using hx
  unfold fndO
  rw [key, if_pos (by omega), ex]
  congr 1; omega
theorem deps_one (D : Nat → Int) (h : D 0 = -1) : Deps D 1 := ⟨Nat.le_refl _, h, fun i h1 h2 => by omega, fun i h1 h2 => by omega⟩
theorem cell_box {W : World} {B : Nat} {v : Value} {t : TypeId} (h : W.heap[B]? = some (.cells #[v] t (0, 0))) : W.cell? ⟨B, 0, none⟩ = some v ∧ W.frozen? ⟨B, 0, none⟩ = false := by
  constructor <;> simp [World.cell?, World.frozen?, h]
theorem cell_newbox (W : World) (v : Value) (t : TypeId) : (W.alloc (.cells #[v] t)).cell? ⟨W.heap.size, 0, none⟩ = some v ∧ (W.alloc (.cells #[v] t)).frozen? ⟨W.heap.size, 0, none⟩ = false :=
  cell_box (World.alloc_heap_new W _)
theorem cell_onbox {W : World} {a : Addr} {v : Value} (o : Obj) (h : W.cell? a = some v) : (W.alloc o).cell? a = some v := cell_kept h (World.grownBy_alloc W o none) (fun r e => by cases e)
theorem frozen_onbox {W : World} {a : Addr} {v : Value} (o : Obj) (h : W.cell? a = some v) (hf : W.frozen? a = false) : (W.alloc o).frozen? a = false := (frozen_kept h (World.grownBy_alloc W o none) (fun r e => by cases e)).trans hf
def Found (nb : Nat → Nat) (o : Option Nat) (w : World) (e : Ending) (w' : World) : Prop := e = .returned (.pointer (padr nb o)) ∧ Below w.heap.size w w'
set_option maxRecDepth 100000 in
set_option maxHeartbeats 2000000 in
theorem find_in (F : Fence) (hd : F.depth = none) (n : Nat) (hf : F.fn 47) (hb : F.fn 89) (hc : F.fn 109) (hw : F.fn 110) (hro : F.round = none) (hn : 3 ≤ n) (nb : Nat → Nat) (rs : List RowD) (m : Nat) (id : Int) (hD : Deps (dp rs) m) (w : World) (hN : Nodes w nb rs m) :
    CallsIn F n Tryd.prog 47 #[.pointer (some ⟨nb 0, 0, none⟩), .int .i64 id] w (Found nb (fndO rs m id) w) := by
  have h1 : 1 ≤ n := by omega
  have hm := hD.pos
  have hNB : NodesB w.heap.size w nb rs m := ⟨hN, fun i hi => hN.lt hi⟩
  refine callsIn_of_wp_marks Tryd.func47 rfl hf ?_ hro
  simp only [Tryd.ntmps47, List.size_toArray, List.length_cons, List.length_nil, Nat.reduceAdd, Nat.reduceSub, Array.replicate_succ, Array.replicate_zero, List.push_toArray, List.append_toArray, List.nil_append, List.cons_append]
  gi_wp2_with (gi_at_call 89; refine (below_in F (n - 1) hb hro _ _).mono ?_; rintro e w' ⟨rfl, rfl⟩)
  have c0 := cell_newbox w (.int .i64 id) 3
  have c1 := cell_newbox (w.alloc (.cells #[.int .i64 id] 3)) (.pointer none) 69
  have c2 := cell_newbox ((w.alloc (.cells #[.int .i64 id] 3)).alloc (.cells #[.pointer none] 69)) (.pointer (some ⟨nb 0, 0, none⟩)) 69
  simp only [World.size_alloc] at c1 c2
  have hB0 : Below w.heap.size w (((w.alloc (.cells #[.int .i64 id] 3)).alloc (.cells #[.pointer none] 69)).alloc (.cells #[.pointer (some ⟨nb 0, 0, none⟩)] 69)) := (((Below.refl _ w).alloc (Nat.le_refl _) _).alloc (by simp) _).alloc (by simp; omega) _
  have hE : en (dp rs) m 0 = m := en_top hD
  have hst := below_stops F hd (n - 1) hc hw hro (w.heap.size + 1 + 1) w.heap.size nb rs m 0 hD hm _ (by simp) (by simp; omega) c2.1 (hNB.below hB0)
  rw [hE] at hst
  refine wpIn_rangeFunc_ownF hro h1 (gf := 109) (lb := #[.pointer (some ⟨w.heap.size + 1 + 1, 0, none⟩)]) rfl hc (enters_of Tryd.func109 (by kernel_rfl) rfl)
    hst belowK_t (belowK_b (by simp; omega)) (Below.refl _ _) (fun _ => rfl)
    (fun pre W => ((∀ y ∈ pre, (nd rs y.1).id ≠ id) ∧ W.cell? ⟨w.heap.size, 0, none⟩ = some (.int .i64 id) ∧ W.cell? ⟨w.heap.size + 1, 0, none⟩ = some (.pointer none) ∧ W.frozen? ⟨w.heap.size + 1, 0, none⟩ = false) ∧ Below w.heap.size w W)
    (fun c pre W => (c = .ret ∧ (∃ (q : List (Fin m)) (x : Fin m), pre = q ++ [x] ∧ (nd rs x.1).id = id ∧ (∀ y ∈ q, (nd rs y.1).id ≠ id) ∧ W.cell? ⟨w.heap.size + 1, 0, none⟩ = some (.pointer (some ⟨nb x.1, 0, none⟩)))) ∧ Below w.heap.size w W)
    (OwnFrom.and (Own.from (fun s A B row hs hg hr => ⟨hs.1, cell_kept hs.2.1 hg hr, cell_kept hs.2.2.1 hg hr, (frozen_kept hs.2.2.1 hg hr).trans hs.2.2.2⟩) _) (ownFrom_below (Nat.le_refl _) (by simp; omega)))
    (fun c => OwnFrom.and (Own.from (fun s A B row hs hg hr => ⟨hs.1, by obtain ⟨q, x, a1, a2, a3, a4⟩ := hs.2; exact ⟨q, x, a1, a2, a3, cell_kept a4 hg hr⟩⟩) _) (ownFrom_below (Nat.le_refl _) (by simp; omega)))
    ⟨⟨by simp, cell_onbox _ (cell_onbox _ c0.1), cell_onbox _ c1.1, frozen_onbox _ c1.1 c1.2⟩, hB0⟩
    (fun x => { tmps := #[.pointer (some ⟨nb 0, 0, none⟩), .int .i64 id, undef, .pointer (some ⟨w.heap.size, 0, none⟩), .pointer (some ⟨w.heap.size + 1, 0, none⟩), .pointer (some ⟨nb x.1, 0, none⟩), .pointer (some ⟨nb 0, 0, none⟩), .func (.func 109) #[] #[.pointer (some ⟨w.heap.size + 1 + 1, 0, none⟩)], .pointer (some ⟨nb x.1, 0, none⟩), undef, undef, undef, undef, undef, undef, undef, undef], defers := [] }) ?assign ?body ?done ?stop
  case assign =>
    intro l x W K hK
    gi_wp2
    exact hK
  case body =>
    rintro l pre x W ⟨⟨hp, hcw, hcr, hfr⟩, hB⟩ _
    obtain ⟨n0, n1, n2⟩ := (hNB.below hB).1.row x.2
    have hmo : Tryd.prog.follows Departure.mixedOrders = true := by kernel_rfl
    cases hx : ((nd rs x.1).id == id)
    · have HX : Hid ((nd rs x.1).id ≠ id) := by simpa [Hid] using hx
      gi_wp2
      gi_region_o
      all_goals gi_wp2
      all_goals exact ⟨KeepsOthers.drew _, (Below.refl _ _).drew, ⟨fun y hy => (List.mem_append.1 hy).elim (hp y) (fun e => by simp at e; subst e; exact HX.out), hcw, hcr, hfr⟩, hB.drew⟩
    · have HX : Hid ((nd rs x.1).id = id) := by simpa [Hid] using hx
      gi_wp2
      gi_region_o
      all_goals gi_wp2
      all_goals exact ⟨(KeepsOthers.setCell W ⟨w.heap.size + 1, 0, none⟩ _).trans (KeepsOthers.drew _), ⟨rfl, pre, x, rfl, HX.out, hp, World.cell?_setCell_same' W ⟨w.heap.size + 1, 0, none⟩ _ (by rw [hcr]; rfl)⟩, (hB.setCell (p := ⟨w.heap.size + 1, 0, none⟩) (by simp) _).drew⟩
  case done =>
    rintro D ys W hD' rfl ⟨⟨hne, _, hcr, hfr⟩, hB⟩ hK
    gi_wp2
    have hK' := (KeepsOthers.setCell W ⟨w.heap.size + 1, 0, none⟩ (.pointer none)).same D _ hK rfl
    refine ⟨by simp, .inl ⟨_, _, rfl, run_takeDeferred hK', ?_⟩⟩
    have hc5 := cell_kept (World.cell?_setCell_same' W ⟨w.heap.size + 1, 0, none⟩ (.pointer none) (by rw [hcr]; rfl)) (grownBy_putObj' _ D (.deferred none)) (fun r e => by cases e; exact ⟨_, hK', rfl⟩)
    refine ⟨.pointer none, ?_, by rw [fnd_none hne]; rfl, (hB.setCell (p := ⟨w.heap.size + 1, 0, none⟩) (by simp) _).trans (belowK_b (w := w) (Nat.le_refl _) _ D _ _ (by simp at hD'; omega) hK' rfl rfl)⟩
    simp [results, Tryd.f47, go_sem, hc5]
  case stop =>
    rintro D c pre W hD' hpre ⟨⟨rfl, q, x, rfl, hx, hq, hcr⟩, hB⟩ hK
    gi_wp2
    refine ⟨by simp, .inl ⟨_, _, rfl, run_takeDeferred hK, ?_⟩⟩
    have hc5 := cell_kept hcr (grownBy_putObj' _ D (.deferred none)) (fun r e => by cases e; exact ⟨_, hK, rfl⟩)
    refine ⟨.pointer (some ⟨nb x.1, 0, none⟩), ?_, by rw [fnd_some hpre hx hq]; rfl, hB.trans (belowK_b (w := w) (Nat.le_refl _) W D _ _ (by simp at hD'; omega) hK rfl rfl)⟩
    simp [results, Tryd.f47, go_sem, hc5]
end Go.Proofs.YtclhjgcapalniaaDoor
/-
  Contracts of the program's TreeUp, TreeAhead, TreeUnder: they answer as the model's. Conditions: the rows lie in memory as a slice of rows; the table 'creators' holds what its initialiser lays.
-/
namespace Go.Proofs.YtclhjgcapalniaaDoor
open Go.ChangeShapes Go.WideShapes Go.ChangeAt Go.RowKit Go.Joins

/-- How many nodes there are: the top alone where the rows are no outline. -/
def nodesN (rs : List RowD) : Nat := (if treeB rs then rs.length else 0) + 1
theorem nodesN_deps (rs : List RowD) : Deps (dp rs) (nodesN rs) := by
  unfold nodesN
  cases h : treeB rs
  · exact deps_one _ rfl
  · exact (treeP_of h).deps
theorem find_any (nb : Nat → Nat) (rs : List RowD) (id : Int) (w : World) (hN : Nodes w nb rs (nodesN rs)) :
    Calls Tryd.prog 47 #[.pointer (some ⟨nb 0, 0, none⟩), .int .i64 id] w (Found nb (fndO rs (nodesN rs) id) w) :=
  callsIn_wide.1 (find_in Fence.wide rfl 3 trivial trivial trivial trivial rfl (Nat.le_refl _) nb rs (nodesN rs) id (nodesN_deps rs) w hN)
theorem fnd_no {rs : List RowD} {id : Int} (h : hasB rs id = false) : fndO rs (nodesN rs) id = none := by
  unfold fndO nodesN
  cases ht : treeB rs
  · rfl
  · simp only [hasB, ht, Bool.true_and, decide_eq_false_iff_not] at h
    rw [if_neg]
    exact h
theorem hasB_iff {rs : List RowD} {id : Int} : hasB rs id = true ↔ treeB rs = true ∧ atN rs id < rs.length := by simp [hasB]
theorem fnd_yes {rs : List RowD} {id : Int} (h : hasB rs id = true) : fndO rs (nodesN rs) id = some (atN rs id + 1) := by
  obtain ⟨h1, h2⟩ := hasB_iff.1 h
  unfold fndO nodesN
  rw [h1]
  exact if_pos h2
theorem nodesN_tree {rs : List RowD} (h : treeB rs = true) : nodesN rs = rs.length + 1 := by simp [nodesN, h]

theorem implTreeUp_any (B : Nat) (a : Option Addr) (cap : Nat) (rs : List RowD) (id : Int) (w : World) (hB : B ≤ w.heap.size) (h : RowsAt B w a rs) (hf : Fit rs) (ht : Tab w) :
    Calls Tryd.prog 14 #[.slice a rs.length cap, .int .i64 id] w (RetBelow (.tuple #[.int .i64 (upI rs id), .bool (hasB rs id)]) w) := by
  cases hh : hasB rs id
  · have e2 : upI rs id = 0 := by simp [upI, hh]
    have HF := Lib.hid (fnd_no hh)
    rw [e2]
    clear e2 hh
    go_enter Tryd.func14, Tryd.ntmps14
    go_wp2_with fail
    refine (treeOf_any B _ _ _ _ hB h hf ht).mono ?_
    rintro e w1 ⟨nb, rfl, _, hN, hb1⟩
    go_wp2_with fail
    refine (find_any nb rs id w1 hN).mono ?_
    rintro e w2 ⟨rfl, hb2⟩
    rw [HF.out]
    simp only [padr]
    go_wp2
    go_ret2
    exact ⟨rfl, hb1.trans (hb2.mono hb1.size)⟩
  · have HF := Lib.hid (fnd_yes hh)
    obtain ⟨htb, hat⟩ := hasB_iff.1 hh
    have e2 : upI rs id = upAt rs (atN rs id) := by simp [upI, hh]
    rw [e2]
    have hP := treeP_of htb
    have HS := Lib.hid (par_shift hP hat)
    have hps := (par_spec hP.deps (show 1 ≤ atN rs id + 1 by omega) (by omega)).1
    have HM := Lib.hid (nodesN_tree htb)
    have HU : Hid (upO rs (atN rs id + 1) = some (par (dp rs) (atN rs id + 1))) := by unfold Hid upO; rw [if_neg (by omega)]
    clear e2 hh htb hP
    go_enter Tryd.func14, Tryd.ntmps14
    go_wp2_with fail
    refine (treeOf_any B _ _ _ _ hB h hf ht).mono ?_
    rintro e w1 ⟨nb, rfl, _, hN, hb1⟩
    go_wp2_with fail
    refine (find_any nb rs id w1 hN).mono ?_
    rintro e w2 ⟨rfl, hb2⟩
    rw [HF.out]
    simp only [padr]
    have hN2 : Nodes w2 nb rs (nodesN rs) := hN.below hb2
    rw [HM.out] at hN2
    have l3 := (hN2.links (show atN rs id + 1 < rs.length + 1 by omega)).1
    rw [HU.out] at l3
    simp only [padr] at l3
    have r0 := (hN2.row (show par (dp rs) (atN rs id + 1) < rs.length + 1 by omega)).1
    rw [HS.out] at r0
    clear hN hN2
    go_wp2
    go_ret2
    exact ⟨rfl, hb1.trans (hb2.mono hb1.size)⟩

/-! ### TreeAhead -/
theorem ah_shift {rs : List RowD} (h : TreeP rs) {i : Nat} (hi : i < rs.length) (hr : 1 ≤ (rat rs i).dep) :
    (ah (dp rs) (i + 1) = none ∧ ahAt rs i = 0) ∨ (∃ j, j < rs.length ∧ ah (dp rs) (i + 1) = some (j + 1) ∧ ahAt rs i = (rat rs j).id) := by
  have hD := h.deps
  obtain ⟨p1, p2, p3⟩ := par_spec hD (show 1 ≤ i + 1 by omega) (show i + 1 < rs.length + 1 by omega)
  have pd := par_dep hD (show 1 ≤ i + 1 by omega) (show i + 1 < rs.length + 1 by omega)
  have pin := par_in hD (show 1 ≤ i + 1 by omega) (show i + 1 < rs.length + 1 by omega)
  have pne : par (dp rs) (i + 1) ≠ 0 := fun e => by
    rw [e] at pd
    have h0 := hD.top
    have : dp rs (i + 1) = (rat rs i).dep := rfl
    omega
  obtain ⟨q, hq⟩ : ∃ q, par (dp rs) (i + 1) = q + 1 := ⟨par (dp rs) (i + 1) - 1, by omega⟩
  have dq : rdep rs q = rdep rs i - 1 := by rw [hq] at pd; exact pd
  unfold ahAt
  cases e : lstBelow (fun j => decide (rdep rs j ≤ rdep rs i)) i with
  | none =>
    have := lstBelow_none _ _ e q (by omega)
    simp only [decide_eq_false_iff_not] at this
    omega
  | some j =>
    obtain ⟨a, b, c⟩ := lstBelow_some _ _ _ e
    simp only [decide_eq_true_eq] at b
    have hqj : q ≤ j := by
      rcases Nat.lt_or_ge j q with g | g
      · have := c q g (by omega)
        simp only [decide_eq_false_iff_not] at this; omega
      · exact g
    by_cases ej : rdep rs j = rdep rs i
    · right
      refine ⟨j, by omega, ?_, by simp only; rw [if_pos ej]⟩
      unfold ah
      have hjq : q < j := by
        rcases Nat.lt_or_ge q j with g | g
        · exact g
        · have : j = q := by omega
          rw [this] at ej; omega
      refine lstBelow_mk _ _ _ (by omega) ?_ (fun l h1 h2 => ?_)
      · refine (kid_iff hD (by omega) (by omega)).2 ⟨by omega, by omega, ?_⟩
        rw [pd]
        show rdep rs j = rdep rs i - 1 + 1
        omega
      · obtain ⟨l', rfl⟩ : ∃ l', l = l' + 1 := ⟨l - 1, by omega⟩
        rw [Bool.eq_false_iff]; intro g
        have k := ((kid_iff hD (show par (dp rs) (i + 1) < rs.length + 1 by omega) (show l' + 1 < rs.length + 1 by omega)).1 g).2.2
        rw [pd] at k
        have := c l' (by omega) (by omega)
        simp only [decide_eq_false_iff_not] at this
        have k' : rdep rs l' = rdep rs i - 1 + 1 := k
        omega
    · left
      have hj : j = q := by
        rcases Nat.lt_or_ge q j with g | g
        · have := p3 (j + 1) (by omega) (by omega)
          have t : rdep rs i ≤ rdep rs j := this
          omega
        · omega
      refine ⟨?_, by simp only; rw [if_neg ej]⟩
      unfold ah
      refine lstBelow_mk_none _ _ (fun l hl => ?_)
      rw [Bool.eq_false_iff]; intro g
      have k := (kid_iff hD (show par (dp rs) (i + 1) < rs.length + 1 by omega) (show l < rs.length + 1 by omega)).1 g
      obtain ⟨l', rfl⟩ : ∃ l', l = l' + 1 := ⟨l - 1, by omega⟩
      have := c l' (by omega) (by omega)
      simp only [decide_eq_false_iff_not] at this
      have k' : rdep rs l' = dp rs (par (dp rs) (i + 1)) + 1 := k.2.2
      rw [pd] at k'
      have : dp rs (i + 1) = rdep rs i := rfl
      omega
theorem ahB_iff {rs : List RowD} {id : Int} (h : hasB rs id = true) : ahB rs id = !rootB id := by simp [ahB, h]
theorem root_at {rs : List RowD} {id : Int} (h : hasB rs id = true) : ((rat rs (atN rs id)).dep == 0) = rootB id := by
  obtain ⟨h1, h2⟩ := hasB_iff.1 h
  have h3 := rok_root ((treeP_of h1).rok _ h2)
  rw [atN_id h2] at h3
  rw [Bool.eq_iff_iff, beq_iff_eq]; exact h3
theorem implTreeAhead_any (B : Nat) (a : Option Addr) (cap : Nat) (rs : List RowD) (id : Int) (w : World) (hB : B ≤ w.heap.size) (h : RowsAt B w a rs) (hf : Fit rs) (ht : Tab w) :
    Calls Tryd.prog 12 #[.slice a rs.length cap, .int .i64 id] w (RetBelow (.tuple #[.int .i64 (ahI rs id), .bool (ahB rs id)]) w) := by
  cases hh : hasB rs id
  · have e1 : ahB rs id = false := by simp [ahB, hh]
    have e2 : ahI rs id = 0 := by simp [ahI, e1]
    have HF := Lib.hid (fnd_no hh)
    rw [e1, e2]
    clear e1 e2 hh
    go_enter Tryd.func12, Tryd.ntmps12
    go_wp2_with fail
    refine (treeOf_any B _ _ _ _ hB h hf ht).mono ?_
    rintro e w1 ⟨nb, rfl, _, hN, hb1⟩
    go_wp2_with fail
    refine (find_any nb rs id w1 hN).mono ?_
    rintro e w2 ⟨rfl, hb2⟩
    rw [HF.out]
    simp only [padr]
    go_wp2
    go_ret2
    exact ⟨rfl, hb1.trans (hb2.mono hb1.size)⟩
  · have HF := Lib.hid (fnd_yes hh)
    obtain ⟨htb, hat⟩ := hasB_iff.1 hh
    have hP := treeP_of htb
    have HM := Lib.hid (nodesN_tree htb)
    have hra := root_at hh
    have e1 := ahB_iff hh
    have hlo := (rok_dep (hP.rok _ hat)).1
    cases hr : rootB id
    · rw [hr] at hra e1
      have e1' : ahB rs id = true := e1
      have e2 : ahI rs id = ahAt rs (atN rs id) := by simp [ahI, e1']
      rw [e1', e2]
      clear e1 e1' e2
      have hd0 : (rat rs (atN rs id)).dep ≠ 0 := by simpa using hra
      have hd1 : 1 ≤ (rat rs (atN rs id)).dep := by omega
      clear hd0
      rcases ah_shift hP hat hd1 with ⟨s1, s2⟩ | ⟨j, hj, s1, s2⟩
      · rw [s2]
        have HU : Hid (ahO rs (atN rs id + 1) = none) := by unfold Hid ahO; rw [if_neg (by omega)]; exact s1
        clear s1 s2 hP htb hh
        go_enter Tryd.func12, Tryd.ntmps12
        go_wp2_with fail
        refine (treeOf_any B _ _ _ _ hB h hf ht).mono ?_
        rintro e w1 ⟨nb, rfl, _, hN, hb1⟩
        go_wp2_with fail
        refine (find_any nb rs id w1 hN).mono ?_
        rintro e w2 ⟨rfl, hb2⟩
        rw [HF.out]
        simp only [padr]
        have hN2 : Nodes w2 nb rs (nodesN rs) := hN.below hb2
        rw [HM.out] at hN2
        have l4 := (hN2.links (show atN rs id + 1 < rs.length + 1 by omega)).2.1
        rw [HU.out] at l4
        simp only [padr] at l4
        have r1 : w2.cell? ⟨nb (atN rs id + 1), 1, none⟩ = some (.int .i64 (rat rs (atN rs id)).dep) := (hN2.row (show atN rs id + 1 < rs.length + 1 by omega)).2.1
        clear hN hN2 hd1
        go_wp2
        go_ret2
        exact ⟨rfl, hb1.trans (hb2.mono hb1.size)⟩
      · rw [s2]
        have HU : Hid (ahO rs (atN rs id + 1) = some (j + 1)) := by unfold Hid ahO; rw [if_neg (by omega)]; exact s1
        clear s1 s2 hP htb hh
        go_enter Tryd.func12, Tryd.ntmps12
        go_wp2_with fail
        refine (treeOf_any B _ _ _ _ hB h hf ht).mono ?_
        rintro e w1 ⟨nb, rfl, _, hN, hb1⟩
        go_wp2_with fail
        refine (find_any nb rs id w1 hN).mono ?_
        rintro e w2 ⟨rfl, hb2⟩
        rw [HF.out]
        simp only [padr]
        have hN2 : Nodes w2 nb rs (nodesN rs) := hN.below hb2
        rw [HM.out] at hN2
        have l4 := (hN2.links (show atN rs id + 1 < rs.length + 1 by omega)).2.1
        rw [HU.out] at l4
        simp only [padr] at l4
        have r1 : w2.cell? ⟨nb (atN rs id + 1), 1, none⟩ = some (.int .i64 (rat rs (atN rs id)).dep) := (hN2.row (show atN rs id + 1 < rs.length + 1 by omega)).2.1
        have r2 : w2.cell? ⟨nb (j + 1), 0, none⟩ = some (.int .i64 (rat rs j).id) := (hN2.row (show j + 1 < rs.length + 1 by omega)).1
        clear hN hN2 hd1
        go_wp2
        go_ret2
        exact ⟨rfl, hb1.trans (hb2.mono hb1.size)⟩
    · rw [hr] at hra e1
      have e1' : ahB rs id = false := e1
      have e2 : ahI rs id = 0 := by simp [ahI, e1']
      rw [e1', e2]
      clear e1 e1' e2 hP htb hh
      go_enter Tryd.func12, Tryd.ntmps12
      go_wp2_with fail
      refine (treeOf_any B _ _ _ _ hB h hf ht).mono ?_
      rintro e w1 ⟨nb, rfl, _, hN, hb1⟩
      go_wp2_with fail
      refine (find_any nb rs id w1 hN).mono ?_
      rintro e w2 ⟨rfl, hb2⟩
      rw [HF.out]
      simp only [padr]
      have hN2 : Nodes w2 nb rs (nodesN rs) := hN.below hb2
      rw [HM.out] at hN2
      have r1 : w2.cell? ⟨nb (atN rs id + 1), 1, none⟩ = some (.int .i64 (rat rs (atN rs id)).dep) := (hN2.row (show atN rs id + 1 < rs.length + 1 by omega)).2.1
      clear hN hN2
      go_wp2
      go_ret2
      exact ⟨rfl, hb1.trans (hb2.mono hb1.size)⟩
end Go.Proofs.YtclhjgcapalniaaDoor
/-
  Go's == and != between two pointers to nodes, each to the first cell of a block of its own. Conditions: the two blocks hold cells, none of them frozen.
-/
namespace Go.Proofs.YtclhjgcapalniaaDoor
open Go.ChangeShapes Go.WideShapes Go.ChangeAt Go.RowKit

theorem infoNode : (Tryd.prog.info? 73).map (fun i => i.size) = some 8 := by kernel_rfl
theorem cellsNode : Tryd.prog.cellsOf 73 = 8 := by kernel_rfl
theorem equal_nodes {w : World} {a b : Nat} {r : Bool} (h : (sameAddr ⟨a, 0, none⟩ ⟨b, 0, none⟩).run Tryd.prog w = .ok r w) :
    (Op.equal 69 (.pointer (some ⟨a, 0, none⟩)) (.pointer (some ⟨b, 0, none⟩))).run Tryd.prog w = .ok r w := by
  obtain ⟨i, hi, hs⟩ := Option.map_eq_some_iff.1 infoNode
  have h1 := run_sizeOf (w := w) hi
  rw [cellsNode] at h1
  show (Op.equalIn (9999 + 1) 69 (.pointer (some ⟨a, 0, none⟩)) (.pointer (some ⟨b, 0, none⟩))).run Tryd.prog w = _
  generalize 9999 = d
  unfold Op.equalIn
  simp [run_underlying Tryd.underlying69, h1, h]
theorem same_nodes (w : World) (a : Nat) : (sameAddr ⟨a, 0, none⟩ ⟨a, 0, none⟩).run Tryd.prog w = .ok true w := run_sameAddr_same w _
theorem eql_same (w : World) (a : Nat) : (binOp .eql 69 (.pointer (some ⟨a, 0, none⟩)) (.pointer (some ⟨a, 0, none⟩))).run Tryd.prog w = .ok (.bool true) w := by
  simp only [binOp]
  simp [equal_nodes (same_nodes w a)]
theorem neq_same (w : World) (a : Nat) : (binOp .neq 69 (.pointer (some ⟨a, 0, none⟩)) (.pointer (some ⟨a, 0, none⟩))).run Tryd.prog w = .ok (.bool false) w := by
  simp only [binOp]
  simp [equal_nodes (same_nodes w a)]
theorem neq_other {w : World} {a b : Nat} {ca cb : Array Value} {ta tb : TypeId} (hne : a ≠ b) (ha : w.heap[a]? = some (.cells ca ta (0, 0))) (hb : w.heap[b]? = some (.cells cb tb (0, 0))) :
    (binOp .neq 69 (.pointer (some ⟨a, 0, none⟩)) (.pointer (some ⟨b, 0, none⟩))).run Tryd.prog w = .ok (.bool true) w := by
  simp only [binOp]
  simp [equal_nodes (run_sameAddr_other (P := Tryd.prog) (w := w) (a := ⟨a, 0, none⟩) (b := ⟨b, 0, none⟩) (fun e => by cases e; exact hne rfl) ha hb)]
theorem eql_nil (w : World) (b : Nat) : (binOp .eql 69 (.pointer none) (.pointer (some ⟨b, 0, none⟩))).run Tryd.prog w = .ok (.bool false) w := by
  have : (Op.equal 69 (.pointer none) (.pointer (some ⟨b, 0, none⟩))).run Tryd.prog w = .ok false w := by
    show (Op.equalIn (9999 + 1) 69 (.pointer none) (.pointer (some ⟨b, 0, none⟩))).run Tryd.prog w = _
    generalize 9999 = d
    unfold Op.equalIn
    simp [run_underlying Tryd.underlying69]
  simp only [binOp]
  simp [this]
end Go.Proofs.YtclhjgcapalniaaDoor
/-
  Contracts of the program's TreeUnder and TreeKids: they answer as the model's. Conditions: the rows lie in memory as a slice of rows; the table 'creators' holds what its initialiser lays.
-/
namespace Go.Proofs.YtclhjgcapalniaaDoor
open Go.ChangeShapes Go.WideShapes Go.ChangeAt Go.RowKit Go.Joins

theorem undT_no1 {rs : List RowD} {id under : Int} (h : hasB rs id = false) : undT rs id under = false := by
  cases ht : treeB rs
  · simp [undT, ht]
  · simp only [hasB, ht, Bool.true_and, decide_eq_false_iff_not] at h
    simp [undT, undB_no1 h]
theorem undT_no2 {rs : List RowD} {id under : Int} (h : hasB rs under = false) : undT rs id under = false := by
  cases ht : treeB rs
  · simp [undT, ht]
  · simp only [hasB, ht, Bool.true_and, decide_eq_false_iff_not] at h
    simp [undT, undB_no2 h]
theorem undT_un {rs : List RowD} {id under : Int} (h1 : hasB rs id = true) (h2 : hasB rs under = true) : undT rs id under = true ↔ un (dp rs) (rs.length + 1) (atN rs id + 1) (atN rs under + 1) := by
  obtain ⟨ht, ha⟩ := hasB_iff.1 h1
  obtain ⟨_, hb⟩ := hasB_iff.1 h2
  unfold un
  rw [en_shift hb]
  simp only [undT, ht, undB, ha, hb, decide_true, Bool.true_and, Bool.and_eq_true, decide_eq_true_eq]
  omega
/-- Where the program's look upwards stands: at node c, or beyond the top. -/
def curO (k : Nat) : Option Nat := if k = 0 then none else some (k - 1)
theorem un_top {D : Nat → Int} {m b : Nat} (hb : 1 ≤ b) : ¬ un D m 0 b := fun h => by have := h.1; omega
def unB (D : Nat → Int) (m a b : Nat) : Bool := decide (b ≤ a) && decide (a < en D m b)
theorem unB_iff {D : Nat → Int} {m a b : Nat} : unB D m a b = true ↔ un D m a b := by simp [unB, un]
set_option maxRecDepth 100000 in
theorem under_any (nb : Nat → Nat) (rs : List RowD) (x y : Nat) (w : World) (hD : Deps (dp rs) (rs.length + 1)) (hN : Nodes w nb rs (rs.length + 1)) (hx : x < rs.length + 1) (hy : y < rs.length + 1) (hy1 : 1 ≤ y) :
    Calls Tryd.prog 91 #[.pointer (some ⟨nb x, 0, none⟩), .pointer (some ⟨nb y, 0, none⟩)] w fun e w' => e = .returned (.bool (unB (dp rs) (rs.length + 1) x y)) ∧ w = w' := by
  have HD := Lib.hid hD
  clear hD
  go_enter Tryd.func91, Tryd.ntmps91
  go_wp2_with fail
  go_loopg [0] (x + 1) (fun k p wx => k ≤ rs.length + 1 ∧ p = .pointer (padr nb (curO k)) ∧ Hid (un (dp rs) (rs.length + 1) x y ↔ (k ≠ 0 ∧ un (dp rs) (rs.length + 1) (k - 1) y)) ∧ wx = w)
  case atStart =>
    refine ⟨by omega, by simp [curO, padr], ?_, rfl⟩
    simp [Hid]
  case round =>
    obtain ⟨hk, rfl, hiff, rfl⟩ := hrel
    cases gk with
    | zero =>
      simp only [curO, if_true, padr]
      have HE : Hid (unB (dp rs) (rs.length + 1) x y = false) := by
        rw [Hid, Bool.eq_false_iff]
        intro g
        exact (hiff.out.1 (unB_iff.1 g)).1 rfl
      have hq := eql_nil wr (nb y)
      go_wp2
      go_ret
      exact ⟨by rw [HE.out]; rfl, rfl⟩
    | succ c =>
      have ec : curO (c + 1) = some c := by simp [curO]
      rw [ec]
      simp only [padr]
      by_cases hc : c = y
      · subst hc
        have HE : Hid (unB (dp rs) (rs.length + 1) x c = true) := unB_iff.2 (hiff.out.2 ⟨by omega, un_self (by omega)⟩)
        have hq := eql_same wr (nb c)
        have hq2 := neq_same wr (nb c)
        go_wp2
        go_ret
        exact ⟨by rw [HE.out]; rfl, rfl⟩
      · have hq := neq_other (w := wr) (hN.ne (show c < rs.length + 1 by omega) hy hc) (hN.blk c (by omega)) (hN.blk y (by omega))
        have l3 := (hN.links (show c < rs.length + 1 by omega)).1
        by_cases hc0 : c = 0
        · subst hc0
          have HN : Hid (un (dp rs) (rs.length + 1) x y ↔ (0 ≠ 0 ∧ un (dp rs) (rs.length + 1) (0 - 1) y)) :=
            ⟨fun g => absurd (hiff.out.1 g).2 (un_top (by omega)), fun g => absurd rfl g.1⟩
          simp only [upO, if_true] at l3
          go_wp2
          go_roundg 0
          case measure => omega
          case rel => exact ⟨by omega, rfl, HN, rfl⟩
        · have hp := (par_spec HD.out (show 1 ≤ c by omega) (show c < rs.length + 1 by omega)).1
          have eu : padr nb (upO rs c) = padr nb (curO (par (dp rs) c + 1)) := by
            unfold upO curO; rw [if_neg hc0, if_neg (by omega)]; rfl
          have HN : Hid (un (dp rs) (rs.length + 1) x y ↔ (par (dp rs) c + 1 ≠ 0 ∧ un (dp rs) (rs.length + 1) (par (dp rs) c + 1 - 1) y)) := by
            have h1 := un_par HD.out (show 1 ≤ c by omega) (show c < rs.length + 1 by omega) hy hc
            have h2 := hiff.out
            simp only [Nat.add_sub_cancel] at h2 ⊢
            exact ⟨fun g => ⟨by omega, h1.1 (h2.1 g).2⟩, fun g => h2.2 ⟨by omega, h1.2 g.2⟩⟩
          rw [eu] at l3
          clear eu
          go_wp2
          go_roundg (par (dp rs) c + 1)
          case measure => omega
          case rel => exact ⟨by omega, rfl, HN, rfl⟩
theorem undT_eq {rs : List RowD} {id under : Int} (h1 : hasB rs id = true) (h2 : hasB rs under = true) : undT rs id under = unB (dp rs) (rs.length + 1) (atN rs id + 1) (atN rs under + 1) := by
  rw [Bool.eq_iff_iff, unB_iff]; exact undT_un h1 h2
end Go.Proofs.YtclhjgcapalniaaDoor
/-
  Contract of the program's TreeKids: it answers as the model's, in memory of its own. Conditions: the rows lie in memory as a slice of rows; the table 'creators' holds what its initialiser lays.
-/
namespace Go.Proofs.YtclhjgcapalniaaDoor
open Go.ChangeShapes Go.WideShapes Go.ChangeAt Go.RowKit Go.Joins

theorem kidsOf_skip {rs : List RowD} {x : Nat} : ∀ k s, (∀ j, s ≤ j → j < s + k → rdep rs j ≠ rdep rs x + 1) → kidsOf rs x s k = []
  | 0, s, _ => rfl
  | k + 1, s, h => by
    rw [kidsOf, if_neg (h s (Nat.le_refl _) (by omega)), kidsOf_skip k (s + 1) (fun j h1 h2 => h j (by omega) (by omega))]; rfl
theorem kidsOf_add (rs : List RowD) (x : Nat) : ∀ a s b, kidsOf rs x s (a + b) = kidsOf rs x s a ++ kidsOf rs x (s + a) b
  | 0, s, b => by simp [kidsOf]
  | a + 1, s, b => by
    rw [show a + 1 + b = (a + b) + 1 by omega, kidsOf, kidsOf, kidsOf_add rs x a (s + 1) b, List.append_assoc, show s + 1 + a = s + (a + 1) by omega]
theorem kids_jump {rs : List RowD} {x c c' : Nat} (h1 : x + 2 ≤ c) (h2 : c < c') (h3 : rdep rs (c - 1) = rdep rs x + 1) (h4 : ∀ j, c ≤ j → j < c' - 1 → rdep rs x + 1 < rdep rs j) :
    kidsOf rs x (x + 1) (c' - (x + 2)) = kidsOf rs x (x + 1) (c - (x + 2)) ++ [(rat rs (c - 1)).id] := by
  rw [show c' - (x + 2) = (c - (x + 2)) + (1 + (c' - 1 - c)) by omega, kidsOf_add, kidsOf_add, show x + 1 + (c - (x + 2)) = c - 1 by omega, show c - 1 + 1 = c by omega,
    kidsOf_skip (c' - 1 - c) c (fun j a b => by have := h4 j a (by omega); omega)]
  simp [kidsOf, h3]
theorem kidsT_no {rs : List RowD} {id : Int} (h : hasB rs id = false) : kidsT rs id = [] := by
  unfold kidsT
  cases ht : treeB rs
  · rfl
  · simp only [hasB, ht, Bool.true_and, decide_eq_false_iff_not] at h
    exact kidsL_no h
theorem kidsT_yes {rs : List RowD} {id : Int} (h : hasB rs id = true) : kidsT rs id = kidsOf rs (atN rs id) (atN rs id + 1) (enR rs (atN rs id) + 1 - (atN rs id + 2)) := by
  obtain ⟨h1, h2⟩ := hasB_iff.1 h
  unfold kidsT
  rw [h1, if_pos rfl, kidsL_yes h2]
  congr 1
  omega
set_option maxRecDepth 100000 in
set_option maxHeartbeats 1000000 in
theorem implTreeKids_any (B : Nat) (a : Option Addr) (cap : Nat) (rs : List RowD) (id : Int) (w : World) (hB : B ≤ w.heap.size) (h : RowsAt B w a rs) (hf : Fit rs) (ht : Tab w) :
    Calls Tryd.prog 15 #[.slice a rs.length cap, .int .i64 id] w (RetInts (kidsT rs id) w) := by
  have hl := hf.1
  obtain ⟨i0, hi, hz0, hz1, hz2⟩ := info_parts infoInt
  cases hh : hasB rs id
  · have HF := Lib.hid (fnd_no hh)
    have HU := Lib.hid (kidsT_no hh)
    clear hh
    go_enter Tryd.func15, Tryd.ntmps15
    go_wp2_with fail
    refine (treeOf_any B _ _ _ _ hB h hf ht).mono ?_
    rintro e w1 ⟨nb, rfl, _, hN, hb1⟩
    go_wp2_with fail
    refine (find_any nb rs id w1 hN).mono ?_
    rintro e w2 ⟨rfl, hb2⟩
    rw [HF.out]
    simp only [padr]
    go_wp2
    go_ret
    exact ⟨_, rfl, by rw [HU.out]; exact World.ownsRow_nil _ _ _ _, hb1.trans (hb2.mono hb1.size)⟩
  · have HF := Lib.hid (fnd_yes hh)
    have HU := Lib.hid (kidsT_yes hh)
    obtain ⟨htb, hat⟩ := hasB_iff.1 hh
    have hD := (treeP_of htb).deps
    have HM := Lib.hid (nodesN_tree htb)
    clear hh htb
    generalize atN rs id = x at *
    have hE : en (dp rs) (rs.length + 1) (x + 1) = enR rs x + 1 := en_shift hat
    obtain ⟨e1, e2, e3, e4⟩ := en_spec (D := dp rs) (m := rs.length + 1) (show x + 1 < rs.length + 1 by omega)
    have hfi := fi_eq hD (show x + 1 < rs.length + 1 by omega)
    rw [hE] at e1 e2 e3 e4 hfi
    have HD := Lib.hid hD
    have HE := Lib.hid hE
    have HFI := Lib.hid hfi
    have HE3 := Lib.hid e3
    clear hD hE hfi e3 e4
    go_enter Tryd.func15, Tryd.ntmps15
    go_wp2_with fail
    refine (treeOf_any B _ _ _ _ hB h hf ht).mono ?_
    rintro e w1 ⟨nb, rfl, _, hN, hb1⟩
    go_wp2_with fail
    refine (find_any nb rs id w1 hN).mono ?_
    rintro e w2 ⟨rfl, hb2⟩
    rw [HF.out]
    simp only [padr]
    have b2 := hb1.trans (hb2.mono hb1.size)
    have hN2 : Nodes w2 nb rs (nodesN rs) := hN.below hb2
    rw [HM.out] at hN2
    have l6 := (hN2.links (show x + 1 < rs.length + 1 by omega)).2.2.2.1
    rw [HFI.out, padr_kid] at l6
    clear hN hb1 hb2
    go_wp2_with fail
    go_loopg [6, 7] (enR rs x + 1) (fun k v p wx => ∃ c : Nat, k + c = enR rs x + 1 + (x + 2) ∧ x + 2 ≤ c ∧ c ≤ enR rs x + 1 ∧ p = .pointer (kidP nb c (enR rs x + 1)) ∧ Hid (c < enR rs x + 1 → par (dp rs) c = x + 1) ∧
      wx.ownsRow w2.heap.size 3 1 v (kidsOf rs x (x + 1) (c - (x + 2))).length ((kidsOf rs x (x + 1) (c - (x + 2))).map (Value.int .i64)) ∧ Below w2.heap.size w2 wx)
    case atStart =>
      refine ⟨x + 2, by omega, Nat.le_refl _, by omega, rfl, fun hc => ?_, by rw [Nat.sub_self]; exact World.ownsRow_nil _ _ _ _, Below.refl _ _⟩
      refine (isKid_iff.1 ((kid_iff HD.out (show x + 1 < rs.length + 1 by omega) (show x + 2 < rs.length + 1 by omega)).2 ⟨by omega, by rw [HE.out]; exact hc, ?_⟩)).2
      have s := HD.out.step (x + 2) (by omega) (by omega)
      have := HE3.out (x + 2) (by omega) hc
      rw [show x + 2 - 1 = x + 1 by omega] at s; omega
    case round =>
      obtain ⟨c, hkc, hc1, hc2, rfl, hpar, hown, hbx⟩ := hrel
      have hNx : Nodes wr nb rs (rs.length + 1) := ⟨fun i hi => by rw [hbx.block _ (hN2.lt hi)]; exact hN2.blk i hi, hN2.inj⟩
      obtain ⟨sa, sc, rfl, _⟩ := own_slice hown
      by_cases hlt : c < enR rs x + 1
      · rw [kidP_yes hlt]
        have hcm : c < rs.length + 1 := by omega
        have hp := hpar.out hlt
        obtain ⟨f1, f2, f3, f4⟩ := en_spec (D := dp rs) hcm
        have hek := en_kid HD.out (show 1 ≤ c by omega) hcm
        rw [hp, HE.out] at hek
        have hdp := par_dep HD.out (show 1 ≤ c by omega) hcm
        rw [hp] at hdp
        have hnx := nx_eq HD.out (show 1 ≤ c by omega) hcm
        rw [hp, HE.out] at hnx
        have l5 := (hNx.links hcm).2.2.1
        have enx : padr nb (nxO rs (rs.length + 1) c) = kidP nb (en (dp rs) (rs.length + 1) c) (enR rs x + 1) := by
          unfold nxO; rw [if_neg (by omega), hnx, padr_kid]
        rw [enx] at l5
        have r0 : wr.cell? ⟨nb c, 0, none⟩ = some (.int .i64 (rat rs (c - 1)).id) := by
          have := (hNx.row hcm).1
          obtain ⟨c', rfl⟩ : ∃ c', c = c' + 1 := ⟨c - 1, by omega⟩
          exact this
        have hpar' : Hid (en (dp rs) (rs.length + 1) c < enR rs x + 1 → par (dp rs) (en (dp rs) (rs.length + 1) c) = x + 1) := fun g => by
          have d2 := f4 (by omega)
          have d3 := HE3.out _ (by omega) g
          exact (isKid_iff.1 ((kid_iff HD.out (show x + 1 < rs.length + 1 by omega) (by omega)).2 ⟨by omega, by rw [HE.out]; exact g, by omega⟩)).2
        have HJ : Hid (kidsOf rs x (x + 1) (en (dp rs) (rs.length + 1) c - (x + 2)) = kidsOf rs x (x + 1) (c - (x + 2)) ++ [(rat rs (c - 1)).id]) := by
          have hdd : dp rs c = rdep rs (c - 1) := by
            obtain ⟨c', rfl⟩ : ∃ c', c = c' + 1 := ⟨c - 1, by omega⟩
            rfl
          have hdx : dp rs (x + 1) = rdep rs x := rfl
          refine kids_jump hc1 (by omega) (by omega) (fun j a b => ?_)
          have := f3 (j + 1) (by omega) (by omega)
          have t : dp rs (j + 1) = rdep rs j := rfl
          omega
        have hkl := kidsOf_len rs x (c - (x + 2)) (x + 1)
        have hNlt := hNx.lt hcm
        clear enx hnx hdp hp f3 f4
        have hroundM : enR rs x + 1 + (x + 2) - en (dp rs) (rs.length + 1) c < gk := by omega
        generalize en (dp rs) (rs.length + 1) c = c' at *
        go_wp2_with (at_builtin; refine wpList_append_own _ rfl _ _ 34 rfl w2.heap.size 3 i0 (.int .i64 0) 1 8 Tryd.underlying34 hi hz0 hz1 hz2 rfl (by decide) _ _ _ rfl (hown.alloc _) ⟨wr.heap.size, 0, none⟩ 1 1 [.int .i64 (rat rs (c - 1)).id] rfl rfl ?c1 ?c2 ?c3 ?c4 ?c5 ?_)
        case c1 => exact cell_one_new wr _ _
        case c2 => intro u hu; simp at hu; subst hu; rfl
        case c3 => unfold maxLen; omega
        case c4 => omega
        case c5 => have := hbx.size; simp; omega
        intro v' w4 hown2 hgrow _
        have hb4 : Below w2.heap.size w2 w4 := (hbx.alloc hbx.size (.cells #[.int .i64 (rat rs (c - 1)).id] 3)).grown hgrow (by have := hbx.size; simp; omega) (own_block hown)
        obtain ⟨va, vc, rfl, _⟩ := own_slice hown2
        have hown3 := own_snoc hown2
        have l5' : w4.cell? ⟨nb c, 5, none⟩ = some (.pointer (kidP nb c' (enR rs x + 1))) := by
          have e1 := hb4.cell (p := ⟨nb c, 5, none⟩) (hN2.lt hcm)
          have e2 := hbx.cell (p := ⟨nb c, 5, none⟩) (hN2.lt hcm)
          rw [e1, ← e2]; exact l5
        clear hown2 hgrow hown
        go_wp2
        go_roundg (enR rs x + 1 + (x + 2) - c')
        case measure => exact hroundM
        case rel => exact ⟨c', by omega, by omega, by omega, rfl, hpar', by rw [HJ.out]; exact hown3, hb4⟩
      · rw [kidP_no hlt]
        obtain rfl : c = enR rs x + 1 := by omega
        go_wp2
        go_ret
        exact ⟨_, rfl, by rw [HU.out]; exact own_mono hown b2.size, b2.trans (hbx.mono b2.size)⟩
end Go.Proofs.YtclhjgcapalniaaDoor
/-
  Plain mathematics of children in outlines (lists of rows), and the contracts of the laws' own helpers on slices of ints. Conditions: as each theorem says.
-/
namespace Go.Proofs.YtclhjgcapalniaaDoor
open Go.ChangeShapes Go.WideShapes Go.ChangeAt Go.RowKit Go.Joins

theorem kidsOf_iff (rs : List RowD) (x : Nat) : ∀ k s (q : Int), q ∈ kidsOf rs x s k ↔ ∃ j, s ≤ j ∧ j < s + k ∧ rdep rs j = rdep rs x + 1 ∧ (rat rs j).id = q
  | 0, s, q => by simp [kidsOf]; intro j h1 h2; omega
  | k + 1, s, q => by
    rw [kidsOf, List.mem_append, kidsOf_iff rs x k (s + 1) q]
    constructor
    · rintro (h | ⟨j, a, b, c⟩)
      · split at h
        · rename_i hd
          simp at h; exact ⟨s, Nat.le_refl _, by omega, hd, h.symm⟩
        · simp at h
      · exact ⟨j, by omega, by omega, c⟩
    · rintro ⟨j, a, b, c, d⟩
      by_cases e : j = s
      · subst e; left; rw [if_pos c]; simp [d]
      · right; exact ⟨j, by omega, by omega, c, d⟩
theorem kidsT_row {rs : List RowD} (ht : treeB rs = true) {k : Nat} (hk : k < rs.length) : kidsT rs (rat rs k).id = kidsOf rs k (k + 1) (enR rs k - (k + 1)) := by
  have ha := (treeP_of ht).at_self hk
  unfold kidsT
  rw [if_pos ht, kidsL_yes (by rw [ha]; exact hk), ha]
/-- A row is among the children of place k just if its parent is there. -/
theorem kid_par {rs : List RowD} (ht : treeB rs = true) {k j : Nat} (hk : k < rs.length) (hj : j < rs.length) : (rat rs j).id ∈ kidsT rs (rat rs k).id ↔ par (dp rs) (j + 1) = k + 1 := by
  have hT := treeP_of ht
  have hD := hT.deps
  have h1 := kid_iff hD (p := k + 1) (j := j + 1) (by omega) (by omega)
  rw [isKid_iff, en_shift hk] at h1
  rw [kidsT_row ht hk, kidsOf_iff]
  constructor
  · rintro ⟨l, a, b, c, d⟩
    have hl : enR rs k ≤ rs.length := (en_spec (D := rdep rs) hk).2.1
    have e : l = j := hT.id_inj (by omega) hj d
    subst e
    exact (h1.2 ⟨by omega, by omega, c⟩).2
  · intro h
    obtain ⟨a, b, c⟩ := h1.1 ⟨by omega, h⟩
    exact ⟨j, by omega, by omega, c, rfl⟩
theorem up_row {rs : List RowD} (ht : treeB rs = true) {j : Nat} (hj : j < rs.length) : upI rs (rat rs j).id = (nd rs (par (dp rs) (j + 1))).id := by
  have hT := treeP_of ht
  have ha := hT.at_self hj
  rw [par_shift hT hj]
  unfold upI hasB
  rw [ht, ha]
  simp [hj]
def amongB (xs : List Int) (n : Int) : Bool := xs.any (· == n)
theorem amongB_iff {xs : List Int} {n : Int} : amongB xs n = true ↔ n ∈ xs := by simp [amongB]
theorem among_up {rs : List RowD} {z : Int} (hh : hasB rs z = true) {k : Nat} (hk : k < rs.length) : amongB (kidsT rs (rat rs k).id) z = ((rat rs k).id == upI rs z) := by
  obtain ⟨ht, hz⟩ := hasB_iff.1 hh
  have hT := treeP_of ht
  have e := atN_id hz
  have hp := par_spec hT.deps (i := atN rs z + 1) (by omega) (by omega)
  have h1 := kid_par ht hk hz
  have h2 := up_row ht hz
  rw [e] at h1 h2
  rw [Bool.eq_iff_iff, amongB_iff, h1, h2, beq_iff_eq]
  rcases hc : par (dp rs) (atN rs z + 1) with _ | p
  · have := rok_id (hT.rok k hk)
    have e0 : (nd rs 0).id = 0 := rfl
    rw [e0]
    exact ⟨fun h => by omega, fun h => by omega⟩
  · rw [hc] at hp
    constructor
    · intro h; rw [show k = p by omega]; rfl
    · intro h; rw [hT.id_inj hk (show p < rs.length by omega) h]
/-! ### the laws' helpers -/
end Go.Proofs.YtclhjgcapalniaaDoor
