/-
  Contract of the program's TreeOk: it answers as the model's. Conditions: the rows lie in memory as a slice of rows; the table 'creators' holds what its initialiser lays.
-/
import Derived.Test.YtefelnodahcolaaDoorTSpec
namespace Go.Proofs.YtefelnodahcolaaDoor
open Go.ChangeShapes Go.WideShapes Go.ChangeAt Go.RowKit Go.Joins

def seenAt (rs : List RowD) (k v : Nat) : Bool := (List.range k).any fun j => (rat rs j).id == (v : Int)
theorem seenAt_succ (rs : List RowD) (k v : Nat) : seenAt rs (k + 1) v = (seenAt rs k v || ((rat rs k).id == (v : Int))) := by simp [seenAt, List.range_succ]
theorem seenAt_yes {rs : List RowD} {k v : Nat} (h : seenAt rs k v = true) : ∃ j, j < k ∧ (rat rs j).id = (v : Int) := by
  simp only [seenAt, List.any_eq_true, List.mem_range, beq_iff_eq] at h
  obtain ⟨j, h1, h2⟩ := h
  exact ⟨j, h1, h2⟩
theorem seenAt_no {rs : List RowD} {k v : Nat} (h : seenAt rs k v = false) : ∀ j, j < k → (rat rs j).id ≠ (v : Int) := by
  intro j hj e
  simp only [seenAt, List.any_eq_false, List.mem_range, beq_iff_eq] at h
  exact h j hj e
def deepI (rs : List RowD) : Nat → Int
  | 0 => 0
  | k + 1 => (rat rs k).dep + 1
/-- What holds of the rows ahead of place k while the program goes over them. -/
def OkInv (rs : List RowD) (k : Nat) : Prop := okTo rs k = true ∧ (0 < k → (rat rs 0).id = 1)
theorem okInv_zero (rs : List RowD) : OkInv rs 0 := ⟨okTo_zero rs, fun h => by omega⟩
theorem step_parts {rs : List RowD} {k : Nat} (h : stepB rs k = true) : rokB (rat rs k) = true ∧ riseB rs k = true ∧ rordB rs k = true ∧ freshTo rs k k = true := by
  simp only [stepB, Bool.and_eq_true] at h
  exact ⟨h.1.1.1, h.1.1.2, h.1.2, h.2⟩
/-- The roots ahead of place k are numbered 1, 2 and so on. -/
theorem roots_seen {rs : List RowD} : ∀ k, okTo rs k = true → ∀ v : Nat, 1 ≤ v → v ≤ nroots rs k → ∃ j, j < k ∧ (rat rs j).id = (v : Int)
  | 0, _, v, h1, h2 => by simp [nroots] at h2; omega
  | k + 1, h, v, h1, h2 => by
    rw [okTo_succ, Bool.and_eq_true] at h
    by_cases e : v ≤ nroots rs k
    · obtain ⟨j, a, b⟩ := roots_seen k h.1 v h1 e
      exact ⟨j, by omega, b⟩
    · cases hr : rootB (rat rs k).id
      · rw [nroots_not hr] at h2; omega
      · rw [nroots_yes hr] at h2
        have := (step_parts h.2).2.2.1
        rw [rord_yes hr] at this
        simp at this
        exact ⟨k, by omega, by omega⟩
theorem roots_few {rs : List RowD} {k : Nat} (h : okTo rs k = true) : nroots rs k ≤ 3 := by
  rcases Nat.lt_or_ge 3 (nroots rs k) with g | g
  · obtain ⟨j, a, b⟩ := roots_seen k h (nroots rs k) (by omega) (Nat.le_refl _)
    have p := step_parts (okTo_at h a)
    rcases rok_cases p.1 with ⟨q, _⟩ | ⟨_, q, _⟩
    · have := (rootB_iff _).1 q; omega
    · obtain ⟨i, c, d⟩ := roots_seen k h 4 (by omega) (by omega)
      have p2 := step_parts (okTo_at h c)
      rcases rok_cases p2.1 with ⟨q2, _⟩ | ⟨_, q2, _⟩
      · have := (rootB_iff _).1 q2; omega
      · have := (madeB_iff _).1 q2; omega
  · exact g
/-- A fresh root finds room among the three. -/
theorem found_lt {rs : List RowD} {k : Nat} (h : okTo rs k = true) (hr : rootB (rat rs k).id = true) (hf : ∀ j, j < k → (rat rs j).id ≠ (rat rs k).id) : nroots rs k < 3 := by
  have h1 := roots_few h
  rcases Nat.lt_or_ge (nroots rs k) 3 with g | g
  · exact g
  · have h2 := (rootB_iff _).1 hr
    obtain ⟨v, hv⟩ := Int.eq_ofNat_of_zero_le (show 0 ≤ (rat rs k).id by omega)
    obtain ⟨j, a, b⟩ := roots_seen k h v (by omega) (by omega)
    exact absurd (b.trans hv.symm) (hf j a)
theorem inv_next {rs : List RowD} {k : Nat} (h : OkInv rs k) (h1 : rowB (rat rs k).id (rat rs k).dep (rat rs k).txt = true) (h2 : (rat rs k).dep ≤ deepI rs k) (h3 : (rat rs k).dep = 0 → (rat rs k).id = (nroots rs k : Int) + 1) (h4 : ∀ j, j < k → (rat rs j).id ≠ (rat rs k).id) :
    OkInv rs (k + 1) := by
  have hrok : rokB (rat rs k) = true := h1
  have hroot := rok_root hrok
  refine ⟨step_good h.1 h1 ?_ ?_ (freshTo_iff.2 h4), fun _ => ?_⟩
  · cases k with
    | zero => rfl
    | succ q => simp only [riseB, Bool.or_eq_true, decide_eq_true_eq]; exact .inr h2
  · cases hr : rootB (rat rs k).id
    · exact rord_not hr
    · rw [rord_yes hr]; simpa using h3 (hroot.2 hr)
  · cases k with
    | zero =>
      have := (rok_dep hrok).1
      have h5 := h3 (by simp [deepI] at h2; omega)
      simpa [nroots] using h5
    | succ q => exact h.2 (by omega)
theorem inv_deep {rs : List RowD} {k : Nat} (hk : k < rs.length) (h1 : rowB (rat rs k).id (rat rs k).dep (rat rs k).txt = true) (h2 : deepI rs k < (rat rs k).dep) : treeB rs = false := by
  cases k with
  | zero =>
    have hrok : rokB (rat rs 0) = true := h1
    rw [Bool.eq_false_iff]; intro g
    have p := treeP_of g
    have := (rok_root hrok).2 ((rootB_iff _).2 (by have := p.head; omega))
    simp [deepI] at h2; omega
  | succ q =>
    refine treeB_bad hk (step_bad2 ?_)
    simp only [deepI] at h2
    simp [riseB]; exact h2
theorem nroots_next {rs : List RowD} {k : Nat} (h1 : rowB (rat rs k).id (rat rs k).dep (rat rs k).txt = true) : (nroots rs (k + 1) : Int) = if (rat rs k).dep = 0 then (nroots rs k : Int) + 1 else (nroots rs k : Int) := by
  have hroot := rok_root (r := rat rs k) h1
  by_cases h : (rat rs k).dep = 0
  · rw [nroots_yes (hroot.1 h), if_pos h]; omega
  · have : rootB (rat rs k).id = false := by rw [Bool.eq_false_iff]; exact fun e => h (hroot.2 e)
    rw [nroots_not this, if_neg h]
theorem inv_end {rs : List RowD} (h : OkInv rs rs.length) : treeB rs = ((nroots rs rs.length : Int) == 3) := by
  cases h3 : ((nroots rs rs.length : Int) == 3)
  · exact tree_no3 h3
  · rw [tree_yes3 h.1 h3]
    have : (nroots rs rs.length : Int) = 3 := by simpa using h3
    have := nroots_le rs rs.length
    simpa using h.2 (by omega)

/-- The two arrays that the program keeps beside: block S has a mark for each number, block O the three roots. -/
def Marks (w : World) (O S : Nat) (f : Nat → Bool) : Prop :=
  (w.cell? ⟨O, 0, none⟩ = some (.int .i64 1) ∧ w.cell? ⟨O, 1, none⟩ = some (.int .i64 2) ∧ w.cell? ⟨O, 2, none⟩ = some (.int .i64 3)) ∧ ∀ v, v < 37 → w.cell? ⟨S, v, none⟩ = some (.bool (f v)) ∧ w.frozen? ⟨S, v, none⟩ = false
theorem Marks.below {w w' : World} {O S B : Nat} {f : Nat → Bool} (h : Marks w O S f) (hb : Below B w w') (h1 : O < B) (h2 : S < B) : Marks w' O S f := by
  refine ⟨?_, fun v hv => ?_⟩
  · rw [hb.cell (p := ⟨O, 0, none⟩) h1, hb.cell (p := ⟨O, 1, none⟩) h1, hb.cell (p := ⟨O, 2, none⟩) h1]; exact h.1
  · rw [hb.cell (p := ⟨S, v, none⟩) h2, hb.frozen (p := ⟨S, v, none⟩) h2]; exact h.2 v hv
theorem Marks.order {w : World} {O S : Nat} {f : Nat → Bool} (h : Marks w O S f) {c : Nat} (hc : c < 3) : w.cell? ⟨O, c, none⟩ = some (.int .i64 ((c : Int) + 1)) := by
  obtain ⟨a, b, d⟩ := h.1
  obtain rfl | rfl | rfl : c = 0 ∨ c = 1 ∨ c = 2 := by omega
  · exact a
  · exact b
  · exact d
theorem falses_at (v : Nat) (hv : v < 37) : (Array.replicate 37 (Value.bool false))[v]? = some (.bool false) := by
  rw [Array.getElem?_replicate, if_pos hv]
theorem marks_new (w : World) (t1 t2 : TypeId) : Marks ((w.alloc (.cells #[.int .i64 1, .int .i64 2, .int .i64 3] t1)).alloc (.cells (Array.replicate 37 (Value.bool false)) t2)) w.heap.size (w.heap.size + 1) (fun _ => false) := by
  refine ⟨⟨?_, ?_, ?_⟩, fun v hv => ⟨?_, ?_⟩⟩
  · simp [go_sem]
  · simp [go_sem]
  · simp [go_sem]
  · have h1 : ((w.alloc (.cells #[.int .i64 1, .int .i64 2, .int .i64 3] t1)).alloc (.cells (Array.replicate 37 (Value.bool false)) t2)).heap[w.heap.size + 1]? = some (.cells (Array.replicate 37 (Value.bool false)) t2) := by
      have := heap_alloc_new (w.alloc (.cells #[.int .i64 1, .int .i64 2, .int .i64 3] t1)) (.cells (Array.replicate 37 (Value.bool false)) t2)
      rw [World.size_alloc] at this; exact this
    unfold World.cell?
    simp only [h1]
    exact falses_at v hv
  · have h1 : ((w.alloc (.cells #[.int .i64 1, .int .i64 2, .int .i64 3] t1)).alloc (.cells (Array.replicate 37 (Value.bool false)) t2)).heap[w.heap.size + 1]? = some (.cells (Array.replicate 37 (Value.bool false)) t2) := by
      have := heap_alloc_new (w.alloc (.cells #[.int .i64 1, .int .i64 2, .int .i64 3] t1)) (.cells (Array.replicate 37 (Value.bool false)) t2)
      rw [World.size_alloc] at this; exact this
    unfold World.frozen?
    simp only [h1]
    simp
theorem Marks.set {w : World} {O S : Nat} {f : Nat → Bool} (h : Marks w O S f) (hne : O ≠ S) {v : Nat} (hv : v < 37) : Marks (w.setCell ⟨S, v, none⟩ (.bool true)) O S (fun u => f u || (v == u)) := by
  refine ⟨⟨?_, ?_, ?_⟩, fun u hu => ⟨?_, ?_⟩⟩
  · rw [World.cell?_setCell_other _ _ _ _ (fun e => by cases e; exact hne rfl)]; exact h.1.1
  · rw [World.cell?_setCell_other _ _ _ _ (fun e => by cases e; exact hne rfl)]; exact h.1.2.1
  · rw [World.cell?_setCell_other _ _ _ _ (fun e => by cases e; exact hne rfl)]; exact h.1.2.2
  · by_cases e : v = u
    · subst e
      rw [World.cell?_setCell_same' _ _ _ (by rw [(h.2 v hv).1]; rfl)]
      simp
    · rw [World.cell?_setCell_other _ _ _ _ (fun e2 => by cases e2; exact e rfl), (h.2 u hu).1]
      simp [e]
  · rw [World.frozen?_setCell]; exact (h.2 u hu).2
theorem Marks.congr {w : World} {O S : Nat} {f g : Nat → Bool} (h : Marks w O S f) (e : ∀ v, v < 37 → f v = g v) : Marks w O S g :=
  ⟨h.1, fun v hv => by rw [← e v hv]; exact h.2 v hv⟩
theorem seen_next {rs : List RowD} {k v : Nat} (hv : (rat rs k).id = (v : Int)) : ∀ u, u < 37 → (seenAt rs k u || (v == u)) = seenAt rs (k + 1) u := fun u _ => by
  rw [seenAt_succ, hv]
  congr 1
  rw [Bool.eq_iff_iff]; simp only [beq_iff_eq]; omega
theorem seen_bad {rs : List RowD} {k v : Nat} (hk : k < rs.length) (hv : (rat rs k).id = (v : Int)) (h : seenAt rs k v = true) : treeB rs = false := by
  obtain ⟨j, h1, h2⟩ := seenAt_yes h
  exact treeB_bad hk (step_bad4 h1 (by rw [hv, h2]; simp))
theorem seen_good {rs : List RowD} {k v : Nat} (hv : (rat rs k).id = (v : Int)) (h : seenAt rs k v = false) : ∀ j, j < k → (rat rs j).id ≠ (rat rs k).id := fun j hj => by
  rw [hv]; exact seenAt_no h j hj
theorem order_bad {rs : List RowD} {k : Nat} (hk : k < rs.length) (h1 : rowB (rat rs k).id (rat rs k).dep (rat rs k).txt = true) (h2 : (rat rs k).dep = 0) (h : ((rat rs k).id == (nroots rs k : Int) + 1) = false) : treeB rs = false := by
  have hr := (rok_root (r := rat rs k) h1).1 h2
  exact treeB_bad hk (step_bad3 ((rord_yes hr).trans h))
set_option maxRecDepth 100000 in
set_option maxHeartbeats 1000000 in
theorem implTreeOk_any (B : Nat) (a : Option Addr) (cap : Nat) (rs : List RowD) (w : World) (hB : B ≤ w.heap.size) (h : RowsAt B w a rs) (hf : Fit rs) (ht : Tab w) :
    Calls Tryd.prog 40 #[.slice a rs.length cap] w (RetBelow (.bool (treeB rs)) w) := by
  have hl := hf.1
  have hz := ht.pos
  go_enter Tryd.func40, Tryd.ntmps40
  go_wp2_with fail
  go_loopw [5, 6, 12] (fun f d t wr => ∃ k : Nat, k ≤ rs.length ∧ t = .int .i64 k ∧ f = .int .i64 (nroots rs k) ∧ d = .int .i64 (deepI rs k) ∧ Hid (OkInv rs k) ∧ Marks wr w.heap.size (w.heap.size + 1) (seenAt rs k) ∧ Below w.heap.size w wr ∧ w.heap.size + 2 ≤ wr.heap.size) (fun _ _ t _ => rs.length - (intOf t).toNat)
  case atStart => exact ⟨0, Nat.zero_le _, rfl, rfl, rfl, okInv_zero rs, marks_new w _ _, ((Below.refl _ _).alloc (Nat.le_refl _) _).alloc (by simp) _, by simp⟩
  case round =>
    obtain ⟨k, hk, rfl, rfl, rfl, ho, hm, hb, hsz⟩ := hrel
    have hr := h.below (hb.mono hB)
    by_cases hlt : k < rs.length
    · obtain ⟨b, off, rfl, hbB, c0, c1, c2⟩ := hr.at_ hlt
      have i1 : (k : Int) < (rs.length : Int) := by omega
      obtain ⟨f1, f2, f3⟩ := hf.2 k hlt
      have hbw : b < wr.heap.size := by omega
      have hax : Below wr.heap.size wr (wr.alloc (.cells #[.int .i64 (rat rs k).id, .int .i64 (rat rs k).dep, .string (rat rs k).txt] 46)) := (Below.refl _ _).alloc (Nat.le_refl _) _
      have hx := RowAt.new wr (rat rs k).id (rat rs k).dep (rat rs k).txt
      have hba : Below w.heap.size w (wr.alloc (.cells #[.int .i64 (rat rs k).id, .int .i64 (rat rs k).dep, .string (rat rs k).txt] 46)) := hb.trans (hax.mono hb.size)
      have hma := hm.below hax (by omega) (by omega)
      go_wp2_with fail
      refine (implRowOk_any _ _ _ _ f3 (ht.below hba hz) (Nat.lt_of_lt_of_le hz hba.size)).mono ?_
      rintro e w1 ⟨rfl, hb1⟩
      rw [World.size_alloc] at hb1
      have hx1 := hx.below hb1 (by omega)
      have hm1 := hma.below hb1 (by omega) (by omega)
      have hbw1 : Below w.heap.size w w1 := hba.trans (hb1.mono (by omega))
      have hs1 : wr.heap.size + 1 ≤ w1.heap.size := by have := hb1.size; simp at this; exact this
      clear hx hma hba hax hm hb hr hb1 c0 c1 c2 hbB hbw f1 f2 f3
      obtain ⟨⟨x0, x1, x2⟩, x3, x4, x5⟩ := hx1
      generalize wr.heap.size = xb at *
      cases hrow : rowB (rat rs k).id (rat rs k).dep (rat rs k).txt
      · have HF := Lib.hid (treeB_bad hlt (step_bad1 hrow))
        go_wp2
        go_ret
        exact ⟨by rw [HF.out]; rfl, hbw1⟩
      · obtain ⟨d1, d2⟩ := rok_id (r := rat rs k) hrow
        obtain ⟨p1, p2⟩ := rok_dep (r := rat rs k) hrow
        obtain ⟨v, hv⟩ := Int.eq_ofNat_of_zero_le (show 0 ≤ (rat rs k).id by omega)
        have v37 : v < 37 := by omega
        have v37' : (v : Int) < 37 := by omega
        obtain ⟨m1, m2⟩ := hm1.2 v v37
        have HV := Lib.hid hv
        have HROW := Lib.hid hrow
        rw [hv] at x0
        clear hv hrow d1 d2
        cases hseen : seenAt rs k v
        · rw [hseen] at m1
          have HG := Lib.hid (seen_good HV.out hseen)
          by_cases hdeep : (rat rs k).dep ≤ deepI rs k
          · have HM : Marks (w1.setCell ⟨w.heap.size + 1, v, none⟩ (.bool true)) w.heap.size (w.heap.size + 1) (seenAt rs (k + 1)) := (hm1.set (by omega) v37).congr (seen_next HV.out)
            have HB : Below w.heap.size w (w1.setCell ⟨w.heap.size + 1, v, none⟩ (.bool true)) := hbw1.setCell (by show w.heap.size ≤ w.heap.size + 1; omega) _
            have HN := Lib.hid (nroots_next HROW.out)
            cases hd0 : ((rat rs k).dep == 0)
            · have h0 : (rat rs k).dep ≠ 0 := by simpa using hd0
              have HI := Lib.hid (inv_next ho.out HROW.out hdeep (fun e => absurd e h0) HG.out)
              have HN' : Hid ((nroots rs (k + 1) : Int) = (nroots rs k : Int)) := HN.out.trans (if_neg h0)
              clear h0
              go_wp2
              go_roundw
              case rel => exact ⟨k + 1, by omega, by go_num, by rw [HN'.out], rfl, HI, HM, HB, by simp [World.setCell]; omega⟩
              case measure => simp [intOf]; omega
            · have h0 : (rat rs k).dep = 0 := by simpa using hd0
              have hroot := (rok_root (r := rat rs k) HROW.out).1 h0
              have hlt3 := found_lt ho.out.1 hroot HG.out
              have HN' : Hid ((nroots rs (k + 1) : Int) = (nroots rs k : Int) + 1) := HN.out.trans (if_pos h0)
              have o1 := hm1.order hlt3
              have hlt3' : (nroots rs k : Int) < 3 := by omega
              cases hord : ((v : Int) == (nroots rs k : Int) + 1)
              · have hord2 : ((v : Int) != (nroots rs k : Int) + 1) = true := by simp [bne, hord]
                have HF : Hid (treeB rs = false) := order_bad hlt HROW.out h0 (by rw [HV.out]; exact hord)
                clear h0 hroot
                go_wp2
                go_quiet (fail)
                go_wp2
                go_ret
                exact ⟨by rw [HF.out]; rfl, below_drewN _ hbw1⟩
              · have hord2 : ((v : Int) != (nroots rs k : Int) + 1) = false := by simp [bne, hord]
                have HI := Lib.hid (inv_next ho.out HROW.out hdeep (fun _ => by rw [HV.out]; simpa using hord) HG.out)
                clear h0 hroot
                go_wp2
                go_quiet (fail)
                go_wp2
                go_roundw
                case rel => exact ⟨k + 1, by omega, by go_num, by rw [HN'.out], rfl, HI, HM, below_drewN _ HB, by simp [World.setCell]; omega⟩
                case measure => simp [intOf]; omega
          · have HF := Lib.hid (inv_deep hlt HROW.out (by omega))
            go_wp2
            go_ret
            exact ⟨by rw [HF.out]; rfl, hbw1⟩
        · rw [hseen] at m1
          have HF := Lib.hid (seen_bad hlt HV.out hseen)
          go_wp2
          go_ret
          exact ⟨by rw [HF.out]; rfl, hbw1⟩
    · obtain rfl : k = rs.length := by omega
      have HF := Lib.hid (inv_end ho.out)
      go_wp2
      go_ret
      exact ⟨by rw [HF.out]; rfl, hb⟩
end Go.Proofs.YtefelnodahcolaaDoor
