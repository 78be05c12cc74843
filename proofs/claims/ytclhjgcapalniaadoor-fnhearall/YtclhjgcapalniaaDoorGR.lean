/-
  Joined texts, each with its own head: what it holds, and its conditions.
-/
import Derived.Test.YtclhjgcapalniaaDoorGF
import Derived.Test.YtclhjgcapalniaaDoorGM
import Derived.Test.YtclhjgcapalniaaDoorGQ
import Derived.Test.YtclhjgcapalniaaDoorGP
import Derived.Test.YtclhjgcapalniaaDoorGG
import Derived.Test.YtclhjgcapalniaaDoorGE

/-
  The model's drawing of an entry: DrawEntryOk. What is drawn is said loosely: in what bounds. Conditions: as each theorem says.
-/
namespace Go.Proofs.YtclhjgcapalniaaDoor
open Go.ChangeShapes Go.WideShapes Go.ChangeAt Go.RowKit Go.Joins

/-- The fields of a drawn entry. -/
structure EntS (e : EntD) : Prop where
  who : -99 ≤ e.who ∧ e.who ≤ 99
  seq : -99 ≤ e.seq ∧ e.seq ≤ 99
  op : OpS e.op
theorem EntS.fit {e : EntD} (h : EntS e) : EFit e := ⟨⟨by have := h.who; omega, by have := h.who; omega⟩, ⟨by have := h.seq; omega, by have := h.seq; omega⟩, h.op.fit⟩
/-- Block B is a variable's box that holds an entry. -/
def EBx (w : World) (B : Nat) (e : EntD) : Prop := w.heap[B]? = some (.cells #[.int .i64 e.who, .int .i64 e.seq, .int .i64 e.op.kind, .int .i64 e.op.id, .int .i64 e.op.up, .int .i64 e.op.at_, .string e.op.txt] 64 (0, 0))
theorem EBx.lt {w : World} {B : Nat} {e : EntD} (h : EBx w B e) : B < w.heap.size := (Array.getElem?_eq_some_iff.1 h).1
theorem EBx.cells {w : World} {B : Nat} {e : EntD} (h : EBx w B e) : w.cell? ⟨B, 0, none⟩ = some (.int .i64 e.who) ∧ w.cell? ⟨B, 1, none⟩ = some (.int .i64 e.seq) ∧ w.cell? ⟨B, 2, none⟩ = some (.int .i64 e.op.kind) ∧ w.cell? ⟨B, 3, none⟩ = some (.int .i64 e.op.id) ∧ w.cell? ⟨B, 4, none⟩ = some (.int .i64 e.op.up) ∧ w.cell? ⟨B, 5, none⟩ = some (.int .i64 e.op.at_) ∧ w.cell? ⟨B, 6, none⟩ = some (.string e.op.txt) := by
  refine ⟨?_, ?_, ?_, ?_, ?_, ?_, ?_⟩ <;> simp [World.cell?, show w.heap[B]? = _ from h]
theorem EBx.frozen {w : World} {B : Nat} {e : EntD} (h : EBx w B e) (k : Nat) : w.frozen? ⟨B, k, none⟩ = false := by simp [World.frozen?, show w.heap[B]? = _ from h]
theorem EBx.below {w w' : World} {B n : Nat} {e : EntD} (h : EBx w B e) (hb : Below n w w') (hn : B < n) : EBx w' B e := (hb.block B hn).trans h
theorem EBx.but {w w' : World} {B b n : Nat} {e : EntD} (h : EBx w B e) (hb : But b n w w') (hn : B < n) (hne : B ≠ b) : EBx w' B e := (hb.block B hn hne).trans h
theorem EBx.new (w : World) (e : EntD) : EBx (w.alloc (.cells #[.int .i64 e.who, .int .i64 e.seq, .int .i64 e.op.kind, .int .i64 e.op.id, .int .i64 e.op.up, .int .i64 e.op.at_, .string e.op.txt] 64)) w.heap.size e := heap_alloc_new _ _
theorem EBx.set0 {w : World} {B : Nat} {e : EntD} (h : EBx w B e) (v : Int) : EBx (w.setCell ⟨B, 0, none⟩ (.int .i64 v)) B ⟨v, e.seq, e.op⟩ := by unfold EBx; rw [blk_set h]; simp
theorem EBx.set1 {w : World} {B : Nat} {e : EntD} (h : EBx w B e) (v : Int) : EBx (w.setCell ⟨B, 1, none⟩ (.int .i64 v)) B ⟨e.who, v, e.op⟩ := by unfold EBx; rw [blk_set h]; simp
def ezz : EntD := ⟨0, 0, ⟨0, 0, 0, 0, ⟨#[]⟩⟩⟩
/-- What holds while an entry is drawn: block B is its box; the first new block is the result's. -/
structure EH (N b q B : Nat) (w0 w : World) (e : EntD) : Prop where
  box : EBx w B e
  low : Below w0.heap.size w0 w
  rd : Rd N w b q
  lt : w0.heap.size < b
  blt : w0.heap.size < B
  bne : B ≠ b
  res : EBx w w0.heap.size ezz
theorem EH.more {N b q q' B : Nat} {w0 w w' : World} {e : EntD} (h : EH N b q B w0 w e) (hb : But b w.heap.size w w') (hr : Rd N w' b q') : EH N b q' B w0 w' e :=
  ⟨h.box.but hb h.box.lt h.bne, h.low.trans (hb.below (Nat.le_of_lt h.lt) h.low.size), hr, h.lt, h.blt, h.bne, h.res.but hb h.res.lt (by have := h.lt; omega)⟩
theorem EH.below {N b q B : Nat} {w0 w w' : World} {e : EntD} (h : EH N b q B w0 w e) (hb : Below w.heap.size w w') : EH N b q B w0 w' e :=
  ⟨h.box.below hb h.box.lt, h.low.trans (hb.mono h.low.size), h.rd.below hb h.rd.2.1, h.lt, h.blt, h.bne, h.res.below hb h.res.lt⟩
theorem EH.up {N b q q' B : Nat} {w0 w : World} {e : EntD} (h : EH N b q B w0 w e) (hq : q ≤ q') : EH N b q' B w0 w e := ⟨h.box, h.low, h.rd.mono hq, h.lt, h.blt, h.bne, h.res⟩
theorem EH.ne {N b q B : Nat} {w0 w : World} {e : EntD} (h : EH N b q B w0 w e) : B ≠ w0.heap.size := by have := h.blt; omega
theorem EH.put {N b q B k : Nat} {w0 w : World} {e e' : EntD} {v : Value} (h : EH N b q B w0 w e) (h' : EBx (w.setCell ⟨B, k, none⟩ v) B e') (hNw : N ≤ w0.heap.size) : EH N b q B w0 (w.setCell ⟨B, k, none⟩ v) e' := by
  have hB : Below w0.heap.size w (w.setCell ⟨B, k, none⟩ v) := (Below.refl _ _).setCell (p := ⟨B, k, none⟩) (Nat.le_of_lt h.blt) _
  have hR : Rd N (w.setCell ⟨B, k, none⟩ v) b q := by
    obtain ⟨h1, h2, a, len, cap, p, h3, h4, h5, h6, h7⟩ := h.rd
    have hblk : (w.setCell ⟨B, k, none⟩ v).heap[b]? = w.heap[b]? := Below.heap_setCell _ _ _ _ (show b ≠ B from fun e => h.bne e.symm)
    have hN : Below N w (w.setCell ⟨B, k, none⟩ v) := hB.mono hNw
    exact ⟨h1, by simpa [World.setCell] using h2, a, len, cap, p, (World.cell?_of_block (a := ⟨b, 0, none⟩) hblk).trans h3, (World.cell?_of_block (a := ⟨b, 1, none⟩) hblk).trans h4, (World.frozen?_of_block (a := ⟨b, 1, none⟩) hblk).trans h5, h6, h7.below hN⟩
  exact ⟨h', h.low.trans hB, hR, h.lt, h.blt, h.bne, (Below.heap_setCell _ _ _ _ (show w0.heap.size ≠ B by have := h.blt; omega)).trans h.res⟩
def DrewE (w : World) (r : Ending) (w' : World) : Prop := ∃ e : EntD, EntS e ∧ r = .returned (.agg #[.int .i64 e.who, .int .i64 e.seq, .int .i64 e.op.kind, .int .i64 e.op.id, .int .i64 e.op.up, .int .i64 e.op.at_, .string e.op.txt]) ∧ Below w.heap.size w w'
def givenE (w : World) (B : Nat) (e : EntD) : World := ((((((w.setCell ⟨B, 0, none⟩ (.int .i64 e.who)).setCell ⟨B, 1, none⟩ (.int .i64 e.seq)).setCell ⟨B, 2, none⟩ (.int .i64 e.op.kind)).setCell ⟨B, 3, none⟩ (.int .i64 e.op.id)).setCell ⟨B, 4, none⟩ (.int .i64 e.op.up)).setCell ⟨B, 5, none⟩ (.int .i64 e.op.at_)).setCell ⟨B, 6, none⟩ (.string e.op.txt)
theorem EH.drew {N b q B : Nat} {w w' : World} {e : EntD} (h : EH N b q B w w' e) (he : EntS e) : DrewE w (.returned (.agg #[.int .i64 e.who, .int .i64 e.seq, .int .i64 e.op.kind, .int .i64 e.op.id, .int .i64 e.op.up, .int .i64 e.op.at_, .string e.op.txt])) (givenE w' w.heap.size e) := by
  refine ⟨e, he, rfl, h.low.trans ?_⟩
  unfold givenE
  exact (((((((Below.refl _ _).setCell (p := ⟨w.heap.size, 0, none⟩) (Nat.le_refl _) _).setCell (p := ⟨w.heap.size, 1, none⟩) (Nat.le_refl _) _).setCell (p := ⟨w.heap.size, 2, none⟩) (Nat.le_refl _) _).setCell (p := ⟨w.heap.size, 3, none⟩) (Nat.le_refl _) _).setCell (p := ⟨w.heap.size, 4, none⟩) (Nat.le_refl _) _).setCell (p := ⟨w.heap.size, 5, none⟩) (Nat.le_refl _) _).setCell (p := ⟨w.heap.size, 6, none⟩) (Nat.le_refl _) _
end Go.Proofs.YtclhjgcapalniaaDoor
/-
  The model's drawing of an entry: DrawEntryOk, the walk. Conditions: as the theorem says.
-/
namespace Go.Proofs.YtclhjgcapalniaaDoor
open Go.ChangeShapes Go.WideShapes Go.ChangeAt Go.RowKit Go.Joins

theorem three_arr (w : World) (b : Nat) (w' : World) (hb : But b (w.alloc (.cells #[.int .i64 0, .int .i64 40, .int .i64 41] 3)).heap.size (w.alloc (.cells #[.int .i64 0, .int .i64 40, .int .i64 41] 3)) w') (hbw : b < w.heap.size) (i : Nat) (hi : i < 3) : ∃ v : Int, 0 ≤ v ∧ v ≤ 41 ∧ w'.cell? ⟨w.heap.size, i, none⟩ = some (.int .i64 v) := by
  have hc : ∀ j, w'.cell? ⟨w.heap.size, j, none⟩ = (w.alloc (.cells #[.int .i64 0, .int .i64 40, .int .i64 41] 3)).cell? ⟨w.heap.size, j, none⟩ := fun j => hb.cell (p := ⟨w.heap.size, j, none⟩) (by simp) (show w.heap.size ≠ b by omega)
  obtain rfl | rfl | rfl : i = 0 ∨ i = 1 ∨ i = 2 := by omega
  · exact ⟨0, by omega, by omega, by rw [hc]; simp [go_sem]⟩
  · exact ⟨40, by omega, by omega, by rw [hc]; simp [go_sem]⟩
  · exact ⟨41, by omega, by omega, by rw [hc]; simp [go_sem]⟩
end Go.Proofs.YtclhjgcapalniaaDoor
/-
  What holds while the model draws a log: the entries, the outline, the table of counts, the reader. Conditions: as each theorem says.
-/
namespace Go.Proofs.YtclhjgcapalniaaDoor
open Go.ChangeShapes Go.WideShapes Go.ChangeAt Go.RowKit Go.Joins

theorem own_put {w : World} {base mb k n size : Nat} {e t : TypeId} {v u : Value} {xs : List Value} {c : Array Value} {z : Nat × Nat} (h : w.ownsRow base e size v n xs) (hm : w.heap[mb]? = some (.cells c t z)) (hne : e ≠ t) : (w.setCell ⟨mb, k, none⟩ u).ownsRow base e size v n xs := by
  obtain ⟨h1, h2⟩ := h
  refine ⟨h1, ?_⟩
  rcases h2 with h2 | ⟨g, cap, cur, hv, hg, hh, r⟩
  · exact .inl h2
  · refine .inr ⟨g, cap, cur, hv, hg, ?_, r⟩
    have hgm : g ≠ mb := fun q => by subst q; rw [hh] at hm; injection hm with q1; injection q1 with _ q2; exact hne q2
    exact (Below.heap_setCell _ _ _ _ hgm).trans hh
theorem own_apart {w : World} {base base' size size' n n' : Nat} {e e' : TypeId} {v v' : Value} {xs xs' : List Value} (h : w.ownsRow base e size v n xs) (h' : w.ownsRow base' e' size' v' n' xs') (hne : e ≠ e') : v.ownBlock = none ∨ v.ownBlock ≠ v'.ownBlock := by
  rcases h.2 with ⟨h1, _⟩ | ⟨g, cap, cur, hv, hg, hh, _⟩
  · left; rw [h1]; rfl
  · right
    rw [hv]
    rcases h'.2 with ⟨h1', _⟩ | ⟨g', cap', cur', hv', hg', hh', _⟩
    · rw [h1']; intro q; cases q
    · rw [hv']
      intro q
      have : g = g' := by simpa [Value.ownBlock] using q
      subst this
      rw [hh] at hh'; injection hh' with q1; injection q1 with _ q2; exact hne q2
theorem own_notBlock {w : World} {base size n mb : Nat} {e t : TypeId} {v : Value} {xs : List Value} {c : Array Value} {z : Nat × Nat} (h : w.ownsRow base e size v n xs) (hm : w.heap[mb]? = some (.cells c t z)) (hne : e ≠ t) : some mb ≠ v.ownBlock := by
  rcases h.2 with ⟨h1, _⟩ | ⟨g, cap, cur, hv, hg, hh, _⟩
  · rw [h1]; intro q; cases q
  · rw [hv]
    intro q
    have : mb = g := by simpa [Value.ownBlock] using q
    subst this
    rw [hh] at hm; injection hm with q1; injection q1 with _ q2; exact hne q2
theorem ne_ER : 64 ≠ 39 := by decide
theorem ne_EI : 64 ≠ 3 := by decide
theorem ne_RI : 39 ≠ 3 := by decide
theorem ne_EO : 64 ≠ 27 := by decide
/-- The table of counts: three numbers from 0 to M. -/
def Cnts (w : World) (mb M : Nat) : Prop := ∃ m0 m1 m2 : Int, w.heap[mb]? = some (.cells #[.int .i64 m0, .int .i64 m1, .int .i64 m2] 3 (0, 0)) ∧ 0 ≤ m0 ∧ m0 ≤ M ∧ 0 ≤ m1 ∧ m1 ≤ M ∧ 0 ≤ m2 ∧ m2 ≤ M
theorem Cnts.lt {w : World} {mb M : Nat} (h : Cnts w mb M) : mb < w.heap.size := by obtain ⟨_, _, _, h, _⟩ := h; exact (Array.getElem?_eq_some_iff.1 h).1
theorem Cnts.block {w w' : World} {mb M : Nat} (h : Cnts w mb M) (hb : w'.heap[mb]? = w.heap[mb]?) : Cnts w' mb M := by
  obtain ⟨m0, m1, m2, h, r⟩ := h
  exact ⟨m0, m1, m2, hb.trans h, r⟩
theorem Cnts.up {w : World} {mb M M' : Nat} (h : Cnts w mb M) (hM : M ≤ M') : Cnts w mb M' := by
  obtain ⟨m0, m1, m2, h, r0, r1, r2, r3, r4, r5⟩ := h
  exact ⟨m0, m1, m2, h, r0, by omega, r2, by omega, r4, by omega⟩
theorem Cnts.at_ {w : World} {mb M : Nat} (h : Cnts w mb M) {i : Nat} (hi : i < 3) : ∃ m : Int, 0 ≤ m ∧ m ≤ M ∧ w.cell? ⟨mb, i, none⟩ = some (.int .i64 m) ∧ w.frozen? ⟨mb, i, none⟩ = false ∧ (∀ v : Int, 0 ≤ v → v ≤ ((M + 1 : Nat) : Int) → Cnts (w.setCell ⟨mb, i, none⟩ (.int .i64 v)) mb (M + 1)) := by
  obtain ⟨m0, m1, m2, h, r0, r1, r2, r3, r4, r5⟩ := h
  have hf : ∀ k, w.frozen? ⟨mb, k, none⟩ = false := fun k => by simp [World.frozen?, h]
  rcases (by omega : i = 0 ∨ i = 1 ∨ i = 2) with rfl | rfl | rfl
  · exact ⟨m0, r0, r1, by simp [World.cell?, h], hf _, fun v v0 v1 => ⟨v, m1, m2, by rw [blk_set h]; simp, v0, v1, r2, by omega, r4, by omega⟩⟩
  · exact ⟨m1, r2, r3, by simp [World.cell?, h], hf _, fun v v0 v1 => ⟨m0, v, m2, by rw [blk_set h]; simp, r0, by omega, v0, v1, r4, by omega⟩⟩
  · exact ⟨m2, r4, r5, by simp [World.cell?, h], hf _, fun v v0 v1 => ⟨m0, m1, v, by rw [blk_set h]; simp, r0, by omega, r2, by omega, v0, v1⟩⟩
structure GH (N b q : Nat) (w0 w : World) (g oc : Nat) (es : List EntD) (ta : Option Addr) (tc : Nat) (rs : List RowD) (mb M : Nat) : Prop where
  out : w.ownsRow w0.heap.size 64 7 (.slice (some ⟨g, 0, none⟩) es.length oc) es.length (cellsE es)
  glt : w0.heap.size ≤ g ∧ g < w.heap.size
  tree : w.ownsRow w0.heap.size 39 3 (.slice ta rs.length tc) rs.length (cellsL rs)
  made : Cnts w mb M
  but : But b w0.heap.size w0 w
  rd : Rd N w b q
  lt : b < w0.heap.size
  mlt : w0.heap.size ≤ mb
theorem GH.more {N b q q' : Nat} {w0 w w' : World} {g oc : Nat} {es : List EntD} {ta : Option Addr} {tc : Nat} {rs : List RowD} {mb M : Nat} (h : GH N b q w0 w g oc es ta tc rs mb M) (hb : But b w.heap.size w w') (hr : Rd N w' b q') : GH N b q' w0 w' g oc es ta tc rs mb M :=
  ⟨own_but h.out hb h.lt, ⟨h.glt.1, Nat.lt_of_lt_of_le h.glt.2 hb.size⟩, own_but h.tree hb h.lt, h.made.block (hb.block mb h.made.lt (by have := h.lt; have := h.mlt; omega)), h.but.trans (hb.mono h.but.size), hr, h.lt, h.mlt⟩
theorem GH.below {N b q : Nat} {w0 w w' : World} {g oc : Nat} {es : List EntD} {ta : Option Addr} {tc : Nat} {rs : List RowD} {mb M : Nat} (h : GH N b q w0 w g oc es ta tc rs mb M) (hb : Below w.heap.size w w') : GH N b q w0 w' g oc es ta tc rs mb M :=
  ⟨own_below h.out hb, ⟨h.glt.1, Nat.lt_of_lt_of_le h.glt.2 hb.size⟩, own_below h.tree hb, h.made.block (hb.block mb h.made.lt), h.but.trans ((But.of_below hb).mono h.but.size), h.rd.below hb h.rd.2.1, h.lt, h.mlt⟩
theorem GH.up {N b q q' : Nat} {w0 w : World} {g oc : Nat} {es : List EntD} {ta : Option Addr} {tc : Nat} {rs : List RowD} {mb M M' : Nat} (h : GH N b q w0 w g oc es ta tc rs mb M) (hq : q ≤ q') (hM : M ≤ M') : GH N b q' w0 w g oc es ta tc rs mb M' :=
  ⟨h.out, h.glt, h.tree, h.made.up hM, h.but, h.rd.mono hq, h.lt, h.mlt⟩
theorem rd_put {N b q mb k : Nat} {w : World} {v : Value} (h : Rd N w b q) (hne : b ≠ mb) (hN : N ≤ mb) : Rd N (w.setCell ⟨mb, k, none⟩ v) b q := by
  obtain ⟨h1, h2, a, len, cap, p, h3, h4, h5, h6, h7⟩ := h
  have hblk : (w.setCell ⟨mb, k, none⟩ v).heap[b]? = w.heap[b]? := Below.heap_setCell _ _ _ _ hne
  have hN' : Below N w (w.setCell ⟨mb, k, none⟩ v) := (Below.refl _ _).setCell (p := ⟨mb, k, none⟩) hN _
  exact ⟨h1, by simpa [World.setCell] using h2, a, len, cap, p, (World.cell?_of_block (a := ⟨b, 0, none⟩) hblk).trans h3, (World.cell?_of_block (a := ⟨b, 1, none⟩) hblk).trans h4, (World.frozen?_of_block (a := ⟨b, 1, none⟩) hblk).trans h5, h6, h7.below hN'⟩
theorem GH.count {N b q : Nat} {w0 w : World} {g oc : Nat} {es : List EntD} {ta : Option Addr} {tc : Nat} {rs : List RowD} {mb M i : Nat} {v : Int} (h : GH N b q w0 w g oc es ta tc rs mb M) (hN : N ≤ w0.heap.size) (hc : Cnts (w.setCell ⟨mb, i, none⟩ (.int .i64 v)) mb (M + 1)) : GH N b q w0 (w.setCell ⟨mb, i, none⟩ (.int .i64 v)) g oc es ta tc rs mb (M + 1) := by
  obtain ⟨m0, m1, m2, hm, _⟩ := h.made
  have hB : Below w0.heap.size w (w.setCell ⟨mb, i, none⟩ (.int .i64 v)) := (Below.refl _ _).setCell (p := ⟨mb, i, none⟩) h.mlt _
  exact ⟨own_put h.out hm ne_EI, ⟨h.glt.1, by have := h.glt.2; simpa [World.setCell] using this⟩, own_put h.tree hm ne_RI, hc, h.but.trans (But.of_below hB), rd_put h.rd (by have := h.lt; have := h.mlt; omega) (Nat.le_trans hN h.mlt), h.lt, h.mlt⟩
/-- Behind an append to the entries. -/
theorem GH.append {N b q : Nat} {w0 w w' : World} {g oc : Nat} {es : List EntD} {ta : Option Addr} {tc : Nat} {rs : List RowD} {mb M : Nat} {v' : Value} {e : EntD} (h : GH N b q w0 w g oc es ta tc rs mb M) (hN : N ≤ w0.heap.size) (ho : w'.ownsRow w0.heap.size 64 7 v' (es.length + 1) (cellsE es ++ cellsE [e])) (hg : w.grownBy w' (Value.slice (some ⟨g, 0, none⟩) es.length oc).ownBlock) :
    ∃ g' oc', v' = .slice (some ⟨g', 0, none⟩) (es ++ [e]).length oc' ∧ GH N b q w0 w' g' oc' (es ++ [e]) ta tc rs mb M ∧ es.length + 1 ≤ oc' := by
  obtain ⟨m0, m1, m2, hm, hr⟩ := h.made
  have hl : (es ++ [e]).length = es.length + 1 := by simp
  rw [← cellsE_append] at ho
  have hB : Below w0.heap.size w w' := (Below.refl _ w).grown hg h.but.size (fun k hk => own_blockE h.out k hk)
  rcases ho.2 with ⟨_, h0⟩ | ⟨g', cap', cur, hv, hg', hh, h1, r⟩
  · omega
  · refine ⟨g', cap', by rw [hl]; exact hv, ?_, h1⟩
    subst hv
    have hgl : g' < w'.heap.size := (Array.getElem?_eq_some_iff.1 hh).1
    have hblk : w'.heap[mb]? = w.heap[mb]? := hg.block mb h.made.lt (own_notBlock h.out hm ne_EI)
    have hblkb : w'.heap[b]? = w.heap[b]? := hg.block b h.rd.2.1 (fun q => by have := own_blockE h.out b q.symm; have := h.lt; omega)
    refine ⟨by rw [hl]; exact ho, ⟨hg', hgl⟩, h.tree.kept hg ((own_apart h.tree h.out (fun q => ne_ER q.symm))), h.made.block hblk, h.but.trans (But.of_below hB), ?_, h.lt, h.mlt⟩
    obtain ⟨k1, k2, a, len, cap, p, k3, k4, k5, k6, k7⟩ := h.rd
    exact ⟨k1, Nat.lt_of_lt_of_le k2 hg.size, a, len, cap, p, (World.cell?_of_block (a := ⟨b, 0, none⟩) hblkb).trans k3, (World.cell?_of_block (a := ⟨b, 1, none⟩) hblkb).trans k4, (World.frozen?_of_block (a := ⟨b, 1, none⟩) hblkb).trans k5, k6, k7.below (hB.mono hN)⟩
theorem ents_snoc {es : List EntD} {e : EntD} (h : ∀ i, i < es.length → EntS (eat es i)) (he : EntS e) : ∀ i, i < (es ++ [e]).length → EntS (eat (es ++ [e]) i) := fun i hi => by
  simp at hi
  by_cases q : i < es.length
  · rw [eat_app_left q]; exact h i q
  · obtain rfl : i = es.length := by omega
    rw [eat_app_last]; exact he
theorem ents_fit {es : List EntD} (hl : es.length ≤ 1048576) (h : ∀ i, i < es.length → EntS (eat es i)) : EntsFit es := ⟨hl, fun i hi => (h i hi).fit⟩
theorem opok_s {o : OpD} (h : opokB o = true) : OpS o := by
  have hf := opok_made h
  have hb := (madeB_iff _).1 hf
  have hk := opok_kind h
  have spot : ∀ u a, spotB u a = true → 0 ≤ u ∧ u ≤ 36 ∧ 0 ≤ a ∧ a ≤ 36 := fun u a hs => by
    simp only [spotB, Bool.and_eq_true, Bool.or_eq_true, beq_iff_eq] at hs
    have h1 := who_bd hs.1
    rcases hs.2 with h2 | h2
    · omega
    · have := (madeB_iff _).1 h2; omega
  unfold opokB at h
  split at h
  · simp only [Bool.and_eq_true] at h
    have h1 := spot _ _ h.1.2
    have h2 := h.2
    simp only [textB, Bool.and_eq_true, decide_eq_true_eq] at h2
    exact ⟨by omega, by omega, by omega, by omega, by omega⟩
  · split at h
    · simp only [Bool.and_eq_true, beq_iff_eq] at h
      have h2 := h.2
      simp only [textB, Bool.and_eq_true, decide_eq_true_eq] at h2
      exact ⟨by omega, by omega, by omega, by omega, by omega⟩
    · split at h
      · simp only [Bool.and_eq_true] at h
        have h1 := spot _ _ h.2
        have h2 := textB_nil h.1.1
        simp only [textB, Bool.and_eq_true, decide_eq_true_eq] at h2
        exact ⟨by omega, by omega, by omega, by omega, by omega⟩
      · cases h
/-- Entries were drawn, in memory of their own. -/
def DrewLog (N b p : Nat) (w : World) (r : Ending) (w' : World) : Prop :=
  ∃ (g oc : Nat) (es : List EntD), r = .returned (.slice (some ⟨g, 0, none⟩) es.length oc) ∧ es.length ≤ 14 ∧ (∀ i, i < es.length → EntS (eat es i)) ∧ w'.ownsRow w.heap.size 64 7 (.slice (some ⟨g, 0, none⟩) es.length oc) es.length (cellsE es) ∧ w.heap.size ≤ g ∧ g < w'.heap.size ∧ But b w.heap.size w w' ∧ Rd N w' b p
theorem GH.done {N b q q' : Nat} {w w' : World} {g oc : Nat} {es : List EntD} {ta : Option Addr} {tc : Nat} {rs : List RowD} {mb M : Nat} (h : GH N b q w w' g oc es ta tc rs mb M) (hq : q ≤ q') (hl : es.length ≤ 14) (he : ∀ i, i < es.length → EntS (eat es i)) : DrewLog N b q' w (.returned (.slice (some ⟨g, 0, none⟩) es.length oc)) w' :=
  ⟨g, oc, es, rfl, hl, he, h.out, h.glt.1, h.glt.2, h.but, h.rd.mono hq⟩
end Go.Proofs.YtclhjgcapalniaaDoor
/-
  The model's drawing of a log: l72Log. What is drawn is said loosely: how long, and in what bounds. Conditions: as the theorem says.
-/
namespace Go.Proofs.YtclhjgcapalniaaDoor
open Go.ChangeShapes Go.WideShapes Go.ChangeAt Go.RowKit Go.Joins

theorem own_frozenE {w : World} {base g n cap size : Nat} {e : TypeId} {xs : List Value} (h : w.ownsRow base e size (.slice (some ⟨g, 0, none⟩) n cap) n xs) (k : Nat) : w.frozen? ⟨g, k, none⟩ = false := by
  rcases h.2 with ⟨h1, _⟩ | ⟨g', cap', cur, hv, hg, hh, _⟩
  · cases h1
  · cases hv; simp [World.frozen?, hh]
theorem own_setE {w : World} {base g cap n o : Nat} {e : TypeId} {size : Nat} {xs : List Value} (h : w.ownsRow base e size (.slice (some ⟨g, 0, none⟩) n cap) n xs) (u : Value) : (w.setCell ⟨g, o, none⟩ u).ownsRow base e size (.slice (some ⟨g, 0, none⟩) n cap) n (xs.set o u) := (h.stored o u).1
def setSq (es : List EntD) (k : Nat) (v : Int) : List EntD := es.modify k (fun e => ⟨e.who, v, e.op⟩)
theorem setSq_len (es : List EntD) (k : Nat) (v : Int) : (setSq es k v).length = es.length := by simp [setSq]
theorem cellsE_cons' (e : EntD) (es : List EntD) : cellsE (e :: es) = .int .i64 e.who :: .int .i64 e.seq :: .int .i64 e.op.kind :: .int .i64 e.op.id :: .int .i64 e.op.up :: .int .i64 e.op.at_ :: .string e.op.txt :: cellsE es := rfl
theorem cells_setSq (v : Int) : ∀ (es : List EntD) (k : Nat), cellsE (setSq es k v) = (cellsE es).set (k * 7 + 1) (.int .i64 v)
  | [], k => by simp [setSq, cellsE]
  | e :: es, 0 => by simp [setSq, cellsE_cons']
  | e :: es, k + 1 => by
    have ih := cells_setSq v es k
    have e1 : setSq (e :: es) (k + 1) v = e :: setSq es k v := by simp [setSq]
    rw [e1, cellsE_cons', cellsE_cons', ih, show (k + 1) * 7 + 1 = (k * 7 + 1) + 1 + 1 + 1 + 1 + 1 + 1 + 1 by omega]
    simp
theorem setSq_at {es : List EntD} {k : Nat} {v : Int} (hv0 : -99 ≤ v) (hv1 : v ≤ 99) (h : ∀ i, i < es.length → EntS (eat es i)) : ∀ i, i < (setSq es k v).length → EntS (eat (setSq es k v) i) := fun i hi => by
  rw [setSq_len] at hi
  have := h i hi
  have e1 : eat (setSq es k v) i = if k = i then ⟨(eat es i).who, v, (eat es i).op⟩ else eat es i := by
    simp [eat, setSq, List.getD_eq_getElem?_getD, List.getElem?_modify, List.getElem?_eq_getElem hi]
  rw [e1]
  split
  · exact ⟨this.who, ⟨hv0, hv1⟩, this.op⟩
  · exact this
theorem GH.setSeq {N b q q' : Nat} {w w' : World} {g oc : Nat} {es : List EntD} {ta : Option Addr} {tc : Nat} {rs : List RowD} {mb M : Nat} (h : GH N b q w w' g oc es ta tc rs mb M) (hN : N ≤ w.heap.size) {i : Nat} (_hi : i < es.length) (v : Int) (hq : q ≤ q') (hl : es.length ≤ 14) (he : ∀ i, i < es.length → EntS (eat es i)) (v0 : -99 ≤ v) (v1 : v ≤ 99) : DrewLog N b q' w (.returned (.slice (some ⟨g, 0, none⟩) es.length oc)) (w'.setCell ⟨g, i * 7 + 1, none⟩ (.int .i64 v)) := by
  have hB : Below w.heap.size w' (w'.setCell ⟨g, i * 7 + 1, none⟩ (.int .i64 v)) := (Below.refl _ _).setCell (p := ⟨g, i * 7 + 1, none⟩) h.glt.1 _
  refine ⟨g, oc, setSq es i v, by rw [setSq_len], by rw [setSq_len]; exact hl, setSq_at v0 v1 he, ?_, h.glt.1, by have := h.glt.2; simpa [World.setCell] using this, h.but.trans (But.of_below hB), rd_put (h.rd.mono hq) (by have := h.lt; have := h.glt.1; omega) (Nat.le_trans hN h.glt.1)⟩
  rw [setSq_len, cells_setSq]
  exact own_setE h.out _
set_option maxRecDepth 100000 in
set_option maxHeartbeats 8000000 in
theorem l72Log_any (N b p : Nat) (w : World) (hr : Rd N w b p) (hp : p < 1000) (hN : N ≤ w.heap.size) :
    Calls Tryd.prog 57 #[.pointer (some ⟨b, 0, none⟩)] w (DrewLog N b (p + 1000) w) := by
  obtain ⟨i0, hi, hz0, hz1, hz2⟩ := info_parts infoEnt
  have hbw := hr.2.1
  have HNW := Lib.hid hN
  have a0 : Below w.heap.size w (w.alloc (.cells #[] 64)) := (Below.refl _ _).alloc (Nat.le_refl _) _
  have o0 := own_emptyE w 64
  go_enter Tryd.func57, Tryd.ntmps57
  go_wp2_with fail
  refine (specNew_own _).mono ?_
  rintro _ w1 ⟨ya, yc, rfl, own1, hyc, hb1⟩
  have b1 := a0.trans (hb1.mono a0.size)
  have o1 := own_below o0 hb1
  have hlt0 : w.heap.size < w1.heap.size := Nat.lt_of_lt_of_le (by simp) hb1.size
  have a2 : Below w1.heap.size w1 (w1.alloc (.cells #[.int .i64 0, .int .i64 0, .int .i64 0] 3)) := (Below.refl _ _).alloc (Nat.le_refl _) _
  have H0 : GH N b p w (w1.alloc (.cells #[.int .i64 0, .int .i64 0, .int .i64 0] 3)) w.heap.size 0 [] ya yc r3 w1.heap.size 0 :=
    ⟨own_below o1 a2, ⟨Nat.le_refl _, Nat.lt_of_lt_of_le hlt0 a2.size⟩, own_mono (own_below own1 a2) a0.size, ⟨0, 0, 0, heap_alloc_new _ _, by omega, by omega, by omega, by omega, by omega, by omega⟩, But.of_below (b1.trans (a2.mono b1.size)), (hr.below b1 hbw).below a2 (Nat.lt_of_lt_of_le hbw b1.size), hbw, b1.size⟩
  have h3 : r3.length = 3 := rfl
  clear a0 o0 hb1 b1 o1 own1 hr hN
  go_wp2_with fail
  refine (pick_any _ _ _ _ _ H0.rd (by omega) (by omega) (by omega)).mono ?_
  rintro _ w2 ⟨k, k0, k1, rfl, b2, s2, r2⟩
  obtain ⟨m, rfl⟩ := Int.eq_ofNat_of_zero_le k0
  have H1 := H0.more b2 r2
  generalize hmb : w1.heap.size = mb at *
  clear H0 b2 s2 r2 a2 hlt0 hmb
  go_wp2_with fail
  go_loopw [3, 4, 6] (fun ov tv n wr => ∃ (j g oc : Nat) (es : List EntD) (ta : Option Addr) (tc : Nat) (rs : List RowD), j ≤ 13 ∧ n = .int .i64 j ∧ ov = .slice (some ⟨g, 0, none⟩) es.length oc ∧ tv = .slice ta rs.length tc ∧ es.length + j ≤ 13 ∧ Hid (treeB rs = true) ∧ Hid (∀ i, i < es.length → EntS (eat es i)) ∧ GH N b (p + 1 + 40 * (13 - j)) w wr g oc es ta tc rs mb (13 - j)) (fun _ _ n _ => (intOf n).toNat)
  case atStart => exact ⟨m, _, 0, [], ya, yc, r3, by omega, rfl, rfl, rfl, by simp; omega, tree_r3, fun i hi => by simp at hi, H1.up (by omega) (by omega)⟩
  case round =>
    obtain ⟨j, g, oc, es, ta, tc, rs, hj, rfl, rfl, rfl, hlen, HT, HES, H2⟩ := hrel
    clear H1 h3
    by_cases hj0 : 0 < j
    · have j1 : (0 : Int) < (j : Int) := by omega
      go_wp2_with fail
      refine (pick_any _ _ _ _ _ H2.rd (by omega) (by omega) (by omega)).mono ?_
      rintro _ w3 ⟨k, k0, k1, rfl, b3, s3, r3'⟩
      obtain ⟨x, rfl⟩ := Int.eq_ofNat_of_zero_le k0
      have H3 := H2.more b3 r3'
      obtain ⟨mv, mv0, mv1, hmc, _, _⟩ := H3.made.at_ (show x < 3 by omega)
      have e1 : (1 : Int) + (x : Int) - 1 = (x : Int) := by omega
      have i3 : (x : Int) < 3 := by omega
      have HOP := Lib.hid (l72Op_any N b _ w.heap.size ta tc rs (1 + (x : Int)) mv w3 H3.rd (by omega) H3.tree H3.lt HT.out (by omega) (by omega) mv0 (by omega))
      clear H2 b3 s3 r3'
      go_wp2_with fail
      refine HOP.out.mono ?_
      rintro _ w4 ⟨o, hok, rfl, b4, r4⟩
      have H4 := H3.more b4 r4
      have HOK := Lib.hid hok
      have HOS := Lib.hid (opok_s hok)
      clear hok
      have aq : Below w4.heap.size w4 (w4.alloc (.cells #[.int .i64 o.kind, .int .i64 o.id, .int .i64 o.up, .int .i64 o.at_, .string o.txt] 27)) := (Below.refl _ _).alloc (Nat.le_refl _) _
      have H5 := H4.below aq
      have X5 := OBox.new w4 o
      clear H3 H4 b4 r4 hmc HOP aq
      go_upto_region 9 with fail
      generalize w4.alloc (.cells #[.int .i64 o.kind, .int .i64 o.id, .int .i64 o.up, .int .i64 o.at_, .string o.txt] 27) = w5 at *
      generalize w4.heap.size = ob at *
      obtain ⟨x0, x1, x2, x3, x4⟩ := X5.cells
      go_upto_if 32 with fail
      go_cut [5] (fun s wx => s = .slice (some ⟨mb, 0, none⟩) 3 3 ∧ OBox wx ob o ∧ GH N b (p + 1 + 40 * (13 - j) + 1 + 30) w wx g oc es ta tc rs mb (13 - j + 1))
      case first =>
        by_cases hk : o.kind = 1
        · have hkb : (o.kind == 1) = true := by rw [hk]; rfl
          clear hk
          obtain ⟨m2, m20, m21, hmc2, hmf2, hms2⟩ := H5.made.at_ (show x < 3 by omega)
          have H6 := H5.count HNW.out (hms2 (m2 + 1) (by omega) (by omega))
          have hobm : ob ≠ mb := fun q => by
            obtain ⟨_, _, _, hm, _⟩ := H5.made
            have hx := X5
            unfold OBox at hx
            rw [q, hm] at hx
            injection hx with q1
            injection q1 with _ q2
            exact absurd q2 (by decide)
          have X6 : OBox (w5.setCell ⟨mb, x, none⟩ (.int .i64 (m2 + 1))) ob o := (Below.heap_setCell _ _ _ _ hobm).trans X5
          clear hms2
          go_wp2_with fail
          go_meet
          exact ⟨rfl, X6, H6⟩
        · have hkb : (o.kind == 1) = false := by simpa using hk
          clear hk
          go_wp2_with fail
          go_meet
          exact ⟨rfl, X5, H5.up (by omega) (by omega)⟩
      case rest =>
        obtain ⟨rfl, X6, H6⟩ := hcut
        clear H5 X5 x0 x1 x2 x3 x4
        obtain ⟨x0, x1, x2, x3, x4⟩ := X6.cells
        have hcn := cntTo_le es (1 + (x : Int)) es.length
        have hl20 : es.length ≤ 1048576 := by omega
        have hd : Below wc.heap.size wc wc.drew := (Below.refl _ _).drew
        have HDo : wc.drew.ownsRow w.heap.size 64 7 (.slice (some ⟨g, 0, none⟩) es.length oc) es.length (cellsE es) := own_below H6.out hd
        have HQ := Lib.hid (l12Seq_any wc.drew.heap.size (some ⟨g, 0, none⟩) oc es (1 + (x : Int)) es.length wc.drew (entsAt_own HDo) (Nat.le_refl _) (by omega))
        clear HDo
        generalize cntTo es (1 + (x : Int)) es.length = cn at *
        have hwr : IntKind.i64.wrap ((cn : Int) + 1) = (cn : Int) + 1 := IntWalk.i64_in _ (by omega)
        have hobl := X6.lt
        have HD6 := H6.below hd
        have HE : Hid (EntS ⟨1 + (x : Int), (cn : Int) + 1, o⟩) := ⟨⟨by (try dsimp only); omega, by (try dsimp only); omega⟩, ⟨by (try dsimp only); omega, by (try dsimp only); omega⟩, HOS.out⟩
        have al : Below wc.drew.heap.size wc.drew (wc.drew.alloc (.cells #[.int .i64 (1 + (x : Int)), .int .i64 ((cn : Int) + 1), .int .i64 o.kind, .int .i64 o.id, .int .i64 o.up, .int .i64 o.at_, .string o.txt] 64)) := (Below.refl _ _).alloc (Nat.le_refl _) _
        have H7 := HD6.below al
        have hoa := H7.out
        have HEC := Lib.hid (elem_cells wc.drew ⟨1 + (x : Int), (cn : Int) + 1, o⟩)
        have hb7 := H7.but.size
        have XD : OBox wc.drew ob o := X6.below hd hobl
        have X7 : OBox (wc.drew.alloc (.cells #[.int .i64 (1 + (x : Int)), .int .i64 ((cn : Int) + 1), .int .i64 o.kind, .int .i64 o.id, .int .i64 o.up, .int .i64 o.at_, .string o.txt] 64)) ob o := XD.below al hobl
        go_wp2_with fail
        go_cut [3] (fun s wx => ∃ (g' oc' : Nat), s = .slice (some ⟨g', 0, none⟩) (es.length + 1) oc' ∧ OBox wx ob o ∧ GH N b (p + 1 + 40 * (13 - j) + 1 + 30) w wx g' oc' (es ++ [⟨1 + (x : Int), (cn : Int) + 1, o⟩]) ta tc rs mb (13 - j + 1))
        case first =>
          go_region_law (first
            | (refine step_append_own rfl (.tmp 43) (.tmp 51) 45 rfl w.heap.size 64 i0 (.agg #[.int .i64 0, .int .i64 0, .int .i64 0, .int .i64 0, .int .i64 0, .int .i64 0, .string ⟨#[]⟩]) 7 64 Tryd.underlying45 hi hz0 hz1 hz2 rfl (by decide) _ _ _ (by simp [Act.eval]) hoa ⟨wc.heap.size, 0, none⟩ 1 1 (cellsE [⟨1 + (x : Int), (cn : Int) + 1, o⟩]) (by simp [Act.eval]) rfl HEC.out (cellsE_plain _) (by unfold maxLen; omega) (by omega) hb7 ?_
               intro v8 w8 own8 grow8
               obtain ⟨g8, c8, rfl, H8, hc8⟩ := H7.append HNW.out own8 grow8
               have X8 : OBox w8 ob o := (grow8.block ob X7.lt (own_notBlock hoa X7 ne_EO)).trans X7)
            | (go_simp; go_at_call 62; refine HQ.out.mono ?_; rintro _ _ ⟨rfl, rfl⟩))
          all_goals
            go_wp2_with fail
            go_meet
            exact ⟨g8, c8, by simp, X8, H8⟩
        case rest =>
          obtain ⟨g8, c8, rfl, X8, H8⟩ := hcut
          clear H6 X6 x0 x1 x2 x3 x4 HQ HD6 al H7 hoa HEC hb7 XD X7 hd
          obtain ⟨x0, x1, x2, x3, x4⟩ := X8.cells
          obtain ⟨q1, q2⟩ := own_capm H8.tree
          have HDO := Lib.hid (l3Do_any wc.heap.size ta tc rs o wc (Nat.le_refl _) (rowsAt_own H8.tree) (tree_fits HT.out) q1 q2 HT.out HOK.out)
          have HT2 := Lib.hid (do_tree HT.out HOK.out)
          have HES2 := Lib.hid (ents_snoc HES.out HE.out)
          have hl2 : (es ++ [(⟨1 + (x : Int), (cn : Int) + 1, o⟩ : EntD)]).length = es.length + 1 := by simp
          go_wp2_with fail
          refine HDO.out.mono ?_
          rintro _ w9 ⟨za, zc, rfl, own9, hzc, hb9⟩
          have H9a := H8.below hb9
          have H9 : GH N b (p + 1 + 40 * (13 - (j - 1))) w w9 g8 c8 (es ++ [⟨1 + (x : Int), (cn : Int) + 1, o⟩]) za zc (doR rs o) mb (13 - (j - 1)) :=
            ⟨H9a.out, H9a.glt, own_mono own9 H8.but.size, H9a.made.up (by omega), H9a.but, H9a.rd.mono (by omega), H9a.lt, H9a.mlt⟩
          have hln : (es ++ [(⟨1 + (x : Int), (cn : Int) + 1, o⟩ : EntD)]).length + (j - 1) ≤ 13 := by rw [hl2]; omega
          clear H9a H8 own9 hb9 X8 x0 x1 x2 x3 x4 HDO
          generalize doR rs o = rs2 at *
          generalize es ++ [(⟨1 + (x : Int), (cn : Int) + 1, o⟩ : EntD)] = es2 at *
          have HL2 := Lib.hid hl2
          clear hl2
          go_wp2
          go_roundw
          case rel => exact ⟨j - 1, g8, c8, es2, za, zc, rs2, by omega, by go_num, by rw [HL2.out], rfl, hln, HT2, HES2, H9⟩
          case measure => simp [intOf]; omega
    · have j1 : ¬ (0 : Int) < (j : Int) := by omega
      obtain rfl : j = 0 := by omega
      have H3 := H2.up (q' := p + 600) (M' := 100) (by omega) (by omega)
      clear H2
      have hl13 : es.length ≤ 13 := by omega
      go_wp2_with fail
      refine (pick_any _ _ _ _ _ H3.rd (by omega) (by omega) (by omega)).mono ?_
      rintro _ w4 ⟨q, q0, q1, rfl, b4, s4, r4⟩
      have H4 := H3.more b4 r4
      clear H3 b4 s4 r4
      by_cases hq0 : q = 0
      · subst hq0
        go_wp2_with fail
        refine (pick_any _ _ _ _ _ H4.rd (by omega) (by omega) (by omega)).mono ?_
        rintro _ w5 ⟨k5, k50, k51, rfl, b5, s5, r5⟩
        have H5 := H4.more b5 r5
        clear H4 b5 s5 r5
        go_wp2_with fail
        refine (pick_any _ _ _ _ _ H5.rd (by omega) (by omega) (by omega)).mono ?_
        rintro _ w6 ⟨k6, k60, k61, rfl, b6, s6, r6⟩
        have H6 := H5.more b6 r6
        clear H5 b6 s6 r6
        go_wp2_with fail
        refine (l71Op_any _ _ _ _ H6.rd (by omega)).mono ?_
        rintro _ w7 ⟨o, hos, rfl, b7, r7⟩
        have H7 := H6.more b7 r7
        clear H6 b7 r7
        have HE : Hid (EntS ⟨1 + k5, 1 + k6, o⟩) := ⟨⟨by (try dsimp only); omega, by (try dsimp only); omega⟩, ⟨by (try dsimp only); omega, by (try dsimp only); omega⟩, hos⟩
        have al : Below w7.heap.size w7 (w7.alloc (.cells #[.int .i64 (1 + k5), .int .i64 (1 + k6), .int .i64 o.kind, .int .i64 o.id, .int .i64 o.up, .int .i64 o.at_, .string o.txt] 64)) := (Below.refl _ _).alloc (Nat.le_refl _) _
        have H8 := H7.below al
        have hoa := H8.out
        have HEC := Lib.hid (elem_cells w7 ⟨1 + k5, 1 + k6, o⟩)
        have hb8 := H8.but.size
        clear hos
        go_wp2_with (at_builtin; refine wpList_append_own _ rfl _ _ 45 rfl w.heap.size 64 i0 (.agg #[.int .i64 0, .int .i64 0, .int .i64 0, .int .i64 0, .int .i64 0, .int .i64 0, .string ⟨#[]⟩]) 7 64 Tryd.underlying45 hi hz0 hz1 hz2 rfl (by decide) _ _ _ rfl hoa ⟨w7.heap.size, 0, none⟩ 1 1 (cellsE [⟨1 + k5, 1 + k6, o⟩]) rfl rfl HEC.out (cellsE_plain _) (by unfold maxLen; omega) (by omega) hb8 ?_; intro v9 w9 own9 grow9 _)
        obtain ⟨g9, c9, rfl, H9, hc9⟩ := H8.append HNW.out own9 grow9
        have HF := Lib.hid (H9.done (q' := p + 1000) (by omega) (by simp; omega) (ents_snoc HES.out HE.out))
        clear own9 grow9 hoa HEC H8 H7 H9 hi hz0 hz1 hz2
        go_wp2
        go_ret
        exact HF.out
      · have hqb : (q == 0) = false := by simpa using hq0
        by_cases hq1 : q = 1
        · subst hq1
          by_cases he0 : 0 < es.length
          · have he0' : (0 : Int) < (es.length : Int) := by omega
            go_wp2_with fail
            refine (pick_any _ _ _ _ _ H4.rd (by omega) (by omega) (by omega)).mono ?_
            rintro _ w5 ⟨k5, k50, k51, rfl, b5, s5, r5⟩
            obtain ⟨i5, rfl⟩ := Int.eq_ofNat_of_zero_le k50
            have H5 := H4.more b5 r5
            clear H4 b5 s5 r5
            go_wp2_with fail
            refine (pick_any _ _ _ _ _ H5.rd (by omega) (by omega) (by omega)).mono ?_
            rintro _ w6 ⟨k6, k60, k61, rfl, b6, s6, r6⟩
            have H6 := H5.more b6 r6
            clear H5 b6 s6 r6
            have i5l : i5 < es.length := by omega
            have i5I : (i5 : Int) < (es.length : Int) := by omega
            obtain ⟨_, _, e6, _, _, c1, _, _, _, _, _⟩ := (entsAt_own H6.out).at_ i5l
            cases e6
            rw [Nat.zero_add] at c1
            have z1 := own_frozenE H6.out (i5 * 7 + 1)
            have HF := Lib.hid (H6.setSeq HNW.out i5l k6 (q' := p + 1000) (by omega) (by omega) HES.out (by omega) (by omega))
            clear H6
            go_wp2
            go_ret
            exact HF.out
          · have he0' : ¬ (0 : Int) < (es.length : Int) := by omega
            have HF := Lib.hid (H4.done (q' := p + 1000) (by omega) (by omega) HES.out)
            clear H4
            go_wp2
            go_ret
            exact HF.out
        · have hqb1 : (q == 1) = false := by simpa using hq1
          have HF := Lib.hid (H4.done (q' := p + 1000) (by omega) (by omega) HES.out)
          clear H4
          go_wp2
          go_ret
          exact HF.out
end Go.Proofs.YtclhjgcapalniaaDoor
/-
  The model's drawings of logs: DrawLogTree, DrawLogSeq, DrawLogOk. What is drawn is said loosely: how long, and in what bounds. Conditions: as each theorem says.
-/
namespace Go.Proofs.YtclhjgcapalniaaDoor
open Go.ChangeShapes Go.WideShapes Go.ChangeAt Go.RowKit Go.Joins

/-- Entries in memory of the call's own. -/
structure Logs (w w' : World) (g oc : Nat) (es : List EntD) : Prop where
  len : es.length ≤ 15
  ents : ∀ i, i < es.length → EntS (eat es i)
  own : w'.ownsRow w.heap.size 64 7 (.slice (some ⟨g, 0, none⟩) es.length oc) es.length (cellsE es)
  lo : w.heap.size ≤ g
  hi : g < w'.heap.size
  low : Below w.heap.size w w'
theorem Logs.fit {w w' : World} {g oc : Nat} {es : List EntD} (h : Logs w w' g oc es) : EntsFit es := ents_fit (by have := h.len; omega) h.ents
theorem Logs.at_ {w w' : World} {g oc : Nat} {es : List EntD} (h : Logs w w' g oc es) : EntsAt w'.heap.size w' (some ⟨g, 0, none⟩) es := entsAt_own h.own
theorem Logs.cap {w w' : World} {g oc : Nat} {es : List EntD} (h : Logs w w' g oc es) : es.length ≤ oc ∧ oc ≤ maxLen := own_capm h.own
theorem Logs.below {w w' w'' : World} {g oc : Nat} {es : List EntD} (h : Logs w w' g oc es) (hb : Below w'.heap.size w' w'') : Logs w w'' g oc es :=
  ⟨h.len, h.ents, own_below h.own hb, h.lo, Nat.lt_of_lt_of_le h.hi hb.size, h.low.trans (hb.mono h.low.size)⟩
theorem logs_of {N b p : Nat} {w w1 w2 : World} {r : Ending} (h : DrewLog N b p w1 r w2) (hb : Below w.heap.size w w1) (hle : w.heap.size ≤ b) : ∃ g oc es, r = .returned (.slice (some ⟨g, 0, none⟩) es.length oc) ∧ Logs w w2 g oc es ∧ w1.heap.size ≤ g ∧ es.length ≤ 14 ∧ Rd N w2 b p := by
  obtain ⟨g, oc, es, rfl, hl, he, ho, h1, h2, h3, h4⟩ := h
  exact ⟨g, oc, es, rfl, ⟨by omega, he, own_mono ho hb.size, Nat.le_trans hb.size h1, h2, hb.trans (h3.below hle hb.size)⟩, h1, hl, h4⟩
theorem Logs.more {w w' w'' : World} {g oc b : Nat} {es : List EntD} (h : Logs w w' g oc es) (hb : But b w'.heap.size w' w'') (hle : w.heap.size ≤ b) (hgb : b < g) : Logs w w'' g oc es := by
  have hB : Below w.heap.size w' w'' := hb.below hle h.low.size
  refine ⟨h.len, h.ents, ?_, h.lo, Nat.lt_of_lt_of_le h.hi hb.size, h.low.trans hB⟩
  obtain ⟨q1, q2⟩ := h.own
  refine ⟨q1, ?_⟩
  rcases q2 with q2 | ⟨g', cap, cur, hv, hg, hh, r⟩
  · exact .inl q2
  · cases hv
    exact .inr ⟨g, oc, cur, rfl, hg, (hb.block g h.hi (by omega)).trans hh, r⟩
def RetLog (w : World) (r : Ending) (w' : World) : Prop := ∃ g oc es, r = .returned (.slice (some ⟨g, 0, none⟩) es.length oc) ∧ Logs w w' g oc es
theorem drawLogTree_any (a : Option Addr) (len cap : Nat) (w : World) (hb : Bytes w a len cap) :
    Calls Tryd.prog 22 #[.slice a len cap] w (RetLog w) := by
  obtain ⟨h1, h2, h3⟩ := hb
  go_enter Tryd.func22, Tryd.ntmps22
  go_wp2_with fail
  refine (l6Open_any w.heap.size _ _ _ _ (Nat.le_refl _) h1 h2 h3).mono ?_
  rintro _ w1 ⟨rfl, b1, s1, r1⟩
  go_wp2_with fail
  refine (l72Log_any _ _ _ _ r1 (by omega) b1.size).mono ?_
  rintro _ w2 hd
  obtain ⟨g, oc, es, rfl, hL, _, _, _⟩ := logs_of hd b1 (Nat.le_refl _)
  clear hd
  go_wp2
  go_ret
  exact ⟨g, oc, es, rfl, hL⟩
def RetLogSeq (w : World) (r : Ending) (w' : World) : Prop := ∃ g oc es who, r = .returned (.tuple #[.slice (some ⟨g, 0, none⟩) es.length oc, .int .i64 who]) ∧ 1 ≤ who ∧ who ≤ 4 ∧ Logs w w' g oc es
end Go.Proofs.YtclhjgcapalniaaDoor
