/-
  spec.DrawOpWhere: some outline and some change, in bounds. Conditions: the code reads as bytes.
-/
import Derived.Test.YtklefdhjfadhpaaDoorJDrawOp
namespace Go.Proofs.YtklefdhjfadhpaaDoor
open Go.ChangeShapes Go.WideShapes Go.ChangeAt Go.RowKit Go.Joins

/-- What holds between two drawings: the reader lies in block b, the result's box is block B, the change's box block C. -/
structure WH (N b p B C base : Nat) (w0 w : World) (a : Option Addr) (cap : Nat) (rs : List RowD) (o : OpD) : Prop where
  hunt : Hunt N b p base w0 w a cap rs
  res : OBox w B oz
  box : OBox w C o
  ok : OpS o
theorem WH.more {N b p q B C base : Nat} {w0 w w' : World} {a : Option Addr} {cap : Nat} {rs : List RowD} {o : OpD} (h : WH N b p B C base w0 w a cap rs o) (hb : But b w.heap.size w w') (hr : Rd N w' b q) (h1 : B ≠ b) (h2 : C ≠ b) : WH N b q B C base w0 w' a cap rs o :=
  ⟨h.hunt.more hb hr, h.res.but hb h.res.lt h1, h.box.but hb h.box.lt h2, h.ok⟩
theorem WH.below {N b p B C base : Nat} {w0 w w' : World} {a : Option Addr} {cap : Nat} {rs : List RowD} {o : OpD} (h : WH N b p B C base w0 w a cap rs o) (hb : Below w.heap.size w w') : WH N b p B C base w0 w' a cap rs o := ⟨h.hunt.below hb, h.res.below hb h.res.lt, h.box.below hb h.box.lt, h.ok⟩
theorem WH.rd {N b p q B C base : Nat} {w0 w : World} {a : Option Addr} {cap : Nat} {rs : List RowD} {o : OpD} (h : WH N b p B C base w0 w a cap rs o) (hq : p ≤ q) : WH N b q B C base w0 w a cap rs o := ⟨h.hunt.rd hq, h.res, h.box, h.ok⟩
theorem Hunt.set {N b p base C k g off cap : Nat} {w0 w : World} {v : Value} {rs : List RowD} (h : Hunt N b p base w0 w (some ⟨g, off, none⟩) cap rs) (hC : base ≤ C) (hg : g ≠ C) : Hunt N b p base w0 (w.setCell ⟨C, k, none⟩ v) (some ⟨g, off, none⟩) cap rs := by
  obtain ⟨h1, h2, h3, h4, h5⟩ := h
  have hB : Below base w (w.setCell ⟨C, k, none⟩ v) := (Below.refl _ _).setCell (p := ⟨C, k, none⟩) hC _
  exact ⟨h1.set hg, h2.trans (But.of_below hB), h3.below hB h4, h4, Nat.le_trans h5 hB.size⟩
theorem given_box {w : World} {C : Nat} {o o' : OpD} (h : OBox w C o) : OBox (given w C o') C o' := by
  have := ((((h.set0 o'.kind).set1 o'.id).set2 o'.up).set3 o'.at_).set4 o'.txt
  exact this
theorem given_other {w : World} {B C : Nat} {o o' : OpD} (h : OBox w B o) (hne : B ≠ C) : OBox (given w C o') B o := by
  unfold given OBox
  rw [Below.heap_setCell _ _ _ _ hne, Below.heap_setCell _ _ _ _ hne, Below.heap_setCell _ _ _ _ hne, Below.heap_setCell _ _ _ _ hne, Below.heap_setCell _ _ _ _ hne]
  exact h
theorem WH.put {N b p B C base cap g off : Nat} {w0 w : World} {rs : List RowD} {o o' : OpD} (h : Hunt N b p base w0 w (some ⟨g, off, none⟩) cap rs) (hC : base ≤ C) (hg : g ≠ C) (hr : OBox w B oz) (hb : OBox w C o) (hne : B ≠ C) (ho : OpS o') : WH N b p B C base w0 (given w C o') (some ⟨g, off, none⟩) cap rs o' := by
  refine ⟨?_, given_other hr hne, given_box hb, ho⟩
  unfold given
  exact ((((h.set hC hg).set hC hg).set hC hg).set hC hg).set hC hg
theorem WH.drew {N b p C base cap : Nat} {w w1 wx : World} {a : Option Addr} {rs : List RowD} {o : OpD} (h : WH N b p w.heap.size C base w1 wx a cap rs o) (hb : Below w.heap.size w w1) (hlt : w.heap.size < base) (hN : N = w.heap.size) (hbl : w.heap.size ≤ b) (hbs : base = w1.heap.size) : DrewDo w (.returned (.tuple #[.slice a rs.length cap, .agg #[.int .i64 o.kind, .int .i64 o.id, .int .i64 o.up, .int .i64 o.at_, .string o.txt]])) (given wx w.heap.size o) := by
  subst hN hbs
  obtain ⟨⟨h1, h2, h3, h4, h5⟩, h6, h7, h8⟩ := h
  obtain ⟨g, off, rfl, hg1, hg2, _⟩ := id h1
  have gne : g ≠ w.heap.size := by omega
  have hB : Below w.heap.size wx (given wx w.heap.size o) := by
    unfold given
    exact (((((Below.refl _ _).setCell (p := ⟨w.heap.size, 0, none⟩) (Nat.le_refl _) _).setCell (p := ⟨w.heap.size, 1, none⟩) (Nat.le_refl _) _).setCell (p := ⟨w.heap.size, 2, none⟩) (Nat.le_refl _) _).setCell (p := ⟨w.heap.size, 3, none⟩) (Nat.le_refl _) _).setCell (p := ⟨w.heap.size, 4, none⟩) (Nat.le_refl _) _
  refine ⟨_, cap, rs, o, h8, rfl, ?_, (hb.trans (h2.below hbl (by omega))).trans hB⟩
  unfold given
  exact (((((h1.base (by omega)).set gne).set gne).set gne).set gne).set gne
end Go.Proofs.YtklefdhjfadhpaaDoor
