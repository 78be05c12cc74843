/-
  The model's drawings of servers: DrawServerSync, DrawServerOk, DrawServerFall. What is drawn is said loosely. Conditions: as each theorem says.
-/
import Derived.Test.YtoofdhooinaneaaDoorJDSrv
namespace Go.Proofs.YtoofdhooinaneaaDoor
open Go.ChangeShapes Go.WideShapes Go.ChangeAt Go.RowKit Go.Joins

/-- What holds while a server is drawn: the reader at block b, the result's box at R. -/
structure DS (N b q R : Nat) (w wx : World) (g oc : Nat) (es : List EntD) : Prop where
  logs : Logs w wx g oc es
  res : Bx wx R 43 #[.slice none 0 0, .int .i64 0, .bool false]
  rd : Rd N wx b q
  lo : w.heap.size ≤ R
  lt : R < b
  bg : b < g
theorem DS.more {N b q q' R : Nat} {w wx wy : World} {g oc : Nat} {es : List EntD} (h : DS N b q R w wx g oc es) (hb : But b wx.heap.size wx wy) (hr : Rd N wy b q') : DS N b q' R w wy g oc es :=
  ⟨h.logs.more hb (Nat.le_trans h.lo (Nat.le_of_lt h.lt)) h.bg, h.res.but hb h.res.lt (by have := h.lt; omega), hr, h.lo, h.lt, h.bg⟩
theorem DS.below {N b q R : Nat} {w wx wy : World} {g oc : Nat} {es : List EntD} (h : DS N b q R w wx g oc es) (hb : Below wx.heap.size wx wy) : DS N b q R w wy g oc es :=
  ⟨h.logs.below hb, h.res.below hb h.res.lt, h.rd.below hb h.rd.2.1, h.lo, h.lt, h.bg⟩
theorem DS.up {N b q q' R : Nat} {w wx : World} {g oc : Nat} {es : List EntD} (h : DS N b q R w wx g oc es) (hq : q ≤ q') : DS N b q' R w wx g oc es := ⟨h.logs, h.res, h.rd.mono hq, h.lo, h.lt, h.bg⟩
theorem Logs.putL {w wx : World} {g oc k B : Nat} {es : List EntD} (h : Logs w wx g oc es) (hB : w.heap.size ≤ B) (hne : g ≠ B) (v : Value) : Logs w (wx.setCell ⟨B, k, none⟩ v) g oc es :=
  ⟨h.len, h.ents, own_putB h.own hne v, h.lo, by have := h.hi; simpa [World.setCell] using this, h.low.setCell (p := ⟨B, k, none⟩) hB v⟩
def SfOk (sf : Int) : Prop := -99 ≤ sf ∧ sf ≤ 99
def RetDS (w : World) (r : Ending) (w' : World) : Prop := ∃ g oc es sf up, r = .returned (.agg #[.slice (some ⟨g, 0, none⟩) es.length oc, .int .i64 sf, .bool up]) ∧ SfOk sf ∧ Logs w w' g oc es
def RetDSi (w : World) (r : Ending) (w' : World) : Prop := ∃ g oc es sf up n, r = .returned (.tuple #[.agg #[.slice (some ⟨g, 0, none⟩) es.length oc, .int .i64 sf, .bool up], .int .i64 n]) ∧ SfOk sf ∧ SfOk n ∧ Logs w w' g oc es
theorem DS.done {N b q R : Nat} {w wx : World} {g oc : Nat} {es : List EntD} (h : DS N b q R w wx g oc es) (v0 v1 v2 : Value) : Logs w (((wx.setCell ⟨R, 0, none⟩ v0).setCell ⟨R, 1, none⟩ v1).setCell ⟨R, 2, none⟩ v2) g oc es := by
  have hne : g ≠ R := by have := h.lt; have := h.bg; omega
  exact ((h.logs.putL h.lo hne v0).putL h.lo hne v1).putL h.lo hne v2
/-- Opened, and a server drawn. -/
theorem ds_of {N b p R : Nat} {w w1 w2 : World} {r : Ending} (h : DrewSrv N b p w1 r w2) (hb : Below w.heap.size w w1) (hR : Bx w1 R 43 #[.slice none 0 0, .int .i64 0, .bool false]) (hlo : w.heap.size ≤ R) (hlt : R < b) (hbw : b < w1.heap.size) : ∃ g oc es sf up, r = .returned (.agg #[.slice (some ⟨g, 0, none⟩) es.length oc, .int .i64 sf, .bool up]) ∧ 0 ≤ sf ∧ sf ≤ 15 ∧ es.length ≤ 14 ∧ DS N b p R w w2 g oc es := by
  obtain ⟨g, oc, es, sf, up, rfl, hl, he, h0, h1, ho, hg1, hg2, h3, h4⟩ := h
  exact ⟨g, oc, es, sf, up, rfl, h0, h1, hl, ⟨⟨by omega, he, own_mono ho hb.size, Nat.le_trans hb.size hg1, hg2, hb.trans (h3.below (by omega) hb.size)⟩, hR.but h3 hR.lt (by omega), h4, hlo, hlt, by omega⟩⟩
end Go.Proofs.YtoofdhooinaneaaDoor
