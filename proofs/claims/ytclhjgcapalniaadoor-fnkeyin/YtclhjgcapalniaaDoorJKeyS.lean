/-
  The editing commands as plain functions of an outline, and contracts of the model's KeyIn, KeyOut, KeyGone. Conditions: the rows lie in memory as a slice of rows.
-/
import Derived.Test.YtclhjgcapalniaaDoorGA
import Derived.Handy
namespace Go.Proofs.YtclhjgcapalniaaDoor
open Go.ChangeShapes Go.WideShapes Go.ChangeAt Go.RowKit Go.Joins

def kz : OpD := ⟨0, 0, 0, 0, ⟨#[]⟩⟩
def moveO (id up at' : Int) : OpD := ⟨3, id, up, at', ⟨#[]⟩⟩
/-- What a command answers. -/
def keyV (o : OpD) (b : Bool) : Value := .tuple #[.agg #[.int .i64 o.kind, .int .i64 o.id, .int .i64 o.up, .int .i64 o.at_, .string o.txt], .bool b]
def lastK (rs : List RowD) (id : Int) : Int := (kidsL rs id).getD ((kidsL rs id).length - 1) 0
def kinB (rs : List RowD) (id : Int) : Bool := ahB rs id && (ahI rs id != 0)
def kinO (rs : List RowD) (id : Int) : OpD := if kinB rs id then moveO id (ahI rs id) (lastK rs (ahI rs id)) else kz
def koutB (rs : List RowD) (id : Int) : Bool := hasB rs id && madeB id && madeB (upI rs id)
def koutO (rs : List RowD) (id : Int) : OpD := if koutB rs id then moveO id (upI rs (upI rs id)) (upI rs id) else kz
def kgoneB (rs : List RowD) (id : Int) : Bool := treeB rs && madeB id && thereB rs id && !undB rs id 2
def kgoneO (rs : List RowD) (id : Int) : OpD := if kgoneB rs id then moveO id 2 0 else kz

/-- Block B is the box of a change that is returned. -/
def KBox (w : World) (B : Nat) (o : OpD) : Prop := w.heap[B]? = some (.cells #[.int .i64 o.kind, .int .i64 o.id, .int .i64 o.up, .int .i64 o.at_, .string o.txt] 27 (0, 0))
theorem KBox.lt {w : World} {B : Nat} {o : OpD} (h : KBox w B o) : B < w.heap.size := (Array.getElem?_eq_some_iff.1 h).1
theorem KBox.cells {w : World} {B : Nat} {o : OpD} (h : KBox w B o) : w.cell? ⟨B, 0, none⟩ = some (.int .i64 o.kind) ∧ w.cell? ⟨B, 1, none⟩ = some (.int .i64 o.id) ∧ w.cell? ⟨B, 2, none⟩ = some (.int .i64 o.up) ∧ w.cell? ⟨B, 3, none⟩ = some (.int .i64 o.at_) ∧ w.cell? ⟨B, 4, none⟩ = some (.string o.txt) := by
  refine ⟨?_, ?_, ?_, ?_, ?_⟩ <;> simp [World.cell?, show w.heap[B]? = _ from h]
theorem KBox.frozen {w : World} {B : Nat} {o : OpD} (h : KBox w B o) (k : Nat) : w.frozen? ⟨B, k, none⟩ = false := by simp [World.frozen?, show w.heap[B]? = _ from h]
theorem KBox.below {w w' : World} {B n : Nat} {o : OpD} (h : KBox w B o) (hb : Below n w w') (hn : B < n) : KBox w' B o := (hb.block B hn).trans h
theorem KBox.new (w : World) (o : OpD) : KBox (w.alloc (.cells #[.int .i64 o.kind, .int .i64 o.id, .int .i64 o.up, .int .i64 o.at_, .string o.txt] 27)) w.heap.size o := heap_alloc_new _ _
/-- What the result's box is given. -/
def kgiven (w : World) (B : Nat) (o : OpD) : World := ((((w.setCell ⟨B, 0, none⟩ (.int .i64 o.kind)).setCell ⟨B, 1, none⟩ (.int .i64 o.id)).setCell ⟨B, 2, none⟩ (.int .i64 o.up)).setCell ⟨B, 3, none⟩ (.int .i64 o.at_)).setCell ⟨B, 4, none⟩ (.string o.txt)
theorem kgiven_below {n : Nat} (w : World) (B : Nat) (o : OpD) (h : n ≤ B) : Below n w (kgiven w B o) := by
  unfold kgiven
  exact (((((Below.refl _ _).setCell (p := ⟨B, 0, none⟩) h _).setCell (p := ⟨B, 1, none⟩) h _).setCell (p := ⟨B, 2, none⟩) h _).setCell (p := ⟨B, 3, none⟩) h _).setCell (p := ⟨B, 4, none⟩) h _
structure KSt (w : World) (a : Option Addr) (rs : List RowD) (wk : World) : Prop where
  rows : RowsAt wk.heap.size wk a rs
  box : KBox wk w.heap.size kz
  b : Below w.heap.size w wk
theorem KSt.step {w : World} {a : Option Addr} {rs : List RowD} {wk wl : World} (h : KSt w a rs wk) (hb : Below wk.heap.size wk wl) : KSt w a rs wl :=
  ⟨(h.rows.below hb).mono hb.size, h.box.below hb h.box.lt, h.b.trans (hb.mono h.b.size)⟩
theorem KSt.start {B : Nat} {w : World} {a : Option Addr} {rs : List RowD} (hB : B ≤ w.heap.size) (h : RowsAt B w a rs) : KSt w a rs (w.alloc (.cells #[.int .i64 0, .int .i64 0, .int .i64 0, .int .i64 0, .string ⟨#[]⟩] 27)) :=
  have hal : Below w.heap.size w (w.alloc (.cells #[.int .i64 0, .int .i64 0, .int .i64 0, .int .i64 0, .string ⟨#[]⟩] 27)) := (Below.refl _ _).alloc (Nat.le_refl _) _
  ⟨((h.mono hB).below hal).mono hal.size, KBox.new w kz, hal⟩
theorem KSt.post {w : World} {a : Option Addr} {rs : List RowD} {wk : World} (h : KSt w a rs wk) (o : OpD) : Below w.heap.size w (kgiven wk w.heap.size o) := h.b.trans (kgiven_below _ _ _ (Nat.le_refl _))
theorem l11Move_any (id up at' : Int) (w : World) :
    Calls Tryd.prog 42 #[.int .i64 id, .int .i64 up, .int .i64 at'] w (RetBelow (.agg #[.int .i64 3, .int .i64 id, .int .i64 up, .int .i64 at', .string ⟨#[]⟩]) w) := by
  go_enter Tryd.func42, Tryd.ntmps42
  go_wp2
  go_returns
  exact ⟨rfl, by go_grown⟩
end Go.Proofs.YtclhjgcapalniaaDoor
