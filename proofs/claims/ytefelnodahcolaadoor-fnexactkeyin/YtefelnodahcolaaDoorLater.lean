/-
  Regions that leave their order of evaluation open, whose operations only read and whose callees make memory and turn nothing old: one walk in the order of the text serves every order. Conditions: as each theorem says.
-/
import Derived.Test.YtefelnodahcolaaDoorRowAt
import Derived.Deep.QuietTactic
import Derived.BigQuiet
namespace Go.Proofs.YtefelnodahcolaaDoor
open Go.ChangeShapes Go.WideShapes Go.ChangeAt Go.RowKit Go.Joins

/-- A world that comes behind w: of what lay in w nothing has turned. -/
structure Later (w : World) where
  x : World
  h : Below w.heap.size w x
instance laterNonempty (w : World) : Nonempty (Later w) := ⟨⟨w, Below.refl _ _⟩⟩
theorem wp_region_later {P : Program} {id : Nat} {Q : Exit → Act → World → Prop} {a : Act} {w : World} {l : List Oper} (hm : P.follows .mixedOrders = true) (hB : Region.lexB .any l.toArray = true)
    (h : wpQuiet P l.toArray (fun w' => ∃ u : Later w, w' = u.x) (fun a' => ∀ w', (∃ u : Later w, w' = u.x) → Q .normal a' w') l a) : (Code.region id l.toArray true).wp P Q a w :=
  wp_region_quiet (C := fun w' => ∃ u : Later w, w' = u.x) hm hB ⟨⟨{ w with drawn := w.drawn + 1 }, ⟨rfl, rfl, rfl, Nat.le_refl _, fun _ _ => rfl⟩⟩, rfl⟩ (by simpa using h)
def RetBelow (v : Value) (w : World) (e : Ending) (w' : World) : Prop := e = .returned v ∧ Below w.heap.size w w'
theorem later_of {P : Program} {f : FuncId} {args : Array Value} {w : World} {u : Later w} {v : Value} (h : Calls P f args u.x (RetBelow v u.x)) :
    Calls P f args u.x fun e w'' => e = .returned v ∧ ∃ n : Later w, w'' = n.x :=
  h.mono fun _ w' ⟨he, hb⟩ => ⟨he, ⟨w', u.h.trans (hb.mono u.h.size)⟩, rfl⟩
theorem later_same {P : Program} {f : FuncId} {args : Array Value} {w : World} {u : Later w} {v : Value} (h : Calls P f args u.x fun e w' => e = .returned v ∧ u.x = w') :
    Calls P f args u.x fun e w'' => e = .returned v ∧ ∃ n : Later w, w'' = n.x :=
  h.mono fun _ _ ⟨he, hb⟩ => ⟨he, u, hb.symm⟩
theorem later_cell {w : World} {p : Addr} {v : Value} (h : w.cell? p = some v) (hp : p.block < w.heap.size) (u : Later w) : u.x.cell? p = some v := (u.h.cell hp).trans h
theorem below_drewN {B : Nat} {a w : World} (n : Nat) (h : Below B a w) : Below B a (w.drewN n) := ⟨h.os, h.tape, h.output, h.size, h.block⟩
end Go.Proofs.YtefelnodahcolaaDoor
