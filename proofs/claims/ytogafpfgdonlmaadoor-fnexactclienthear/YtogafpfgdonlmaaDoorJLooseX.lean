/-
  What rows and entries keep where only boxes of one other type are written. Conditions: as each theorem says.
-/
import Derived.Test.YtogafpfgdonlmaaDoorJLoose
import Derived.Test.YtogafpfgdonlmaaDoorJCliA
import Derived.Test.YtogafpfgdonlmaaDoorGS
namespace Go.Proofs.YtogafpfgdonlmaaDoor
open Go.ChangeShapes Go.WideShapes Go.ChangeAt Go.RowKit Go.Joins
set_option linter.unusedVariables false

/-- Blocks stay, but that cells of type t may be others. -/
structure ExtT (t : TypeId) (w w' : World) : Prop where
  size : w.heap.size ≤ w'.heap.size
  same : ∀ (k : Nat) (cur : Array Value) (u : TypeId) (z : Nat × Nat), w.heap[k]? = some (.cells cur u z) → u ≠ t → w'.heap[k]? = some (.cells cur u z)
  kept : ∀ (k : Nat) (cur : Array Value) (z : Nat × Nat), w.heap[k]? = some (.cells cur t z) → ∃ cur' : Array Value, w'.heap[k]? = some (.cells cur' t z) ∧ cur'.size = cur.size
theorem blkLt {w : World} {k : Nat} {o : Obj} (h : w.heap[k]? = some o) : k < w.heap.size := (Array.getElem?_eq_some_iff.1 h).1
theorem ExtT.below {t : TypeId} {w w' : World} (h : Below w.heap.size w w') : ExtT t w w' :=
  ⟨h.size, fun k cur u z hk _ => (h.block k (blkLt hk)).trans hk, fun k cur z hk => ⟨cur, (h.block k (blkLt hk)).trans hk, rfl⟩⟩
theorem ExtT.trans {t : TypeId} {u v w : World} (h : ExtT t u v) (k : ExtT t v w) : ExtT t u w :=
  ⟨Nat.le_trans h.size k.size, fun i cur x z hi hx => k.same i cur x z (h.same i cur x z hi hx) hx, fun i cur z hi => by
    obtain ⟨c1, h1, s1⟩ := h.kept i cur z hi
    obtain ⟨c2, h2, s2⟩ := k.kept i c1 z h1
    exact ⟨c2, h2, s2.trans s1⟩⟩
theorem ExtT.set {t : TypeId} {w : World} {b o : Nat} {cur : Array Value} {z : Nat × Nat} (h : w.heap[b]? = some (.cells cur t z)) (v : Value) : ExtT t w (w.setCell ⟨b, o, none⟩ v) := by
  refine ⟨by simp [World.setCell], fun k c u z' hk hu => ?_, fun k c z' hk => ?_⟩
  · have hne : k ≠ b := by
      rintro rfl
      rw [h] at hk; cases hk; exact hu rfl
    exact (Below.heap_setCell _ _ _ _ hne).trans hk
  · by_cases e : k = b
    · subst e
      rw [h] at hk; cases hk
      exact ⟨cur.setIfInBounds o v, by simp [World.setCell, Array.getElem?_modify, h], by simp⟩
    · exact ⟨c, (Below.heap_setCell _ _ _ _ e).trans hk, rfl⟩
theorem rowIs_ext {w w' : World} {g C : Nat} {u t : TypeId} {f : Nat → Value} (h : w.rowIs g u C f) (he : ExtT t w w') (hu : u ≠ t) : w'.rowIs g u C f := by
  obtain ⟨c, h1, h2, h3⟩ := h
  exact ⟨c, he.same g c u _ h1 hu, h2, h3⟩
theorem OwnC.ext {w w' : World} {g C : Nat} {rs : List RowD} {t : TypeId} (h : OwnC w g C rs) (he : ExtT t w w') (hu : 82 ≠ t) : OwnC w' g C rs := by
  obtain ⟨f, h1, h2⟩ := h; exact ⟨f, rowIs_ext h1 he hu, h2⟩
theorem OwnEC.ext {w w' : World} {g C : Nat} {es : List EntD} {t : TypeId} (h : OwnEC w g C es) (he : ExtT t w w') (hu : 55 ≠ t) : OwnEC w' g C es := by
  obtain ⟨f, h1, h2⟩ := h; exact ⟨f, rowIs_ext h1 he hu, h2⟩
theorem Got.ext {base : Nat} {w w' : World} {a : Option Addr} {rs : List RowD} {t : TypeId} (h : Got base w a rs) (he : ExtT t w w') (hu : 82 ≠ t) : Got base w' a rs := by
  rcases h with h | ⟨g, C, h1, h2, h3⟩
  · exact .inl h
  · exact .inr ⟨g, C, h1, h2, h3.ext he hu⟩
theorem GotE.ext {base : Nat} {w w' : World} {a : Option Addr} {es : List EntD} {t : TypeId} (h : GotE base w a es) (he : ExtT t w w') (hu : 55 ≠ t) : GotE base w' a es := by
  rcases h with h | ⟨g, C, h1, h2, h3⟩
  · exact .inl h
  · exact .inr ⟨g, C, h1, h2, h3.ext he hu⟩
theorem CliGot.ext {base : Nat} {w w' : World} {c : CliD} {ba wa : Option Addr} {bc wc : Nat} {t : TypeId} (h : CliGot base w c ba bc wa wc) (he : ExtT t w w') (hu : 82 ≠ t) (hv : 55 ≠ t) : CliGot base w' c ba bc wa wc :=
  ⟨h.rows.ext he hu, h.ents.ext he hv, h.bl, h.bm, h.wl, h.wm⟩
/-- A box of a type, whatever it holds. -/
def BxAny (w : World) (b n : Nat) (t : TypeId) : Prop := ∃ cs, Bx w b t cs ∧ cs.size = n
theorem BxAny.ext {w w' : World} {b n : Nat} {t : TypeId} (h : BxAny w b n t) (he : ExtT t w w') : BxAny w' b n t := by
  obtain ⟨cs, h1, h2⟩ := h
  obtain ⟨c, h3, h4⟩ := he.kept b cs _ h1
  exact ⟨c, h3, h4.trans h2⟩
theorem ExtT.set6 {t : TypeId} {w : World} {b : Nat} {cs : Array Value} (h : Bx w b t cs) (v0 v1 v2 v3 v4 v5 : Value) : ExtT t w ((((((w.setCell ⟨b, 0, none⟩ v0).setCell ⟨b, 1, none⟩ v1).setCell ⟨b, 2, none⟩ v2).setCell ⟨b, 3, none⟩ v3).setCell ⟨b, 4, none⟩ v4).setCell ⟨b, 5, none⟩ v5) :=
  (((((ExtT.set h v0).trans (ExtT.set (h.put 0 v0) v1)).trans (ExtT.set ((h.put 0 v0).put 1 v1) v2)).trans (ExtT.set (((h.put 0 v0).put 1 v1).put 2 v2) v3)).trans (ExtT.set ((((h.put 0 v0).put 1 v1).put 2 v2).put 3 v3) v4)).trans (ExtT.set (((((h.put 0 v0).put 1 v1).put 2 v2).put 3 v3).put 4 v4) v5)
theorem Bx.sixC {w : World} {b : Nat} {t : TypeId} {cs : Array Value} (h : Bx w b t cs) (hs : cs.size = 6) : ∃ c0 c1 c2 c3 c4 c5, Bx w b t #[c0, c1, c2, c3, c4, c5] := by
  obtain ⟨l⟩ := cs
  match l, hs with
  | [c0, c1, c2, c3, c4, c5], _ => exact ⟨c0, c1, c2, c3, c4, c5, h⟩
/-- Which worlds may follow at an operation: at the store, boxes of type t may be written, else nothing. -/
def XAt (s : Nat) (t : TypeId) (i : Nat) (w w' : World) : Prop := (i ≠ s → Below w.heap.size w w') ∧ ExtT t w w'
theorem XAt.of {s i : Nat} {t : TypeId} {w w' : World} (h : Below w.heap.size w w') : XAt s t i w w' := ⟨fun _ => h, .below h⟩
end Go.Proofs.YtogafpfgdonlmaaDoor
