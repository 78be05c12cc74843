/-
  Joined texts, each with its own head: what it holds, and its conditions.
-/
import Derived.Test.YtogafpfgdonlmaaDoorGM
import Derived.Laws.StructEq
import Derived.Lib.Strings
import Derived.OwnWalk
import Derived.Lib.SliceRun
import Derived.Test.YtogafpfgdonlmaaDoorGE

/-
  Contracts of the model's l12Has and of the library's slices.Index, Contains and Clone at entries. Conditions: as each theorem says.
-/
namespace Go.Proofs.YtogafpfgdonlmaaDoor
open Go.ChangeShapes Go.WideShapes Go.ChangeAt Go.RowKit Go.Joins

theorem has_next {es : List EntD} {e : EntD} {k : Nat} (h : hasTo es e k = false) (hs : sameB (eat es k) e = false) : hasTo es e (k + 1) = false := by rw [hasTo_succ, h, hs]; rfl
theorem own_valE {w : World} {base : Nat} {t : TypeId} {size : Nat} {v : Value} {n : Nat} {xs : List Value} (h : w.ownsRow base t size v n xs) : ∃ a cap, v = .slice a n cap ∧ n ≤ cap ∧ cap ≤ maxLen := by
  rcases h.2 with ⟨h1, h0⟩ | ⟨g, cap', cur, hv, hg, hh, h1, h2, _⟩
  · exact ⟨none, 0, by rw [h1, h0], by omega, Nat.zero_le _⟩
  · exact ⟨_, cap', hv, h1, h2⟩
theorem own_blockE {w : World} {base : Nat} {t : TypeId} {size : Nat} {v : Value} {n : Nat} {xs : List Value} (h : w.ownsRow base t size v n xs) : ∀ k, v.ownBlock = some k → base ≤ k := by
  intro k hk
  rcases h.2 with ⟨h1, h0⟩ | ⟨g, cap', cur, hv, hg, hh, h1, h2, _⟩
  · rw [h1] at hk; cases hk
  · rw [hv] at hk; cases hk; exact hg
end Go.Proofs.YtogafpfgdonlmaaDoor
/-
  Contracts of the model's l12Add and LogAdd. Conditions: as each theorem says.
-/
namespace Go.Proofs.YtogafpfgdonlmaaDoor
open Go.ChangeShapes Go.WideShapes Go.ChangeAt Go.RowKit Go.Joins

theorem add_no {es : List EntD} {e : EntD} (h : okAdd es e = false) : addL es e = [] ∧ addN es e = -1 := by simp [addL, addN, h]
theorem add_has {es : List EntD} {e : EntD} (h : okAdd es e = true) (h1 : hasE es e = true) : addL es e = es ∧ addN es e = 0 := by simp [addL, addN, h, h1]
theorem add_gap {es : List EntD} {e : EntD} (h : okAdd es e = true) (h1 : hasE es e = false) (h2 : nextB es e = false) : addL es e = es ∧ addN es e = -1 := by simp [addL, addN, h, h1, h2]
theorem add_new {es : List EntD} {e : EntD} (h : okAdd es e = true) (h1 : hasE es e = false) (h2 : nextB es e = true) : addL es e = es ++ [e] ∧ addN es e = 1 := by simp [addL, addN, h, h1, h2]
theorem elem_cells (w : World) (e : EntD) : ∀ j u, (cellsE [e])[j]? = some u → (w.alloc (.cells #[.int .i64 e.who, .int .i64 e.seq, .int .i64 e.op.kind, .int .i64 e.op.id, .int .i64 e.op.up, .int .i64 e.op.at_, .string e.op.txt] 55)).cell? ((⟨w.heap.size, 0, none⟩ : Addr).add j) = some u := by
  intro j u hu
  rw [addr_add, Nat.zero_add]
  have hj : j < 7 := by
    have := (List.getElem?_eq_some_iff.1 hu).1
    simpa [cellsE] using this
  match j, hj with
  | 0, _ => simpa [cellsE, go_sem] using hu
  | 1, _ => simpa [cellsE, go_sem] using hu
  | 2, _ => simpa [cellsE, go_sem] using hu
  | 3, _ => simpa [cellsE, go_sem] using hu
  | 4, _ => simpa [cellsE, go_sem] using hu
  | 5, _ => simpa [cellsE, go_sem] using hu
  | 6, _ => simpa [cellsE, go_sem] using hu
/-- The region of l12Add that copies a log and puts an entry behind it, and the like: one entry behind a slice of one's own. -/
def AddE (b off cap : Nat) (es : List EntD) (e : EntD) (w : World) (r : Ending) (w' : World) : Prop :=
  Below w.heap.size w w' ∧ ((hasE es e = true ∧ r = .returned (.tuple #[.slice (some ⟨b, off, none⟩) es.length cap, .int .i64 0])) ∨ (hasE es e = false ∧ nextB es e = false ∧ r = .returned (.tuple #[.slice (some ⟨b, off, none⟩) es.length cap, .int .i64 (-1)])) ∨
    (hasE es e = false ∧ nextB es e = true ∧ ∃ a c, r = .returned (.tuple #[.slice a (es.length + 1) c, .int .i64 1]) ∧ w'.ownsRow w.heap.size 55 7 (.slice a (es.length + 1) c) (es.length + 1) (cellsE (es ++ [e]))))
end Go.Proofs.YtogafpfgdonlmaaDoor
/-
  Contract of the model's LogAdd. Conditions: as each theorem says.
-/
namespace Go.Proofs.YtogafpfgdonlmaaDoor
open Go.ChangeShapes Go.WideShapes Go.ChangeAt Go.RowKit Go.Joins

/-- What LogAdd gives: the log behind it, in memory of its own, and the number. -/
def RetAdd (es : List EntD) (e : EntD) (w : World) (r : Ending) (w' : World) : Prop :=
  ∃ a c, r = .returned (.tuple #[.slice a (addL es e).length c, .int .i64 (addN es e)]) ∧ w'.ownsRow w.heap.size 55 7 (.slice a (addL es e).length c) (addL es e).length (cellsE (addL es e)) ∧ Below w.heap.size w w'
theorem retAdd_mk {es l : List EntD} {e : EntD} {n : Int} (h : addL es e = l ∧ addN es e = n) {w w' : World} {a : Option Addr} {k c : Nat} (hk : k = l.length) (ho : w'.ownsRow w.heap.size 55 7 (.slice a k c) k (cellsE l)) (hb : Below w.heap.size w w') : RetAdd es e w (.returned (.tuple #[.slice a k c, .int .i64 n])) w' := by
  obtain ⟨rfl, rfl⟩ := h
  subst hk
  exact ⟨a, c, rfl, ho, hb⟩
end Go.Proofs.YtogafpfgdonlmaaDoor
/-
  Contract of the program's LogAdd. Conditions: as each theorem says.
-/
namespace Go.Proofs.YtogafpfgdonlmaaDoor
open Go.ChangeShapes Go.WideShapes Go.ChangeAt Go.RowKit Go.Joins
open Go.Maps

end Go.Proofs.YtogafpfgdonlmaaDoor
