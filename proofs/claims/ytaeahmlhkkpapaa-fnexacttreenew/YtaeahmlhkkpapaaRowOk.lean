/-
  Contracts of RowOk, of the program and of the model, and of what they call on texts: each returns what the plain functions below say. Conditions: the program's table 'creators' holds what its initialiser lays.
-/
import Derived.Test.YtaeahmlhkkpapaaBase
import Derived.Lib.SmallJoins
namespace Go.Proofs.Ytaeahmlhkkpapaa
open Go.ChangeShapes Go.WideShapes Go.ChangeAt Go.RowKit Go.Joins

def okC (c : UInt8) : Bool := decide (97 ≤ (c.toNat : Int) ∧ (c.toNat : Int) ≤ 100)
def textB (s : ByteArray) : Bool := s.data.toList.all okC && decide ((s.size : Int) ≤ 4)
theorem take_snoc (s : ByteArray) (k : Nat) (h : k < s.size) : s.data.toList.take (k + 1) = s.data.toList.take k ++ [s[k]] := by
  rw [List.take_succ_eq_append_getElem (by simpa using h)]; rfl
theorem allTake_succ (s : ByteArray) (k : Nat) (h : k < s.size) (ha : (s.data.toList.take k).all okC = true) (hc : 97 ≤ (s[k].toNat : Int)) (hd : (s[k].toNat : Int) ≤ 100) :
    (s.data.toList.take (k + 1)).all okC = true := by
  rw [take_snoc s k h, List.all_append, ha]
  simp [okC, hc, hd]
theorem textB_bad (s : ByteArray) (k : Nat) (h : k < s.size) (hc : ¬ (97 ≤ (s[k].toNat : Int) ∧ (s[k].toNat : Int) ≤ 100)) : textB s = false := by
  rw [Bool.eq_false_iff]; intro e
  simp only [textB, Bool.and_eq_true, List.all_eq_true] at e
  have := e.1 s[k] (by show s.data[k] ∈ _; simp)
  exact hc (by simpa [okC] using this)
theorem textB_all (s : ByteArray) (k : Nat) (h : s.size ≤ k) (ha : (s.data.toList.take k).all okC = true) : textB s = decide ((s.size : Int) ≤ 4) := by
  rw [List.take_of_length_le (by simpa using h)] at ha
  simp [textB, ha]
theorem textB_long (s : ByteArray) (h : ¬ s.size ≤ 4) : textB s = false := by
  have : ¬ (s.size : Int) ≤ 4 := by omega
  simp [textB, this]

def rowB (id d : Int) (s : ByteArray) : Bool := if rootB id then (d == 0) && s.toList.isEmpty else madeB id && inB d 1 18 && textB s
theorem root_not_made (id : Int) (h : rootB id = true) : madeB id = false := by
  have := (rootB_iff _).1 h
  rw [Bool.eq_false_iff]; intro h; have := (madeB_iff _).1 h; omega
theorem who_root (id : Int) (h : rootB id = true) : whoI id = 0 ∧ whoB id = true := ⟨by simp [whoI, root_not_made id h], by simp [whoB, h]⟩
theorem who_made (id : Int) (h : madeB id = true) : (whoI id == 0) = false ∧ whoB id = true := by
  have := (madeB_iff _).1 h
  refine ⟨?_, by simp [whoB, h]⟩
  simp [whoI, h]; omega
theorem who_none (id : Int) (h : rootB id = false) (h' : madeB id = false) : whoB id = false := by simp [whoB, h, h']
/-! ### the law FnExactRowOk -/
def IsRowArg (i d : Int) (t : ByteArray) : Prop := I64 i ∧ I64 d ∧ t.size ≤ maxLen
end Go.Proofs.Ytaeahmlhkkpapaa
