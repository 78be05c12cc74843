/-
  Contracts of the functions of chapter 1, the program's and the model's: each returns what the plain functions below say, for every argument, and leaves the world as it was. Conditions: the program's table 'creators' holds what its initialiser lays.
-/
import Derived.Test.YtaeahmlhkkpapaaFrame
import Derived.Lib.LaidTab
import Derived.LaidMore
import Derived.IntWalk
import Derived.Lib.Hide
namespace Go.Proofs.Ytaeahmlhkkpapaa
open Go.ChangeShapes Go.WideShapes Go.ChangeAt Go.RowKit

def tabZ : List Int := [-1, 0, 0, 0, -1, -1, -1, -1, -1, -1, -1, 1, 1, 1, 1, 1, 1, -1, -1, -1, -1, 2, 2, 2, 2, 2, 2, -1, -1, -1, -1, 3, 3, 3, 3, 3, 3]
def madeB (id : Int) : Bool := decide ((11 ≤ id ∧ id ≤ 16) ∨ (21 ≤ id ∧ id ≤ 26) ∨ (31 ≤ id ∧ id ≤ 36))
def rootB (id : Int) : Bool := decide (1 ≤ id ∧ id ≤ 3)
def whoB (id : Int) : Bool := rootB id || madeB id
def whoI (id : Int) : Int := if madeB id then id / 10 else 0

theorem madeB_iff (id : Int) : madeB id = true ↔ ((11 ≤ id ∧ id ≤ 16) ∨ (21 ≤ id ∧ id ≤ 26) ∨ (31 ≤ id ∧ id ≤ 36)) := by simp [madeB]
theorem rootB_iff (id : Int) : rootB id = true ↔ (1 ≤ id ∧ id ≤ 3) := by simp [rootB]

theorem tab_all : ∀ i : Fin 37, ((tabZ.getD i.val 0 == -1) = !whoB (i.val : Int)) ∧ (whoB (i.val : Int) = true → tabZ.getD i.val 0 = whoI (i.val : Int)) := by decide +kernel

theorem cells3 : Try.prog.cellsOf 3 = 1 := by kernel_rfl
theorem laidOut : laidOutB Try.prog = true := by kernel_rfl
theorem i64_of_wf' {n : Int} (h : (Lit.int .i64 n).wf = true) : -9223372036854775808 ≤ n ∧ n ≤ 9223372036854775807 := by
  simpa [Lit.wf, IntKind.min, IntKind.max, IntKind.signed, IntKind.bits] using h

/-! ### l6In, l1Root, l1Made -/
def inB (n lo hi : Int) : Bool := decide (lo ≤ n ∧ n ≤ hi)
theorem inB_iff (n lo hi : Int) : inB n lo hi = true ↔ (lo ≤ n ∧ n ≤ hi) := by simp [inB]
theorem rootB_inB (id : Int) : rootB id = inB id 1 3 := rfl
theorem made_inB (id : Int) : madeB id = (inB (id.tdiv 10) 1 3 && inB (id.tmod 10) 1 6) := by
  rw [Bool.eq_iff_iff, Bool.and_eq_true, madeB_iff, inB_iff, inB_iff]
  by_cases h : 0 ≤ id
  · rw [Int.tdiv_eq_ediv_of_nonneg h, Int.tmod_eq_emod_of_nonneg h]; omega
  · have h1 : id.tdiv 10 ≤ 0 := by
      have e := Int.neg_tdiv (a := -id) (b := 10)
      have h3 : 0 ≤ (-id).tdiv 10 := Int.tdiv_nonneg (by omega) (by omega)
      rw [Int.neg_neg] at e
      omega
    omega
/-- The range of a Go int, behind a name. -/
def I64 (n : Int) : Prop := -9223372036854775808 ≤ n ∧ n ≤ 9223372036854775807
theorem i64_of_wf {n : Int} (h : (Lit.int .i64 n).wf = true) : I64 n := i64_of_wf' h
theorem tdiv10_bd (id : Int) (h : I64 id) : -1000000000000000000 ≤ id.tdiv 10 ∧ id.tdiv 10 ≤ 1000000000000000000 := by
  obtain ⟨h1, h2⟩ := h
  by_cases h0 : 0 ≤ id
  · rw [Int.tdiv_eq_ediv_of_nonneg h0]; omega
  · have e := Int.neg_tdiv (a := -id) (b := 10)
    have e2 : (-id).tdiv 10 = (-id) / 10 := Int.tdiv_eq_ediv_of_nonneg (by omega)
    rw [Int.neg_neg] at e
    omega
/-! ### RowMade -/
def madeI (who n : Int) : Int := if inB who 1 3 && inB n 1 6 then 10 * who + n else 0
/-! ### RowWho -/
theorem who_out (id : Int) (h : id < 0 ∨ 37 ≤ id) : whoI id = 0 ∧ whoB id = false := by
  have h2 : madeB id = false := by rw [Bool.eq_false_iff]; intro e; have := (madeB_iff _).1 e; omega
  have h1 : rootB id = false := by rw [Bool.eq_false_iff]; intro e; have := (rootB_iff _).1 e; omega
  exact ⟨by simp [whoI, h2], by simp [whoB, h1, h2]⟩
theorem who_no (id : Int) (h : whoB id = false) : whoI id = 0 := by
  have : madeB id = false := by simp [whoB] at h; exact h.2
  simp [whoI, this]
end Go.Proofs.Ytaeahmlhkkpapaa
