/-
  Contracts of the model's l2Up, l2Ahead, l2Under. Conditions: the rows lie in memory as a slice of rows.
-/
import Derived.Test.YtaeahmlhkkpapaaTEnd
namespace Go.Proofs.Ytaeahmlhkkpapaa
open Go.ChangeShapes Go.WideShapes Go.ChangeAt Go.RowKit Go.Joins

theorem upAt_hit {rs : List RowD} {i q : Nat} (hq : q < i) (h : ∀ j, q < j → j < i → rdep rs i ≤ rdep rs j) (e : rdep rs q < rdep rs i) : upAt rs i = (rat rs q).id := by
  unfold upAt; rw [lstBelow_mk _ i q hq (by simpa using e) (fun j a b => by simpa using h j a b)]
theorem upAt_none {rs : List RowD} {i : Nat} (h : ∀ j, j < i → rdep rs i ≤ rdep rs j) : upAt rs i = 0 := by
  unfold upAt; rw [lstBelow_mk_none _ i (fun j a => by simpa using h j a)]
theorem ahAt_hit {rs : List RowD} {i q : Nat} (hq : q < i) (h : ∀ j, q < j → j < i → rdep rs i < rdep rs j) (e : rdep rs q = rdep rs i) : ahAt rs i = (rat rs q).id := by
  unfold ahAt; rw [lstBelow_mk _ i q hq (by simp; omega) (fun j a b => by simpa using h j a b)]
  simp [e]
theorem ahAt_stop {rs : List RowD} {i q : Nat} (hq : q < i) (h : ∀ j, q < j → j < i → rdep rs i < rdep rs j) (e : rdep rs q < rdep rs i) : ahAt rs i = 0 := by
  unfold ahAt; rw [lstBelow_mk _ i q hq (by simp; omega) (fun j a b => by simpa using h j a b)]
  simp only
  rw [if_neg (by omega)]
theorem ahAt_none {rs : List RowD} {i : Nat} (h : ∀ j, j < i → rdep rs i < rdep rs j) : ahAt rs i = 0 := by
  unfold ahAt; rw [lstBelow_mk_none _ i (fun j a => by simpa using h j a)]
/-! ### l2Under -/
theorem undB_no1 {rs : List RowD} {id under : Int} (h : ¬ atN rs id < rs.length) : undB rs id under = false := by simp [undB, h]
theorem undB_no2 {rs : List RowD} {id under : Int} (h : ¬ atN rs under < rs.length) : undB rs id under = false := by simp [undB, h]
theorem undB_inB {rs : List RowD} {id under : Int} (h1 : atN rs id < rs.length) (h2 : atN rs under < rs.length) : undB rs id under = inB (atN rs id : Int) (atN rs under : Int) ((enR rs (atN rs under) : Int) - 1) := by
  unfold undB inB
  rw [Bool.eq_iff_iff]
  simp only [h1, h2, decide_true, Bool.true_and, Bool.and_eq_true, decide_eq_true_eq]
  omega
end Go.Proofs.Ytaeahmlhkkpapaa
