/-
  What the laws that draw a log and an entry have in common. Conditions: as each theorem says.
-/
import Derived.Test.YtcaoojceeppibaaDoorJDLog4
import Derived.Test.YtcaoojceeppibaaDoorJLpLog
import Derived.Test.YtcaoojceeppibaaDoorGP
import Derived.Test.YtcaoojceeppibaaDoorJPLogSeq
namespace Go.Proofs.YtcaoojceeppibaaDoor
open Go.ChangeShapes Go.WideShapes Go.ChangeAt Go.RowKit Go.Joins

def RetL (res : List EntD) (n : Int) (w : World) (r : Ending) (w' : World) : Prop :=
  ∃ a c, r = .returned (.tuple #[.slice a res.length c, .int .i64 n]) ∧ w'.ownsRow w.heap.size 42 7 (.slice a res.length c) res.length (cellsE res) ∧ Below w.heap.size w w'
theorem addL_len (es : List EntD) (e : EntD) : (addL es e).length ≤ 41 := by
  unfold addL
  cases h : okAdd es e
  · simp
  · have hl : es.length ≤ 40 := by
      have : logB es = true := by
        have h' := h
        unfold okAdd at h'
        simp only [Bool.and_eq_true] at h'; exact h'.1
      exact (logB_to this).2
    simp only [if_true]
    split
    · omega
    · split
      · simp; omega
      · omega
theorem add_one {es : List EntD} {e : EntD} (h : addN es e = 1) : logB es = true ∧ entB e = true ∧ hasE es e = false ∧ nextB es e = true ∧ addL es e = es ++ [e] := by
  cases h1 : okAdd es e
  · rw [(add_no h1).2] at h; cases h
  · cases h2 : hasE es e
    · cases h3 : nextB es e
      · rw [(add_gap h1 h2 h3).2] at h; cases h
      · have h1' := h1
        unfold okAdd at h1'
        simp only [Bool.and_eq_true] at h1'
        exact ⟨h1'.1, h1'.2, rfl, rfl, (add_new h1 h2 h3).1⟩
    · rw [(add_has h1 h2).2] at h; cases h
theorem snoc_fit {es : List EntD} {e : EntD} (h : EntsFit es) (hl : es.length ≤ 40) (he : EFit e) : EntsFit (es ++ [e]) := by
  refine ⟨by simp; omega, fun i hi => ?_⟩
  simp at hi
  by_cases q : i < es.length
  · rw [eat_app_left q]; exact h.2 i q
  · obtain rfl : i = es.length := by omega
    rw [eat_app_last]; exact he
/-- Adding the same entry again finds it. -/
theorem add_again {es : List EntD} {e : EntD} (h1 : logB es = true) (h2 : entB e = true) (h3 : nextB es e = true) : addL (es ++ [e]) e = es ++ [e] ∧ addN (es ++ [e]) e = 0 :=
  add_has (by unfold okAdd; rw [logB_snoc h1 h2 h3, h2]; rfl) (has_snoc es e)
theorem seq_more {es : List EntD} {e : EntD} (h1 : logB es = true) (h2 : entB e = true) (h3 : nextB es e = true) (q : Int) : lseqI (es ++ [e]) q = lseqI es q + (if q = e.who then 1 else 0) := by
  unfold lseqI
  rw [logB_snoc h1 h2 h3, h1, if_pos rfl, if_pos rfl, cnt_snoc]
  by_cases hq : q = e.who
  · subst hq; simp
  · rw [if_neg hq, if_neg (fun r => hq r.symm)]; simp
end Go.Proofs.YtcaoojceeppibaaDoor
