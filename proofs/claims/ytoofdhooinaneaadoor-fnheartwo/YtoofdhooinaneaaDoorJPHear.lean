/-
  The walk of the law FnHear out of the contracts. Conditions: the argument reads as bytes; the table 'creators' holds what its initialiser lays.
-/
import Derived.Test.YtoofdhooinaneaaDoorJPServerForm
import Derived.Test.YtoofdhooinaneaaDoorJDSrv3
namespace Go.Proofs.YtoofdhooinaneaaDoor
open Go.ChangeShapes Go.WideShapes Go.ChangeAt Go.RowKit Go.Joins

theorem hear_false {s : SrvD} {e : EntD} (h : hearOk s e = true) (hb : hearB s e = false) : hearS s e = s ∧ (s.up && (addN s.log e == 1)) = false := by
  have q : (s.up && (addN s.log e == 1)) = false := by
    unfold hearB at hb; rw [h] at hb; simpa using hb
  exact ⟨(hear_same h q).1, q⟩
theorem hear_len (es : List EntD) (sf : Int) (up : Bool) (e : EntD) (hl : es.length ≤ 40) : (hearS ⟨es, sf, up⟩ e).log.length ≤ 1048576 := by
  cases h : hearOk ⟨es, sf, up⟩ e
  · rw [(hear_no h).1]; decide
  · rw [(hear_new h).1]
    simp only []
    have := hL_len up es e
    omega
theorem fit_snoc {es : List EntD} {e : EntD} (h : EntsFit es) (hl : es.length ≤ 40) (he : EFit e) : EntsFit (es ++ [e]) := by
  refine ⟨by simp; omega, fun i hi => ?_⟩
  simp at hi
  by_cases q : i < es.length
  · rw [eat_app_left q]; exact h.2 i q
  · obtain rfl : i = es.length := by omega
    rw [eat_app_last]; exact he
def RetLA (AL : List EntD) (an : Int) (w : World) (r : Ending) (w' : World) : Prop := ∃ a c, r = .returned (.tuple #[.slice a AL.length c, .int .i64 an]) ∧ EntsAt w'.heap.size w' a AL ∧ Below w.heap.size w w'
theorem retLA_of {es : List EntD} {e : EntD} {AL : List EntD} {an : Int} (h1 : AL = addL es e) (h2 : an = addN es e) {w : World} {r : Ending} {w' : World} (h : RetAdd es e w r w') : RetLA AL an w r w' := by
  subst h1 h2
  obtain ⟨a, c, rfl, own, hb⟩ := h
  exact ⟨a, c, rfl, entsAt_own own, hb⟩
end Go.Proofs.YtoofdhooinaneaaDoor
