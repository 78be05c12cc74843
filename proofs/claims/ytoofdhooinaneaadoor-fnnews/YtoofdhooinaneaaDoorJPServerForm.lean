/-
  The walk of the law FnServerForm out of the contracts. Conditions: the argument reads as bytes; the table 'creators' holds what its initialiser lays.
-/
import Derived.Test.YtoofdhooinaneaaDoorJDSrv2
import Derived.Test.YtoofdhooinaneaaDoorGV
namespace Go.Proofs.YtoofdhooinaneaaDoor
open Go.ChangeShapes Go.WideShapes Go.ChangeAt Go.RowKit Go.Joins

theorem Logs.tabS {w w' : World} {g oc : Nat} {es : List EntD} (h : Logs w w' g oc es) (ht : Tab w) : Tab w' := ht.below h.low ht.pos
theorem form_over (es : List EntD) (up : Bool) : srvB ⟨es, (es.length : Int) + 1, up⟩ = false := by
  rw [Bool.eq_false_iff]; intro h
  have := (srv_iff.1 h).2.2
  simp only [] at this; omega
theorem form_neg (es : List EntD) (up : Bool) : srvB ⟨es, -1, up⟩ = false := by
  rw [Bool.eq_false_iff]; intro h
  have := (srv_iff.1 h).2.1
  simp only [] at this; omega
theorem form_cut {es : List EntD} {s : Nat} {up : Bool} (h : srvB ⟨es, s, up⟩ = true) : srvB ⟨es.take s, s, up⟩ = true := by
  rw [srv_iff] at h ⊢
  simp only [] at h ⊢
  refine ⟨logB_take h.1 (by omega), by omega, ?_⟩
  rw [List.length_take]; omega
theorem form_new : srvB ⟨[], 0, true⟩ = true := by decide
theorem fit_take {es : List EntD} {k : Nat} (h : EntsFit es) (hk : k ≤ es.length) : EntsFit (es.take k) := by
  refine ⟨by rw [List.length_take]; have := h.1; omega, fun i hi => ?_⟩
  rw [List.length_take] at hi
  rw [eat_take (by omega)]; exact h.2 i (by omega)
end Go.Proofs.YtoofdhooinaneaaDoor
