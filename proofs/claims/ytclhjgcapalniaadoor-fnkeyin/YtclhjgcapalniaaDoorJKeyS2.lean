/-
  Contracts of the model's KeyOut and KeyGone. Conditions: the rows lie in memory as a slice of rows.
-/
import Derived.Test.YtclhjgcapalniaaDoorJKeyS
namespace Go.Proofs.YtclhjgcapalniaaDoor
open Go.ChangeShapes Go.WideShapes Go.ChangeAt Go.RowKit Go.Joins

theorem upAt_I64 {rs : List RowD} (hf : Fit rs) (i : Nat) (hi : i ≤ rs.length) : I64 (upAt rs i) := by
  unfold upAt
  split
  · rename_i j e
    have := (lstBelow_some _ _ _ e).1
    exact (hf.2 j (by omega)).1
  · exact ⟨by decide, by decide⟩
theorem upI_I64 {rs : List RowD} (hf : Fit rs) (id : Int) : I64 (upI rs id) := by
  unfold upI
  split
  · exact upAt_I64 hf _ (atN_le _ _)
  · exact ⟨by decide, by decide⟩
end Go.Proofs.YtclhjgcapalniaaDoor
