/-
  An argument that is a slice of rows, opened; the laws' own helpers szRowS, toRowS, eqRow, eqRowS. Conditions: as each theorem says.
-/
import Derived.Test.YtiigkjpabbgnpaaDoorTMem
import Derived.Deep.Slices
import Derived.Deep.Strs
import Derived.Deep.Fields
import Derived.Deep.OwnRows
import Derived.ChangeSame
namespace Go.Proofs.YtiigkjpabbgnpaaDoor
open Go.ChangeShapes Go.WideShapes Go.ChangeAt Go.RowKit Go.Joins

def FitW (rs : List RowD) : Prop := ∀ i, i < rs.length → I64 (rat rs i).id ∧ I64 (rat rs i).dep ∧ (rat rs i).txt.size ≤ maxLen
def CellsR (w : World) (b o : Nat) (r : RowD) : Prop := w.cell? ⟨b, o, none⟩ = some (.int .i64 r.id) ∧ w.cell? ⟨b, o + 1, none⟩ = some (.int .i64 r.dep) ∧ w.cell? ⟨b, o + 2, none⟩ = some (.string r.txt)
theorem rat_map (f : Nat → RowD) (n i : Nat) (h : i < n) : rat ((List.range n).map f) i = f i := by simp [rat, h]
theorem addr_add (b o n : Nat) : (⟨b, o, none⟩ : Addr).add n = ⟨b, o + n, none⟩ := by
  unfold Addr.add; split <;> simp_all
theorem cellsInt1 : Tryd.prog.cellsOf 3 = 1 := by kernel_rfl
theorem cellsStr1 : Tryd.prog.cellsOf 9 = 1 := by kernel_rfl
/-! ### szRowS -/
def Sized (rs : List RowD) (w : World) (e : Ending) (w' : World) : Prop := ∃ z : Int, e = .returned (.int .i64 z) ∧ (z < 0 ∨ (0 ≤ z ∧ rs.length ≤ 1048576)) ∧ Below w.heap.size w w'
end Go.Proofs.YtiigkjpabbgnpaaDoor
