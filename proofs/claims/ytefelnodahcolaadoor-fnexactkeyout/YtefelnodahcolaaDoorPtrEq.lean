/-
  Go's == and != between two pointers to nodes, each to the first cell of a block of its own. Conditions: the two blocks hold cells, none of them frozen.
-/
import Derived.Test.YtefelnodahcolaaDoorFrame
import Derived.Laws.Pointers
import Derived.LaidEql
import Derived.ChangeKeysEq
namespace Go.Proofs.YtefelnodahcolaaDoor
open Go.ChangeShapes Go.WideShapes Go.ChangeAt Go.RowKit

theorem infoNode : (Tryd.prog.info? 77).map (fun i => i.size) = some 8 := by kernel_rfl
theorem cellsNode : Tryd.prog.cellsOf 77 = 8 := by kernel_rfl
theorem equal_nodes {w : World} {a b : Nat} {r : Bool} (h : (sameAddr ⟨a, 0, none⟩ ⟨b, 0, none⟩).run Tryd.prog w = .ok r w) :
    (Op.equal 63 (.pointer (some ⟨a, 0, none⟩)) (.pointer (some ⟨b, 0, none⟩))).run Tryd.prog w = .ok r w := by
  obtain ⟨i, hi, hs⟩ := Option.map_eq_some_iff.1 infoNode
  have h1 := run_sizeOf (w := w) hi
  rw [cellsNode] at h1
  show (Op.equalIn (9999 + 1) 63 (.pointer (some ⟨a, 0, none⟩)) (.pointer (some ⟨b, 0, none⟩))).run Tryd.prog w = _
  generalize 9999 = d
  unfold Op.equalIn
  simp [run_underlying Tryd.underlying63, h1, h]
theorem same_nodes (w : World) (a : Nat) : (sameAddr ⟨a, 0, none⟩ ⟨a, 0, none⟩).run Tryd.prog w = .ok true w := run_sameAddr_same w _
theorem eql_same (w : World) (a : Nat) : (binOp .eql 63 (.pointer (some ⟨a, 0, none⟩)) (.pointer (some ⟨a, 0, none⟩))).run Tryd.prog w = .ok (.bool true) w := by
  simp only [binOp]
  simp [equal_nodes (same_nodes w a)]
theorem neq_same (w : World) (a : Nat) : (binOp .neq 63 (.pointer (some ⟨a, 0, none⟩)) (.pointer (some ⟨a, 0, none⟩))).run Tryd.prog w = .ok (.bool false) w := by
  simp only [binOp]
  simp [equal_nodes (same_nodes w a)]
theorem neq_other {w : World} {a b : Nat} {ca cb : Array Value} {ta tb : TypeId} (hne : a ≠ b) (ha : w.heap[a]? = some (.cells ca ta (0, 0))) (hb : w.heap[b]? = some (.cells cb tb (0, 0))) :
    (binOp .neq 63 (.pointer (some ⟨a, 0, none⟩)) (.pointer (some ⟨b, 0, none⟩))).run Tryd.prog w = .ok (.bool true) w := by
  simp only [binOp]
  simp [equal_nodes (run_sameAddr_other (P := Tryd.prog) (w := w) (a := ⟨a, 0, none⟩) (b := ⟨b, 0, none⟩) (fun e => by cases e; exact hne rfl) ha hb)]
theorem eql_nil (w : World) (b : Nat) : (binOp .eql 63 (.pointer none) (.pointer (some ⟨b, 0, none⟩))).run Tryd.prog w = .ok (.bool false) w := by
  have : (Op.equal 63 (.pointer none) (.pointer (some ⟨b, 0, none⟩))).run Tryd.prog w = .ok false w := by
    show (Op.equalIn (9999 + 1) 63 (.pointer none) (.pointer (some ⟨b, 0, none⟩))).run Tryd.prog w = _
    generalize 9999 = d
    unfold Op.equalIn
    simp [run_underlying Tryd.underlying63]
  simp only [binOp]
  simp [this]
end Go.Proofs.YtefelnodahcolaaDoor
