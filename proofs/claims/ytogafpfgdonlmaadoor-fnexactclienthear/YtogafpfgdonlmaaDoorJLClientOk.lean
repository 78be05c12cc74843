/-
  The walk of the law FnExactClientOk out of the contracts. Conditions: the argument reads as a client; the table 'creators' holds what its initialiser lays.
-/
import Derived.Test.YtogafpfgdonlmaaDoorJCliMark
import Derived.Test.YtogafpfgdonlmaaDoorJCliS1
import Derived.Test.YtogafpfgdonlmaaDoorJCliI1
namespace Go.Proofs.YtogafpfgdonlmaaDoor
open Go.ChangeShapes Go.WideShapes Go.ChangeAt Go.RowKit Go.Joins Go.Deep

theorem cliAt_own {w : World} {c : CliD} {g h : Nat} (hO : OwnC w g (c.base.length * 3) c.base) (hE : OwnEC w h (c.wait.length * 7) c.wait) (hl : c.base.length + c.wait.length ≤ 1048576) : CliAt w.heap.size w c (some ⟨g, 0, none⟩) c.base.length (some ⟨h, 0, none⟩) c.wait.length :=
  ⟨hO.at_ hO.lt, hE.at_ hE.lt, Nat.le_refl _, by unfold maxLen; omega, Nat.le_refl _, by unfold maxLen; omega⟩
theorem cliFit_of {c : CliD} (h : CliFitW c) (hl : c.base.length + c.wait.length ≤ 1048576) : CliFit c := ⟨h.who, h.seen, h.done, h.made, ⟨by omega, h.base⟩, ⟨by omega, h.wait⟩⟩
theorem below_step {n : Nat} {w w1 w2 : World} (h : Below n w w1) (hb : Below w1.heap.size w1 w2) (hn : n ≤ w1.heap.size) : Below n w w2 := h.trans (hb.mono hn)
end Go.Proofs.YtogafpfgdonlmaaDoor
