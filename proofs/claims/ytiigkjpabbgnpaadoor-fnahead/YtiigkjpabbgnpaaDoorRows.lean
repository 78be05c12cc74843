/-
  NARROWER THAN 'FOR EVERY INPUT', by the rows' own cells (each row's printed sentence says how): FnTreeForm: laid · FnTreeUp: laid · FnTreeKids: laid · FnTreeBelow: laid · FnAhead: laid · FnKidsAll: laid · FnTreeUnder: laid · FnDeep: laid · FnUnderThree: laid.
  DERIVED. THE GIVEN ROWS OF THIS SEAT. 9 by the template 'for every input the law returns true; each argument reads behind the call as it read before'; 0 by the template 'total and deterministic' (their statements: YtiigkjpabbgnpaaDoorTotals.lean).
  GIVEN WITH THE SEED: the statements are not yours to turn. If you find one false, say at which input.
  Laid BY PROGRAM, IN A SANDBOX (cutbox-rows.mjs): the forced cells as the released guide's own fill.sh prints them over the translation 823b28964580f3f3… (all of the seat's roots in one cut). By AI agents, Wed Nov 11 2026. No macro, syntax, notation, axiom, sorry.
-/
import Derived.Test.YtiigkjpabbgnpaaDoorChecked
import GoSem.Claim
import GoSem.ClaimJoined
import GoSem.ClaimMapViews
import Derived.JoinedTies
import Derived.KernelRfl
namespace Go.Proofs.YtiigkjpabbgnpaaDoor
/- THE CELL 'sum', in the pinned program and in every row, IS THE sha256 OF THE DUMP (.gsa) THAT YtiigkjpabbgnpaaDoorProg.lean LOADS. Nothing in Lean hashes anything: it is a label: what it is worth is what the hold of that sum in a sandbox is worth. -/
noncomputable def Tryd.pinned : Pinned := { name := "ytiigkjpabbgnpaadoor", sum := "823b28964580f3f393937fc5985c7b47d1cc9c35453cc686d44aeabf98c2692d", checked := Tryd.checked }
namespace Rows
def none {H : Type} : Left H := { results := [], args := [] }

/- WHAT THE LISTED PACKAGE-LEVEL VARIABLES READ AS WHEN THE CALL BEGINS. Each datum BY PROGRAM (the guide's laid-datum.mjs) off the statement by which the dump's own 'gosem.cut.vars' lays the variable. In a bare row this is a premise. The card (YtiigkjpabbgnpaaDoorCards.lean) ties it to the program's text. -/
def laid_loop_example_plashet_impl_creators {H : Type} : DataW H := .agg [.lit (.int .i64 (-1)), .lit (.int .i64 0), .lit (.int .i64 0), .lit (.int .i64 0), .lit (.int .i64 (-1)), .lit (.int .i64 (-1)), .lit (.int .i64 (-1)), .lit (.int .i64 (-1)), .lit (.int .i64 (-1)), .lit (.int .i64 (-1)), .lit (.int .i64 (-1)), .lit (.int .i64 1), .lit (.int .i64 1), .lit (.int .i64 1), .lit (.int .i64 1), .lit (.int .i64 1), .lit (.int .i64 1), .lit (.int .i64 (-1)), .lit (.int .i64 (-1)), .lit (.int .i64 (-1)), .lit (.int .i64 (-1)), .lit (.int .i64 2), .lit (.int .i64 2), .lit (.int .i64 2), .lit (.int .i64 2), .lit (.int .i64 2), .lit (.int .i64 2), .lit (.int .i64 (-1)), .lit (.int .i64 (-1)), .lit (.int .i64 (-1)), .lit (.int .i64 (-1)), .lit (.int .i64 3), .lit (.int .i64 3), .lit (.int .i64 3), .lit (.int .i64 3), .lit (.int .i64 3), .lit (.int .i64 3)]

/-- 'laws.FnTreeForm': WHATEVER THE INPUT: true; the input reads as it did. -/
def fnTreeFormSpec : ChangeSpec := { name := "fnTreeForm", vars := ["loop.example/plashet/impl.creators"], fn := fun _ => fun
  | [d1, d2, g1] => { results := [.lit (.bool true)], args := [d1, d2], vars := [g1] }
  | _ => none }
def fnTreeFormRow : OpenClaim := { program := "ytiigkjpabbgnpaadoor", sum := "823b28964580f3f393937fc5985c7b47d1cc9c35453cc686d44aeabf98c2692d", func := "loop.example/plashet/laws.FnTreeForm", spec := "fnTreeForm", unfollowed := true, recurses := true, named := ["loop.example/plashet/impl.creators"], apart := false, laid := [("loop.example/plashet/impl.creators", laid_loop_example_plashet_impl_creators)] }
def FnTreeFormSaid : Prop := fnTreeFormRow.holds Tryd.pinned (OpenSpec.ofChange fnTreeFormSpec)

/-- ITS FALSE NEIGHBOUR: 'it returns false'. Refute it at one input. -/
def fnTreeFormWrong : ChangeSpec := { name := "fnTreeForm", vars := ["loop.example/plashet/impl.creators"], fn := fun _ => fun
  | [d1, d2, g1] => { results := [.lit (.bool false)], args := [d1, d2], vars := [g1] }
  | _ => none }
def FnTreeFormWrongFalsely : Prop := fnTreeFormRow.holds Tryd.pinned (OpenSpec.ofChange fnTreeFormWrong)

/-- 'laws.FnTreeUp': WHATEVER THE INPUT: true; the input reads as it did. -/
def fnTreeUpSpec : ChangeSpec := { name := "fnTreeUp", vars := ["loop.example/plashet/impl.creators"], fn := fun _ => fun
  | [d, g1] => { results := [.lit (.bool true)], args := [d], vars := [g1] }
  | _ => none }
def fnTreeUpRow : OpenClaim := { program := "ytiigkjpabbgnpaadoor", sum := "823b28964580f3f393937fc5985c7b47d1cc9c35453cc686d44aeabf98c2692d", func := "loop.example/plashet/laws.FnTreeUp", spec := "fnTreeUp", unfollowed := true, recurses := true, named := ["loop.example/plashet/impl.creators"], apart := false, laid := [("loop.example/plashet/impl.creators", laid_loop_example_plashet_impl_creators)] }
def FnTreeUpSaid : Prop := fnTreeUpRow.holds Tryd.pinned (OpenSpec.ofChange fnTreeUpSpec)

/-- ITS FALSE NEIGHBOUR: 'it returns false'. Refute it at one input. -/
def fnTreeUpWrong : ChangeSpec := { name := "fnTreeUp", vars := ["loop.example/plashet/impl.creators"], fn := fun _ => fun
  | [d, g1] => { results := [.lit (.bool false)], args := [d], vars := [g1] }
  | _ => none }
def FnTreeUpWrongFalsely : Prop := fnTreeUpRow.holds Tryd.pinned (OpenSpec.ofChange fnTreeUpWrong)

/-- 'laws.FnTreeKids': WHATEVER THE INPUT: true; the input reads as it did. -/
def fnTreeKidsSpec : ChangeSpec := { name := "fnTreeKids", vars := ["loop.example/plashet/impl.creators"], fn := fun _ => fun
  | [d, g1] => { results := [.lit (.bool true)], args := [d], vars := [g1] }
  | _ => none }
def fnTreeKidsRow : OpenClaim := { program := "ytiigkjpabbgnpaadoor", sum := "823b28964580f3f393937fc5985c7b47d1cc9c35453cc686d44aeabf98c2692d", func := "loop.example/plashet/laws.FnTreeKids", spec := "fnTreeKids", unfollowed := true, recurses := true, named := ["loop.example/plashet/impl.creators"], apart := false, laid := [("loop.example/plashet/impl.creators", laid_loop_example_plashet_impl_creators)] }
def FnTreeKidsSaid : Prop := fnTreeKidsRow.holds Tryd.pinned (OpenSpec.ofChange fnTreeKidsSpec)

/-- ITS FALSE NEIGHBOUR: 'it returns false'. Refute it at one input. -/
def fnTreeKidsWrong : ChangeSpec := { name := "fnTreeKids", vars := ["loop.example/plashet/impl.creators"], fn := fun _ => fun
  | [d, g1] => { results := [.lit (.bool false)], args := [d], vars := [g1] }
  | _ => none }
def FnTreeKidsWrongFalsely : Prop := fnTreeKidsRow.holds Tryd.pinned (OpenSpec.ofChange fnTreeKidsWrong)

/-- 'laws.FnTreeBelow': WHATEVER THE INPUT: true; the input reads as it did. -/
def fnTreeBelowSpec : ChangeSpec := { name := "fnTreeBelow", vars := ["loop.example/plashet/impl.creators"], fn := fun _ => fun
  | [d, g1] => { results := [.lit (.bool true)], args := [d], vars := [g1] }
  | _ => none }
def fnTreeBelowRow : OpenClaim := { program := "ytiigkjpabbgnpaadoor", sum := "823b28964580f3f393937fc5985c7b47d1cc9c35453cc686d44aeabf98c2692d", func := "loop.example/plashet/laws.FnTreeBelow", spec := "fnTreeBelow", unfollowed := true, recurses := true, named := ["loop.example/plashet/impl.creators"], apart := false, laid := [("loop.example/plashet/impl.creators", laid_loop_example_plashet_impl_creators)] }
def FnTreeBelowSaid : Prop := fnTreeBelowRow.holds Tryd.pinned (OpenSpec.ofChange fnTreeBelowSpec)

/-- ITS FALSE NEIGHBOUR: 'it returns false'. Refute it at one input. -/
def fnTreeBelowWrong : ChangeSpec := { name := "fnTreeBelow", vars := ["loop.example/plashet/impl.creators"], fn := fun _ => fun
  | [d, g1] => { results := [.lit (.bool false)], args := [d], vars := [g1] }
  | _ => none }
def FnTreeBelowWrongFalsely : Prop := fnTreeBelowRow.holds Tryd.pinned (OpenSpec.ofChange fnTreeBelowWrong)

/-- 'laws.FnAhead': WHATEVER THE INPUT: true; the input reads as it did. -/
def fnAheadSpec : ChangeSpec := { name := "fnAhead", vars := ["loop.example/plashet/impl.creators"], fn := fun _ => fun
  | [d, g1] => { results := [.lit (.bool true)], args := [d], vars := [g1] }
  | _ => none }
def fnAheadRow : OpenClaim := { program := "ytiigkjpabbgnpaadoor", sum := "823b28964580f3f393937fc5985c7b47d1cc9c35453cc686d44aeabf98c2692d", func := "loop.example/plashet/laws.FnAhead", spec := "fnAhead", unfollowed := true, recurses := true, named := ["loop.example/plashet/impl.creators"], apart := false, laid := [("loop.example/plashet/impl.creators", laid_loop_example_plashet_impl_creators)] }
def FnAheadSaid : Prop := fnAheadRow.holds Tryd.pinned (OpenSpec.ofChange fnAheadSpec)

/-- ITS FALSE NEIGHBOUR: 'it returns false'. Refute it at one input. -/
def fnAheadWrong : ChangeSpec := { name := "fnAhead", vars := ["loop.example/plashet/impl.creators"], fn := fun _ => fun
  | [d, g1] => { results := [.lit (.bool false)], args := [d], vars := [g1] }
  | _ => none }
def FnAheadWrongFalsely : Prop := fnAheadRow.holds Tryd.pinned (OpenSpec.ofChange fnAheadWrong)

/-- 'laws.FnKidsAll': WHATEVER THE INPUT: true; the input reads as it did. -/
def fnKidsAllSpec : ChangeSpec := { name := "fnKidsAll", vars := ["loop.example/plashet/impl.creators"], fn := fun _ => fun
  | [d, g1] => { results := [.lit (.bool true)], args := [d], vars := [g1] }
  | _ => none }
def fnKidsAllRow : OpenClaim := { program := "ytiigkjpabbgnpaadoor", sum := "823b28964580f3f393937fc5985c7b47d1cc9c35453cc686d44aeabf98c2692d", func := "loop.example/plashet/laws.FnKidsAll", spec := "fnKidsAll", unfollowed := true, recurses := true, named := ["loop.example/plashet/impl.creators"], apart := false, laid := [("loop.example/plashet/impl.creators", laid_loop_example_plashet_impl_creators)] }
def FnKidsAllSaid : Prop := fnKidsAllRow.holds Tryd.pinned (OpenSpec.ofChange fnKidsAllSpec)

/-- ITS FALSE NEIGHBOUR: 'it returns false'. Refute it at one input. -/
def fnKidsAllWrong : ChangeSpec := { name := "fnKidsAll", vars := ["loop.example/plashet/impl.creators"], fn := fun _ => fun
  | [d, g1] => { results := [.lit (.bool false)], args := [d], vars := [g1] }
  | _ => none }
def FnKidsAllWrongFalsely : Prop := fnKidsAllRow.holds Tryd.pinned (OpenSpec.ofChange fnKidsAllWrong)

/-- 'laws.FnTreeUnder': WHATEVER THE INPUT: true; the input reads as it did. -/
def fnTreeUnderSpec : ChangeSpec := { name := "fnTreeUnder", vars := ["loop.example/plashet/impl.creators"], fn := fun _ => fun
  | [d, g1] => { results := [.lit (.bool true)], args := [d], vars := [g1] }
  | _ => none }
def fnTreeUnderRow : OpenClaim := { program := "ytiigkjpabbgnpaadoor", sum := "823b28964580f3f393937fc5985c7b47d1cc9c35453cc686d44aeabf98c2692d", func := "loop.example/plashet/laws.FnTreeUnder", spec := "fnTreeUnder", unfollowed := true, recurses := true, named := ["loop.example/plashet/impl.creators"], apart := false, laid := [("loop.example/plashet/impl.creators", laid_loop_example_plashet_impl_creators)] }
def FnTreeUnderSaid : Prop := fnTreeUnderRow.holds Tryd.pinned (OpenSpec.ofChange fnTreeUnderSpec)

/-- ITS FALSE NEIGHBOUR: 'it returns false'. Refute it at one input. -/
def fnTreeUnderWrong : ChangeSpec := { name := "fnTreeUnder", vars := ["loop.example/plashet/impl.creators"], fn := fun _ => fun
  | [d, g1] => { results := [.lit (.bool false)], args := [d], vars := [g1] }
  | _ => none }
def FnTreeUnderWrongFalsely : Prop := fnTreeUnderRow.holds Tryd.pinned (OpenSpec.ofChange fnTreeUnderWrong)

/-- 'laws.FnDeep': WHATEVER THE INPUT: true; the input reads as it did. -/
def fnDeepSpec : ChangeSpec := { name := "fnDeep", vars := ["loop.example/plashet/impl.creators"], fn := fun _ => fun
  | [d, g1] => { results := [.lit (.bool true)], args := [d], vars := [g1] }
  | _ => none }
def fnDeepRow : OpenClaim := { program := "ytiigkjpabbgnpaadoor", sum := "823b28964580f3f393937fc5985c7b47d1cc9c35453cc686d44aeabf98c2692d", func := "loop.example/plashet/laws.FnDeep", spec := "fnDeep", unfollowed := true, recurses := true, named := ["loop.example/plashet/impl.creators"], apart := false, laid := [("loop.example/plashet/impl.creators", laid_loop_example_plashet_impl_creators)] }
def FnDeepSaid : Prop := fnDeepRow.holds Tryd.pinned (OpenSpec.ofChange fnDeepSpec)

/-- ITS FALSE NEIGHBOUR: 'it returns false'. Refute it at one input. -/
def fnDeepWrong : ChangeSpec := { name := "fnDeep", vars := ["loop.example/plashet/impl.creators"], fn := fun _ => fun
  | [d, g1] => { results := [.lit (.bool false)], args := [d], vars := [g1] }
  | _ => none }
def FnDeepWrongFalsely : Prop := fnDeepRow.holds Tryd.pinned (OpenSpec.ofChange fnDeepWrong)

/-- 'laws.FnUnderThree': WHATEVER THE INPUT: true; the input reads as it did. -/
def fnUnderThreeSpec : ChangeSpec := { name := "fnUnderThree", vars := ["loop.example/plashet/impl.creators"], fn := fun _ => fun
  | [d1, d2, g1] => { results := [.lit (.bool true)], args := [d1, d2], vars := [g1] }
  | _ => none }
def fnUnderThreeRow : OpenClaim := { program := "ytiigkjpabbgnpaadoor", sum := "823b28964580f3f393937fc5985c7b47d1cc9c35453cc686d44aeabf98c2692d", func := "loop.example/plashet/laws.FnUnderThree", spec := "fnUnderThree", unfollowed := true, recurses := true, named := ["loop.example/plashet/impl.creators"], apart := false, laid := [("loop.example/plashet/impl.creators", laid_loop_example_plashet_impl_creators)] }
def FnUnderThreeSaid : Prop := fnUnderThreeRow.holds Tryd.pinned (OpenSpec.ofChange fnUnderThreeSpec)

/-- ITS FALSE NEIGHBOUR: 'it returns false'. Refute it at one input. -/
def fnUnderThreeWrong : ChangeSpec := { name := "fnUnderThree", vars := ["loop.example/plashet/impl.creators"], fn := fun _ => fun
  | [d1, d2, g1] => { results := [.lit (.bool false)], args := [d1, d2], vars := [g1] }
  | _ => none }
def FnUnderThreeWrongFalsely : Prop := fnUnderThreeRow.holds Tryd.pinned (OpenSpec.ofChange fnUnderThreeWrong)

/- THE SECOND FORM. 'bulk': how many values and letters a reading holds, each counted each time it is reached (what is shared counts as often as it is met; a slice's spare places count too). A statement '..UptoSaid' is the law's where the arguments, and the package variables that the reading takes, are together of bulk at most 1048576: NARROWER than '..Said'. Prove '..Said' where nothing that the law and all that it calls make is longer than what came in: it says more and counts as full. Else prove '..UptoSaid'. A law counts once. -/
mutual
def uptoBulk {H : Type} : DataW H → Nat
  | .lit (.string bytes) => bytes.length + 1
  | .lit _ => 1
  | .nil => 1
  | .ptr d => uptoBulk d + 1
  | .slice elems spare => uptoBulkAll elems + uptoBulkAll spare + 1
  | .agg parts => uptoBulkAll parts + 1
  | .iface _ d => uptoBulk d + 1
  | .map entries => uptoBulkEntries entries + 1
  | .held _ => 1
def uptoBulkAll {H : Type} : List (DataW H) → Nat
  | [] => 0
  | d :: r => uptoBulk d + uptoBulkAll r
def uptoBulkEntries {H : Type} : List (Lit × DataW H) → Nat
  | [] => 0
  | x :: r => uptoBulkEntry x + uptoBulkEntries r
def uptoBulkEntry {H : Type} : Lit × DataW H → Nat
  | (.string bytes, d) => bytes.length + uptoBulk d + 1
  | (_, d) => uptoBulk d + 1
 end
def uptoSmall : (H : Type) → List (DataW H) → Bool := fun _ ds => decide (uptoBulkAll ds ≤ 1048576)
def OpenSpec.upto (s : _root_.Go.ChangeSpec) : _root_.Go.OpenSpec := { _root_.Go.OpenSpec.ofChange s with cond := some uptoSmall }

/-- 'laws.FnTreeForm', WHERE WHAT IT READS IS OF BULK AT MOST 1048576: true; the input reads as it did. -/
def fnTreeFormUptoRow : OpenClaim := { program := "ytiigkjpabbgnpaadoor", sum := "823b28964580f3f393937fc5985c7b47d1cc9c35453cc686d44aeabf98c2692d", func := "loop.example/plashet/laws.FnTreeForm", spec := "fnTreeForm", unfollowed := true, recurses := true, named := ["loop.example/plashet/impl.creators"], apart := false, laid := [("loop.example/plashet/impl.creators", laid_loop_example_plashet_impl_creators)], narrowed := true }
def FnTreeFormUptoSaid : Prop := fnTreeFormUptoRow.holds Tryd.pinned (OpenSpec.upto fnTreeFormSpec)

/-- 'laws.FnTreeUp', WHERE WHAT IT READS IS OF BULK AT MOST 1048576: true; the input reads as it did. -/
def fnTreeUpUptoRow : OpenClaim := { program := "ytiigkjpabbgnpaadoor", sum := "823b28964580f3f393937fc5985c7b47d1cc9c35453cc686d44aeabf98c2692d", func := "loop.example/plashet/laws.FnTreeUp", spec := "fnTreeUp", unfollowed := true, recurses := true, named := ["loop.example/plashet/impl.creators"], apart := false, laid := [("loop.example/plashet/impl.creators", laid_loop_example_plashet_impl_creators)], narrowed := true }
def FnTreeUpUptoSaid : Prop := fnTreeUpUptoRow.holds Tryd.pinned (OpenSpec.upto fnTreeUpSpec)

/-- 'laws.FnTreeKids', WHERE WHAT IT READS IS OF BULK AT MOST 1048576: true; the input reads as it did. -/
def fnTreeKidsUptoRow : OpenClaim := { program := "ytiigkjpabbgnpaadoor", sum := "823b28964580f3f393937fc5985c7b47d1cc9c35453cc686d44aeabf98c2692d", func := "loop.example/plashet/laws.FnTreeKids", spec := "fnTreeKids", unfollowed := true, recurses := true, named := ["loop.example/plashet/impl.creators"], apart := false, laid := [("loop.example/plashet/impl.creators", laid_loop_example_plashet_impl_creators)], narrowed := true }
def FnTreeKidsUptoSaid : Prop := fnTreeKidsUptoRow.holds Tryd.pinned (OpenSpec.upto fnTreeKidsSpec)

/-- 'laws.FnTreeBelow', WHERE WHAT IT READS IS OF BULK AT MOST 1048576: true; the input reads as it did. -/
def fnTreeBelowUptoRow : OpenClaim := { program := "ytiigkjpabbgnpaadoor", sum := "823b28964580f3f393937fc5985c7b47d1cc9c35453cc686d44aeabf98c2692d", func := "loop.example/plashet/laws.FnTreeBelow", spec := "fnTreeBelow", unfollowed := true, recurses := true, named := ["loop.example/plashet/impl.creators"], apart := false, laid := [("loop.example/plashet/impl.creators", laid_loop_example_plashet_impl_creators)], narrowed := true }
def FnTreeBelowUptoSaid : Prop := fnTreeBelowUptoRow.holds Tryd.pinned (OpenSpec.upto fnTreeBelowSpec)

/-- 'laws.FnAhead', WHERE WHAT IT READS IS OF BULK AT MOST 1048576: true; the input reads as it did. -/
def fnAheadUptoRow : OpenClaim := { program := "ytiigkjpabbgnpaadoor", sum := "823b28964580f3f393937fc5985c7b47d1cc9c35453cc686d44aeabf98c2692d", func := "loop.example/plashet/laws.FnAhead", spec := "fnAhead", unfollowed := true, recurses := true, named := ["loop.example/plashet/impl.creators"], apart := false, laid := [("loop.example/plashet/impl.creators", laid_loop_example_plashet_impl_creators)], narrowed := true }
def FnAheadUptoSaid : Prop := fnAheadUptoRow.holds Tryd.pinned (OpenSpec.upto fnAheadSpec)

/-- 'laws.FnKidsAll', WHERE WHAT IT READS IS OF BULK AT MOST 1048576: true; the input reads as it did. -/
def fnKidsAllUptoRow : OpenClaim := { program := "ytiigkjpabbgnpaadoor", sum := "823b28964580f3f393937fc5985c7b47d1cc9c35453cc686d44aeabf98c2692d", func := "loop.example/plashet/laws.FnKidsAll", spec := "fnKidsAll", unfollowed := true, recurses := true, named := ["loop.example/plashet/impl.creators"], apart := false, laid := [("loop.example/plashet/impl.creators", laid_loop_example_plashet_impl_creators)], narrowed := true }
def FnKidsAllUptoSaid : Prop := fnKidsAllUptoRow.holds Tryd.pinned (OpenSpec.upto fnKidsAllSpec)

/-- 'laws.FnTreeUnder', WHERE WHAT IT READS IS OF BULK AT MOST 1048576: true; the input reads as it did. -/
def fnTreeUnderUptoRow : OpenClaim := { program := "ytiigkjpabbgnpaadoor", sum := "823b28964580f3f393937fc5985c7b47d1cc9c35453cc686d44aeabf98c2692d", func := "loop.example/plashet/laws.FnTreeUnder", spec := "fnTreeUnder", unfollowed := true, recurses := true, named := ["loop.example/plashet/impl.creators"], apart := false, laid := [("loop.example/plashet/impl.creators", laid_loop_example_plashet_impl_creators)], narrowed := true }
def FnTreeUnderUptoSaid : Prop := fnTreeUnderUptoRow.holds Tryd.pinned (OpenSpec.upto fnTreeUnderSpec)

/-- 'laws.FnDeep', WHERE WHAT IT READS IS OF BULK AT MOST 1048576: true; the input reads as it did. -/
def fnDeepUptoRow : OpenClaim := { program := "ytiigkjpabbgnpaadoor", sum := "823b28964580f3f393937fc5985c7b47d1cc9c35453cc686d44aeabf98c2692d", func := "loop.example/plashet/laws.FnDeep", spec := "fnDeep", unfollowed := true, recurses := true, named := ["loop.example/plashet/impl.creators"], apart := false, laid := [("loop.example/plashet/impl.creators", laid_loop_example_plashet_impl_creators)], narrowed := true }
def FnDeepUptoSaid : Prop := fnDeepUptoRow.holds Tryd.pinned (OpenSpec.upto fnDeepSpec)

/-- 'laws.FnUnderThree', WHERE WHAT IT READS IS OF BULK AT MOST 1048576: true; the input reads as it did. -/
def fnUnderThreeUptoRow : OpenClaim := { program := "ytiigkjpabbgnpaadoor", sum := "823b28964580f3f393937fc5985c7b47d1cc9c35453cc686d44aeabf98c2692d", func := "loop.example/plashet/laws.FnUnderThree", spec := "fnUnderThree", unfollowed := true, recurses := true, named := ["loop.example/plashet/impl.creators"], apart := false, laid := [("loop.example/plashet/impl.creators", laid_loop_example_plashet_impl_creators)], narrowed := true }
def FnUnderThreeUptoSaid : Prop := fnUnderThreeUptoRow.holds Tryd.pinned (OpenSpec.upto fnUnderThreeSpec)

end Rows
end Go.Proofs.YtiigkjpabbgnpaaDoor
