/-
  NARROWER THAN 'FOR EVERY INPUT', by the rows' own cells (each row's printed sentence says how): FnExactOpWhere: laid · FnExactOpDo: laid · FnExactTreeUp: laid · FnExactTreeKids: laid · FnExactTreeUnder: laid · FnExactTreeAhead: laid.
  DERIVED. THE GIVEN ROWS OF THIS SEAT. 6 by the template 'for every input the law returns true; each argument reads behind the call as it read before'; 0 by the template 'total and deterministic' (their statements: YtljaoaehblcdoaaDoorTotals.lean).
  GIVEN WITH THE SEED: the statements are not yours to turn. If you find one false, say at which input.
  Laid BY PROGRAM, IN A SANDBOX (cutbox-rows.mjs): the forced cells as the released guide's own fill.sh prints them over the translation 29eb3e52f6ebee54… (all of the seat's roots in one cut). By AI agents, Wed Nov 11 2026. No macro, syntax, notation, axiom, sorry.
-/
import Derived.Test.YtljaoaehblcdoaaDoorChecked
import GoSem.Claim
import GoSem.ClaimJoined
import GoSem.ClaimMapViews
import Derived.JoinedTies
import Derived.KernelRfl
namespace Go.Proofs.YtljaoaehblcdoaaDoor
/- THE CELL 'sum', in the pinned program and in every row, IS THE sha256 OF THE DUMP (.gsa) THAT YtljaoaehblcdoaaDoorProg.lean LOADS. Nothing in Lean hashes anything: it is a label: what it is worth is what the hold of that sum in a sandbox is worth. -/
noncomputable def Tryd.pinned : Pinned := { name := "ytljaoaehblcdoaadoor", sum := "29eb3e52f6ebee5475e202996a6bbee5b44785e20d3806f2d07093d6effeef26", checked := Tryd.checked }
namespace Rows
def none {H : Type} : Left H := { results := [], args := [] }

/- WHAT THE LISTED PACKAGE-LEVEL VARIABLES READ AS WHEN THE CALL BEGINS. Each datum BY PROGRAM (the guide's laid-datum.mjs) off the statement by which the dump's own 'gosem.cut.vars' lays the variable. In a bare row this is a premise. The card (YtljaoaehblcdoaaDoorCards.lean) ties it to the program's text. -/
def laid_loop_example_plashet_impl_creators {H : Type} : DataW H := .agg [.lit (.int .i64 (-1)), .lit (.int .i64 0), .lit (.int .i64 0), .lit (.int .i64 0), .lit (.int .i64 (-1)), .lit (.int .i64 (-1)), .lit (.int .i64 (-1)), .lit (.int .i64 (-1)), .lit (.int .i64 (-1)), .lit (.int .i64 (-1)), .lit (.int .i64 (-1)), .lit (.int .i64 1), .lit (.int .i64 1), .lit (.int .i64 1), .lit (.int .i64 1), .lit (.int .i64 1), .lit (.int .i64 1), .lit (.int .i64 (-1)), .lit (.int .i64 (-1)), .lit (.int .i64 (-1)), .lit (.int .i64 (-1)), .lit (.int .i64 2), .lit (.int .i64 2), .lit (.int .i64 2), .lit (.int .i64 2), .lit (.int .i64 2), .lit (.int .i64 2), .lit (.int .i64 (-1)), .lit (.int .i64 (-1)), .lit (.int .i64 (-1)), .lit (.int .i64 (-1)), .lit (.int .i64 3), .lit (.int .i64 3), .lit (.int .i64 3), .lit (.int .i64 3), .lit (.int .i64 3), .lit (.int .i64 3)]

/-- 'laws.FnExactOpWhere': WHATEVER THE INPUT: true; the input reads as it did. -/
def fnExactOpWhereSpec : ChangeSpec := { name := "fnExactOpWhere", vars := ["loop.example/plashet/impl.creators"], fn := fun _ => fun
  | [d1, d2, g1] => { results := [.lit (.bool true)], args := [d1, d2], vars := [g1] }
  | _ => none }
def fnExactOpWhereRow : OpenClaim := { program := "ytljaoaehblcdoaadoor", sum := "29eb3e52f6ebee5475e202996a6bbee5b44785e20d3806f2d07093d6effeef26", func := "loop.example/plashet/laws.FnExactOpWhere", spec := "fnExactOpWhere", unfollowed := true, recurses := true, named := ["loop.example/plashet/impl.creators"], apart := false, laid := [("loop.example/plashet/impl.creators", laid_loop_example_plashet_impl_creators)] }
def FnExactOpWhereSaid : Prop := fnExactOpWhereRow.holds Tryd.pinned (OpenSpec.ofChange fnExactOpWhereSpec)

/-- ITS FALSE NEIGHBOUR: 'it returns false'. Refute it at one input. -/
def fnExactOpWhereWrong : ChangeSpec := { name := "fnExactOpWhere", vars := ["loop.example/plashet/impl.creators"], fn := fun _ => fun
  | [d1, d2, g1] => { results := [.lit (.bool false)], args := [d1, d2], vars := [g1] }
  | _ => none }
def FnExactOpWhereWrongFalsely : Prop := fnExactOpWhereRow.holds Tryd.pinned (OpenSpec.ofChange fnExactOpWhereWrong)

/-- 'laws.FnExactOpDo': WHATEVER THE INPUT: true; the input reads as it did. -/
def fnExactOpDoSpec : ChangeSpec := { name := "fnExactOpDo", vars := ["loop.example/plashet/impl.creators"], fn := fun _ => fun
  | [d1, d2, g1] => { results := [.lit (.bool true)], args := [d1, d2], vars := [g1] }
  | _ => none }
def fnExactOpDoRow : OpenClaim := { program := "ytljaoaehblcdoaadoor", sum := "29eb3e52f6ebee5475e202996a6bbee5b44785e20d3806f2d07093d6effeef26", func := "loop.example/plashet/laws.FnExactOpDo", spec := "fnExactOpDo", unfollowed := true, recurses := true, named := ["loop.example/plashet/impl.creators"], apart := false, laid := [("loop.example/plashet/impl.creators", laid_loop_example_plashet_impl_creators)] }
def FnExactOpDoSaid : Prop := fnExactOpDoRow.holds Tryd.pinned (OpenSpec.ofChange fnExactOpDoSpec)

/-- ITS FALSE NEIGHBOUR: 'it returns false'. Refute it at one input. -/
def fnExactOpDoWrong : ChangeSpec := { name := "fnExactOpDo", vars := ["loop.example/plashet/impl.creators"], fn := fun _ => fun
  | [d1, d2, g1] => { results := [.lit (.bool false)], args := [d1, d2], vars := [g1] }
  | _ => none }
def FnExactOpDoWrongFalsely : Prop := fnExactOpDoRow.holds Tryd.pinned (OpenSpec.ofChange fnExactOpDoWrong)

/-- 'laws.FnExactTreeUp': WHATEVER THE INPUT: true; the input reads as it did. -/
def fnExactTreeUpSpec : ChangeSpec := { name := "fnExactTreeUp", vars := ["loop.example/plashet/impl.creators"], fn := fun _ => fun
  | [d1, d2, g1] => { results := [.lit (.bool true)], args := [d1, d2], vars := [g1] }
  | _ => none }
def fnExactTreeUpRow : OpenClaim := { program := "ytljaoaehblcdoaadoor", sum := "29eb3e52f6ebee5475e202996a6bbee5b44785e20d3806f2d07093d6effeef26", func := "loop.example/plashet/laws.FnExactTreeUp", spec := "fnExactTreeUp", unfollowed := true, recurses := true, named := ["loop.example/plashet/impl.creators"], apart := false, laid := [("loop.example/plashet/impl.creators", laid_loop_example_plashet_impl_creators)] }
def FnExactTreeUpSaid : Prop := fnExactTreeUpRow.holds Tryd.pinned (OpenSpec.ofChange fnExactTreeUpSpec)

/-- ITS FALSE NEIGHBOUR: 'it returns false'. Refute it at one input. -/
def fnExactTreeUpWrong : ChangeSpec := { name := "fnExactTreeUp", vars := ["loop.example/plashet/impl.creators"], fn := fun _ => fun
  | [d1, d2, g1] => { results := [.lit (.bool false)], args := [d1, d2], vars := [g1] }
  | _ => none }
def FnExactTreeUpWrongFalsely : Prop := fnExactTreeUpRow.holds Tryd.pinned (OpenSpec.ofChange fnExactTreeUpWrong)

/-- 'laws.FnExactTreeKids': WHATEVER THE INPUT: true; the input reads as it did. -/
def fnExactTreeKidsSpec : ChangeSpec := { name := "fnExactTreeKids", vars := ["loop.example/plashet/impl.creators"], fn := fun _ => fun
  | [d1, d2, g1] => { results := [.lit (.bool true)], args := [d1, d2], vars := [g1] }
  | _ => none }
def fnExactTreeKidsRow : OpenClaim := { program := "ytljaoaehblcdoaadoor", sum := "29eb3e52f6ebee5475e202996a6bbee5b44785e20d3806f2d07093d6effeef26", func := "loop.example/plashet/laws.FnExactTreeKids", spec := "fnExactTreeKids", unfollowed := true, recurses := true, named := ["loop.example/plashet/impl.creators"], apart := false, laid := [("loop.example/plashet/impl.creators", laid_loop_example_plashet_impl_creators)] }
def FnExactTreeKidsSaid : Prop := fnExactTreeKidsRow.holds Tryd.pinned (OpenSpec.ofChange fnExactTreeKidsSpec)

/-- ITS FALSE NEIGHBOUR: 'it returns false'. Refute it at one input. -/
def fnExactTreeKidsWrong : ChangeSpec := { name := "fnExactTreeKids", vars := ["loop.example/plashet/impl.creators"], fn := fun _ => fun
  | [d1, d2, g1] => { results := [.lit (.bool false)], args := [d1, d2], vars := [g1] }
  | _ => none }
def FnExactTreeKidsWrongFalsely : Prop := fnExactTreeKidsRow.holds Tryd.pinned (OpenSpec.ofChange fnExactTreeKidsWrong)

/-- 'laws.FnExactTreeUnder': WHATEVER THE INPUT: true; the input reads as it did. -/
def fnExactTreeUnderSpec : ChangeSpec := { name := "fnExactTreeUnder", vars := ["loop.example/plashet/impl.creators"], fn := fun _ => fun
  | [d1, d2, d3, g1] => { results := [.lit (.bool true)], args := [d1, d2, d3], vars := [g1] }
  | _ => none }
def fnExactTreeUnderRow : OpenClaim := { program := "ytljaoaehblcdoaadoor", sum := "29eb3e52f6ebee5475e202996a6bbee5b44785e20d3806f2d07093d6effeef26", func := "loop.example/plashet/laws.FnExactTreeUnder", spec := "fnExactTreeUnder", unfollowed := true, recurses := true, named := ["loop.example/plashet/impl.creators"], apart := false, laid := [("loop.example/plashet/impl.creators", laid_loop_example_plashet_impl_creators)] }
def FnExactTreeUnderSaid : Prop := fnExactTreeUnderRow.holds Tryd.pinned (OpenSpec.ofChange fnExactTreeUnderSpec)

/-- ITS FALSE NEIGHBOUR: 'it returns false'. Refute it at one input. -/
def fnExactTreeUnderWrong : ChangeSpec := { name := "fnExactTreeUnder", vars := ["loop.example/plashet/impl.creators"], fn := fun _ => fun
  | [d1, d2, d3, g1] => { results := [.lit (.bool false)], args := [d1, d2, d3], vars := [g1] }
  | _ => none }
def FnExactTreeUnderWrongFalsely : Prop := fnExactTreeUnderRow.holds Tryd.pinned (OpenSpec.ofChange fnExactTreeUnderWrong)

/-- 'laws.FnExactTreeAhead': WHATEVER THE INPUT: true; the input reads as it did. -/
def fnExactTreeAheadSpec : ChangeSpec := { name := "fnExactTreeAhead", vars := ["loop.example/plashet/impl.creators"], fn := fun _ => fun
  | [d1, d2, g1] => { results := [.lit (.bool true)], args := [d1, d2], vars := [g1] }
  | _ => none }
def fnExactTreeAheadRow : OpenClaim := { program := "ytljaoaehblcdoaadoor", sum := "29eb3e52f6ebee5475e202996a6bbee5b44785e20d3806f2d07093d6effeef26", func := "loop.example/plashet/laws.FnExactTreeAhead", spec := "fnExactTreeAhead", unfollowed := true, recurses := true, named := ["loop.example/plashet/impl.creators"], apart := false, laid := [("loop.example/plashet/impl.creators", laid_loop_example_plashet_impl_creators)] }
def FnExactTreeAheadSaid : Prop := fnExactTreeAheadRow.holds Tryd.pinned (OpenSpec.ofChange fnExactTreeAheadSpec)

/-- ITS FALSE NEIGHBOUR: 'it returns false'. Refute it at one input. -/
def fnExactTreeAheadWrong : ChangeSpec := { name := "fnExactTreeAhead", vars := ["loop.example/plashet/impl.creators"], fn := fun _ => fun
  | [d1, d2, g1] => { results := [.lit (.bool false)], args := [d1, d2], vars := [g1] }
  | _ => none }
def FnExactTreeAheadWrongFalsely : Prop := fnExactTreeAheadRow.holds Tryd.pinned (OpenSpec.ofChange fnExactTreeAheadWrong)

/- THE SECOND FORM. 'bulk': how many values and letters a reading holds, each counted each time it is reached (what is shared counts as often as it is met; a slice's spare places count too). A statement '..UptoSaid' is the law's where the arguments, and the package variables that the reading takes, are together of bulk at most 1048576: NARROWER than '..Said'. Prove '..Said' where nothing that the law and all that it calls make is longer than what came in: it says more and counts as full. Else prove '..UptoSaid'. A law counts once. -/
mutual
def uptoBulk {H : Type} : DataW H → Nat
  | .lit (.string bytes) => bytes.length + 1
  | .lit _ => 1
  | .nil => 1
  | .ptr d => uptoBulk d + 1
  | .slice elems spare => uptoBulkAll elems + uptoBulkAll spare + 1
  | .agg parts => uptoBulkAll parts + 1
  | .iface _ d => uptoBulk d + 1
  | .map entries => uptoBulkEntries entries + 1
  | .held _ => 1
def uptoBulkAll {H : Type} : List (DataW H) → Nat
  | [] => 0
  | d :: r => uptoBulk d + uptoBulkAll r
def uptoBulkEntries {H : Type} : List (Lit × DataW H) → Nat
  | [] => 0
  | x :: r => uptoBulkEntry x + uptoBulkEntries r
def uptoBulkEntry {H : Type} : Lit × DataW H → Nat
  | (.string bytes, d) => bytes.length + uptoBulk d + 1
  | (_, d) => uptoBulk d + 1
 end
def uptoSmall : (H : Type) → List (DataW H) → Bool := fun _ ds => decide (uptoBulkAll ds ≤ 1048576)
def OpenSpec.upto (s : _root_.Go.ChangeSpec) : _root_.Go.OpenSpec := { _root_.Go.OpenSpec.ofChange s with cond := some uptoSmall }

/-- 'laws.FnExactOpWhere', WHERE WHAT IT READS IS OF BULK AT MOST 1048576: true; the input reads as it did. -/
def fnExactOpWhereUptoRow : OpenClaim := { program := "ytljaoaehblcdoaadoor", sum := "29eb3e52f6ebee5475e202996a6bbee5b44785e20d3806f2d07093d6effeef26", func := "loop.example/plashet/laws.FnExactOpWhere", spec := "fnExactOpWhere", unfollowed := true, recurses := true, named := ["loop.example/plashet/impl.creators"], apart := false, laid := [("loop.example/plashet/impl.creators", laid_loop_example_plashet_impl_creators)], narrowed := true }
def FnExactOpWhereUptoSaid : Prop := fnExactOpWhereUptoRow.holds Tryd.pinned (OpenSpec.upto fnExactOpWhereSpec)

/-- 'laws.FnExactOpDo', WHERE WHAT IT READS IS OF BULK AT MOST 1048576: true; the input reads as it did. -/
def fnExactOpDoUptoRow : OpenClaim := { program := "ytljaoaehblcdoaadoor", sum := "29eb3e52f6ebee5475e202996a6bbee5b44785e20d3806f2d07093d6effeef26", func := "loop.example/plashet/laws.FnExactOpDo", spec := "fnExactOpDo", unfollowed := true, recurses := true, named := ["loop.example/plashet/impl.creators"], apart := false, laid := [("loop.example/plashet/impl.creators", laid_loop_example_plashet_impl_creators)], narrowed := true }
def FnExactOpDoUptoSaid : Prop := fnExactOpDoUptoRow.holds Tryd.pinned (OpenSpec.upto fnExactOpDoSpec)

/-- 'laws.FnExactTreeUp', WHERE WHAT IT READS IS OF BULK AT MOST 1048576: true; the input reads as it did. -/
def fnExactTreeUpUptoRow : OpenClaim := { program := "ytljaoaehblcdoaadoor", sum := "29eb3e52f6ebee5475e202996a6bbee5b44785e20d3806f2d07093d6effeef26", func := "loop.example/plashet/laws.FnExactTreeUp", spec := "fnExactTreeUp", unfollowed := true, recurses := true, named := ["loop.example/plashet/impl.creators"], apart := false, laid := [("loop.example/plashet/impl.creators", laid_loop_example_plashet_impl_creators)], narrowed := true }
def FnExactTreeUpUptoSaid : Prop := fnExactTreeUpUptoRow.holds Tryd.pinned (OpenSpec.upto fnExactTreeUpSpec)

/-- 'laws.FnExactTreeKids', WHERE WHAT IT READS IS OF BULK AT MOST 1048576: true; the input reads as it did. -/
def fnExactTreeKidsUptoRow : OpenClaim := { program := "ytljaoaehblcdoaadoor", sum := "29eb3e52f6ebee5475e202996a6bbee5b44785e20d3806f2d07093d6effeef26", func := "loop.example/plashet/laws.FnExactTreeKids", spec := "fnExactTreeKids", unfollowed := true, recurses := true, named := ["loop.example/plashet/impl.creators"], apart := false, laid := [("loop.example/plashet/impl.creators", laid_loop_example_plashet_impl_creators)], narrowed := true }
def FnExactTreeKidsUptoSaid : Prop := fnExactTreeKidsUptoRow.holds Tryd.pinned (OpenSpec.upto fnExactTreeKidsSpec)

/-- 'laws.FnExactTreeUnder', WHERE WHAT IT READS IS OF BULK AT MOST 1048576: true; the input reads as it did. -/
def fnExactTreeUnderUptoRow : OpenClaim := { program := "ytljaoaehblcdoaadoor", sum := "29eb3e52f6ebee5475e202996a6bbee5b44785e20d3806f2d07093d6effeef26", func := "loop.example/plashet/laws.FnExactTreeUnder", spec := "fnExactTreeUnder", unfollowed := true, recurses := true, named := ["loop.example/plashet/impl.creators"], apart := false, laid := [("loop.example/plashet/impl.creators", laid_loop_example_plashet_impl_creators)], narrowed := true }
def FnExactTreeUnderUptoSaid : Prop := fnExactTreeUnderUptoRow.holds Tryd.pinned (OpenSpec.upto fnExactTreeUnderSpec)

/-- 'laws.FnExactTreeAhead', WHERE WHAT IT READS IS OF BULK AT MOST 1048576: true; the input reads as it did. -/
def fnExactTreeAheadUptoRow : OpenClaim := { program := "ytljaoaehblcdoaadoor", sum := "29eb3e52f6ebee5475e202996a6bbee5b44785e20d3806f2d07093d6effeef26", func := "loop.example/plashet/laws.FnExactTreeAhead", spec := "fnExactTreeAhead", unfollowed := true, recurses := true, named := ["loop.example/plashet/impl.creators"], apart := false, laid := [("loop.example/plashet/impl.creators", laid_loop_example_plashet_impl_creators)], narrowed := true }
def FnExactTreeAheadUptoSaid : Prop := fnExactTreeAheadUptoRow.holds Tryd.pinned (OpenSpec.upto fnExactTreeAheadSpec)

end Rows
end Go.Proofs.YtljaoaehblcdoaaDoor
