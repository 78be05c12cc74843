/-
  NARROWER THAN 'FOR EVERY INPUT', by the rows' own cells (each row's printed sentence says how): FnWhere: laid · FnWhereText: laid · FnTextOnly: laid · FnTextTwo: laid · FnDoWhere: laid · FnDoTwice: laid · FnMoveTwo: laid · FnMakeMove: laid · FnMoveAll: laid · FnDoTexts: laid · FnTreeForm: laid · FnKeyIn: laid · FnKeyOut: laid · FnKeyGone: laid · FnInOut: laid · FnInDepth: laid · FnOutIn: laid · FnGoneBack: laid.
  DERIVED. THE GIVEN ROWS OF THIS SEAT. 18 by the template 'for every input the law returns true; each argument reads behind the call as it read before'; 0 by the template 'total and deterministic' (their statements: YtlhlkbbjmbpgpaaDoorTotals.lean).
  GIVEN WITH THE SEED: the statements are not yours to turn. If you find one false, say at which input.
  Laid BY PROGRAM, IN A SANDBOX (cutbox-rows.mjs): the forced cells as the released guide's own fill.sh prints them over the translation 8e65dda1e4ea6a09… (all of the seat's roots in one cut). By AI agents, Wed Nov 11 2026. No macro, syntax, notation, axiom, sorry.
-/
import Derived.Test.YtlhlkbbjmbpgpaaDoorChecked
import GoSem.Claim
import GoSem.ClaimJoined
import GoSem.ClaimMapViews
import Derived.JoinedTies
import Derived.KernelRfl
namespace Go.Proofs.YtlhlkbbjmbpgpaaDoor
/- THE CELL 'sum', in the pinned program and in every row, IS THE sha256 OF THE DUMP (.gsa) THAT YtlhlkbbjmbpgpaaDoorProg.lean LOADS. Nothing in Lean hashes anything: it is a label: what it is worth is what the hold of that sum in a sandbox is worth. -/
noncomputable def Tryd.pinned : Pinned := { name := "ytlhlkbbjmbpgpaadoor", sum := "8e65dda1e4ea6a092be13a3a0000142669d1e611fc344807619edc033828926c", checked := Tryd.checked }
namespace Rows
def none {H : Type} : Left H := { results := [], args := [] }

/- WHAT THE LISTED PACKAGE-LEVEL VARIABLES READ AS WHEN THE CALL BEGINS. Each datum BY PROGRAM (the guide's laid-datum.mjs) off the statement by which the dump's own 'gosem.cut.vars' lays the variable. In a bare row this is a premise. The card (YtlhlkbbjmbpgpaaDoorCards.lean) ties it to the program's text. -/
def laid_loop_example_plashet_impl_creators {H : Type} : DataW H := .agg [.lit (.int .i64 (-1)), .lit (.int .i64 0), .lit (.int .i64 0), .lit (.int .i64 0), .lit (.int .i64 (-1)), .lit (.int .i64 (-1)), .lit (.int .i64 (-1)), .lit (.int .i64 (-1)), .lit (.int .i64 (-1)), .lit (.int .i64 (-1)), .lit (.int .i64 (-1)), .lit (.int .i64 1), .lit (.int .i64 1), .lit (.int .i64 1), .lit (.int .i64 1), .lit (.int .i64 1), .lit (.int .i64 1), .lit (.int .i64 (-1)), .lit (.int .i64 (-1)), .lit (.int .i64 (-1)), .lit (.int .i64 (-1)), .lit (.int .i64 2), .lit (.int .i64 2), .lit (.int .i64 2), .lit (.int .i64 2), .lit (.int .i64 2), .lit (.int .i64 2), .lit (.int .i64 (-1)), .lit (.int .i64 (-1)), .lit (.int .i64 (-1)), .lit (.int .i64 (-1)), .lit (.int .i64 3), .lit (.int .i64 3), .lit (.int .i64 3), .lit (.int .i64 3), .lit (.int .i64 3), .lit (.int .i64 3)]

/-- 'laws.FnWhere': WHATEVER THE INPUT: true; the input reads as it did. -/
def fnWhereSpec : ChangeSpec := { name := "fnWhere", vars := ["loop.example/plashet/impl.creators"], fn := fun _ => fun
  | [d, g1] => { results := [.lit (.bool true)], args := [d], vars := [g1] }
  | _ => none }
def fnWhereRow : OpenClaim := { program := "ytlhlkbbjmbpgpaadoor", sum := "8e65dda1e4ea6a092be13a3a0000142669d1e611fc344807619edc033828926c", func := "loop.example/plashet/laws.FnWhere", spec := "fnWhere", unfollowed := true, recurses := true, named := ["loop.example/plashet/impl.creators"], apart := false, laid := [("loop.example/plashet/impl.creators", laid_loop_example_plashet_impl_creators)] }
def FnWhereSaid : Prop := fnWhereRow.holds Tryd.pinned (OpenSpec.ofChange fnWhereSpec)

/-- ITS FALSE NEIGHBOUR: 'it returns false'. Refute it at one input. -/
def fnWhereWrong : ChangeSpec := { name := "fnWhere", vars := ["loop.example/plashet/impl.creators"], fn := fun _ => fun
  | [d, g1] => { results := [.lit (.bool false)], args := [d], vars := [g1] }
  | _ => none }
def FnWhereWrongFalsely : Prop := fnWhereRow.holds Tryd.pinned (OpenSpec.ofChange fnWhereWrong)

/-- 'laws.FnWhereText': WHATEVER THE INPUT: true; the input reads as it did. -/
def fnWhereTextSpec : ChangeSpec := { name := "fnWhereText", vars := ["loop.example/plashet/impl.creators"], fn := fun _ => fun
  | [d1, d2, g1] => { results := [.lit (.bool true)], args := [d1, d2], vars := [g1] }
  | _ => none }
def fnWhereTextRow : OpenClaim := { program := "ytlhlkbbjmbpgpaadoor", sum := "8e65dda1e4ea6a092be13a3a0000142669d1e611fc344807619edc033828926c", func := "loop.example/plashet/laws.FnWhereText", spec := "fnWhereText", unfollowed := true, recurses := true, named := ["loop.example/plashet/impl.creators"], apart := false, laid := [("loop.example/plashet/impl.creators", laid_loop_example_plashet_impl_creators)] }
def FnWhereTextSaid : Prop := fnWhereTextRow.holds Tryd.pinned (OpenSpec.ofChange fnWhereTextSpec)

/-- ITS FALSE NEIGHBOUR: 'it returns false'. Refute it at one input. -/
def fnWhereTextWrong : ChangeSpec := { name := "fnWhereText", vars := ["loop.example/plashet/impl.creators"], fn := fun _ => fun
  | [d1, d2, g1] => { results := [.lit (.bool false)], args := [d1, d2], vars := [g1] }
  | _ => none }
def FnWhereTextWrongFalsely : Prop := fnWhereTextRow.holds Tryd.pinned (OpenSpec.ofChange fnWhereTextWrong)

/-- 'laws.FnTextOnly': WHATEVER THE INPUT: true; the input reads as it did. -/
def fnTextOnlySpec : ChangeSpec := { name := "fnTextOnly", vars := ["loop.example/plashet/impl.creators"], fn := fun _ => fun
  | [d, g1] => { results := [.lit (.bool true)], args := [d], vars := [g1] }
  | _ => none }
def fnTextOnlyRow : OpenClaim := { program := "ytlhlkbbjmbpgpaadoor", sum := "8e65dda1e4ea6a092be13a3a0000142669d1e611fc344807619edc033828926c", func := "loop.example/plashet/laws.FnTextOnly", spec := "fnTextOnly", unfollowed := true, recurses := true, named := ["loop.example/plashet/impl.creators"], apart := false, laid := [("loop.example/plashet/impl.creators", laid_loop_example_plashet_impl_creators)] }
def FnTextOnlySaid : Prop := fnTextOnlyRow.holds Tryd.pinned (OpenSpec.ofChange fnTextOnlySpec)

/-- ITS FALSE NEIGHBOUR: 'it returns false'. Refute it at one input. -/
def fnTextOnlyWrong : ChangeSpec := { name := "fnTextOnly", vars := ["loop.example/plashet/impl.creators"], fn := fun _ => fun
  | [d, g1] => { results := [.lit (.bool false)], args := [d], vars := [g1] }
  | _ => none }
def FnTextOnlyWrongFalsely : Prop := fnTextOnlyRow.holds Tryd.pinned (OpenSpec.ofChange fnTextOnlyWrong)

/-- 'laws.FnTextTwo': WHATEVER THE INPUT: true; the input reads as it did. -/
def fnTextTwoSpec : ChangeSpec := { name := "fnTextTwo", vars := ["loop.example/plashet/impl.creators"], fn := fun _ => fun
  | [d1, d2, g1] => { results := [.lit (.bool true)], args := [d1, d2], vars := [g1] }
  | _ => none }
def fnTextTwoRow : OpenClaim := { program := "ytlhlkbbjmbpgpaadoor", sum := "8e65dda1e4ea6a092be13a3a0000142669d1e611fc344807619edc033828926c", func := "loop.example/plashet/laws.FnTextTwo", spec := "fnTextTwo", unfollowed := true, recurses := true, named := ["loop.example/plashet/impl.creators"], apart := false, laid := [("loop.example/plashet/impl.creators", laid_loop_example_plashet_impl_creators)] }
def FnTextTwoSaid : Prop := fnTextTwoRow.holds Tryd.pinned (OpenSpec.ofChange fnTextTwoSpec)

/-- ITS FALSE NEIGHBOUR: 'it returns false'. Refute it at one input. -/
def fnTextTwoWrong : ChangeSpec := { name := "fnTextTwo", vars := ["loop.example/plashet/impl.creators"], fn := fun _ => fun
  | [d1, d2, g1] => { results := [.lit (.bool false)], args := [d1, d2], vars := [g1] }
  | _ => none }
def FnTextTwoWrongFalsely : Prop := fnTextTwoRow.holds Tryd.pinned (OpenSpec.ofChange fnTextTwoWrong)

/-- 'laws.FnDoWhere': WHATEVER THE INPUT: true; the input reads as it did. -/
def fnDoWhereSpec : ChangeSpec := { name := "fnDoWhere", vars := ["loop.example/plashet/impl.creators"], fn := fun _ => fun
  | [d, g1] => { results := [.lit (.bool true)], args := [d], vars := [g1] }
  | _ => none }
def fnDoWhereRow : OpenClaim := { program := "ytlhlkbbjmbpgpaadoor", sum := "8e65dda1e4ea6a092be13a3a0000142669d1e611fc344807619edc033828926c", func := "loop.example/plashet/laws.FnDoWhere", spec := "fnDoWhere", unfollowed := true, recurses := true, named := ["loop.example/plashet/impl.creators"], apart := false, laid := [("loop.example/plashet/impl.creators", laid_loop_example_plashet_impl_creators)] }
def FnDoWhereSaid : Prop := fnDoWhereRow.holds Tryd.pinned (OpenSpec.ofChange fnDoWhereSpec)

/-- ITS FALSE NEIGHBOUR: 'it returns false'. Refute it at one input. -/
def fnDoWhereWrong : ChangeSpec := { name := "fnDoWhere", vars := ["loop.example/plashet/impl.creators"], fn := fun _ => fun
  | [d, g1] => { results := [.lit (.bool false)], args := [d], vars := [g1] }
  | _ => none }
def FnDoWhereWrongFalsely : Prop := fnDoWhereRow.holds Tryd.pinned (OpenSpec.ofChange fnDoWhereWrong)

/-- 'laws.FnDoTwice': WHATEVER THE INPUT: true; the input reads as it did. -/
def fnDoTwiceSpec : ChangeSpec := { name := "fnDoTwice", vars := ["loop.example/plashet/impl.creators"], fn := fun _ => fun
  | [d, g1] => { results := [.lit (.bool true)], args := [d], vars := [g1] }
  | _ => none }
def fnDoTwiceRow : OpenClaim := { program := "ytlhlkbbjmbpgpaadoor", sum := "8e65dda1e4ea6a092be13a3a0000142669d1e611fc344807619edc033828926c", func := "loop.example/plashet/laws.FnDoTwice", spec := "fnDoTwice", unfollowed := true, recurses := true, named := ["loop.example/plashet/impl.creators"], apart := false, laid := [("loop.example/plashet/impl.creators", laid_loop_example_plashet_impl_creators)] }
def FnDoTwiceSaid : Prop := fnDoTwiceRow.holds Tryd.pinned (OpenSpec.ofChange fnDoTwiceSpec)

/-- ITS FALSE NEIGHBOUR: 'it returns false'. Refute it at one input. -/
def fnDoTwiceWrong : ChangeSpec := { name := "fnDoTwice", vars := ["loop.example/plashet/impl.creators"], fn := fun _ => fun
  | [d, g1] => { results := [.lit (.bool false)], args := [d], vars := [g1] }
  | _ => none }
def FnDoTwiceWrongFalsely : Prop := fnDoTwiceRow.holds Tryd.pinned (OpenSpec.ofChange fnDoTwiceWrong)

/-- 'laws.FnMoveTwo': WHATEVER THE INPUT: true; the input reads as it did. -/
def fnMoveTwoSpec : ChangeSpec := { name := "fnMoveTwo", vars := ["loop.example/plashet/impl.creators"], fn := fun _ => fun
  | [d1, d2, g1] => { results := [.lit (.bool true)], args := [d1, d2], vars := [g1] }
  | _ => none }
def fnMoveTwoRow : OpenClaim := { program := "ytlhlkbbjmbpgpaadoor", sum := "8e65dda1e4ea6a092be13a3a0000142669d1e611fc344807619edc033828926c", func := "loop.example/plashet/laws.FnMoveTwo", spec := "fnMoveTwo", unfollowed := true, recurses := true, named := ["loop.example/plashet/impl.creators"], apart := false, laid := [("loop.example/plashet/impl.creators", laid_loop_example_plashet_impl_creators)] }
def FnMoveTwoSaid : Prop := fnMoveTwoRow.holds Tryd.pinned (OpenSpec.ofChange fnMoveTwoSpec)

/-- ITS FALSE NEIGHBOUR: 'it returns false'. Refute it at one input. -/
def fnMoveTwoWrong : ChangeSpec := { name := "fnMoveTwo", vars := ["loop.example/plashet/impl.creators"], fn := fun _ => fun
  | [d1, d2, g1] => { results := [.lit (.bool false)], args := [d1, d2], vars := [g1] }
  | _ => none }
def FnMoveTwoWrongFalsely : Prop := fnMoveTwoRow.holds Tryd.pinned (OpenSpec.ofChange fnMoveTwoWrong)

/-- 'laws.FnMakeMove': WHATEVER THE INPUT: true; the input reads as it did. -/
def fnMakeMoveSpec : ChangeSpec := { name := "fnMakeMove", vars := ["loop.example/plashet/impl.creators"], fn := fun _ => fun
  | [d1, d2, g1] => { results := [.lit (.bool true)], args := [d1, d2], vars := [g1] }
  | _ => none }
def fnMakeMoveRow : OpenClaim := { program := "ytlhlkbbjmbpgpaadoor", sum := "8e65dda1e4ea6a092be13a3a0000142669d1e611fc344807619edc033828926c", func := "loop.example/plashet/laws.FnMakeMove", spec := "fnMakeMove", unfollowed := true, recurses := true, named := ["loop.example/plashet/impl.creators"], apart := false, laid := [("loop.example/plashet/impl.creators", laid_loop_example_plashet_impl_creators)] }
def FnMakeMoveSaid : Prop := fnMakeMoveRow.holds Tryd.pinned (OpenSpec.ofChange fnMakeMoveSpec)

/-- ITS FALSE NEIGHBOUR: 'it returns false'. Refute it at one input. -/
def fnMakeMoveWrong : ChangeSpec := { name := "fnMakeMove", vars := ["loop.example/plashet/impl.creators"], fn := fun _ => fun
  | [d1, d2, g1] => { results := [.lit (.bool false)], args := [d1, d2], vars := [g1] }
  | _ => none }
def FnMakeMoveWrongFalsely : Prop := fnMakeMoveRow.holds Tryd.pinned (OpenSpec.ofChange fnMakeMoveWrong)

/-- 'laws.FnMoveAll': WHATEVER THE INPUT: true; the input reads as it did. -/
def fnMoveAllSpec : ChangeSpec := { name := "fnMoveAll", vars := ["loop.example/plashet/impl.creators"], fn := fun _ => fun
  | [d, g1] => { results := [.lit (.bool true)], args := [d], vars := [g1] }
  | _ => none }
def fnMoveAllRow : OpenClaim := { program := "ytlhlkbbjmbpgpaadoor", sum := "8e65dda1e4ea6a092be13a3a0000142669d1e611fc344807619edc033828926c", func := "loop.example/plashet/laws.FnMoveAll", spec := "fnMoveAll", unfollowed := true, recurses := true, named := ["loop.example/plashet/impl.creators"], apart := false, laid := [("loop.example/plashet/impl.creators", laid_loop_example_plashet_impl_creators)] }
def FnMoveAllSaid : Prop := fnMoveAllRow.holds Tryd.pinned (OpenSpec.ofChange fnMoveAllSpec)

/-- ITS FALSE NEIGHBOUR: 'it returns false'. Refute it at one input. -/
def fnMoveAllWrong : ChangeSpec := { name := "fnMoveAll", vars := ["loop.example/plashet/impl.creators"], fn := fun _ => fun
  | [d, g1] => { results := [.lit (.bool false)], args := [d], vars := [g1] }
  | _ => none }
def FnMoveAllWrongFalsely : Prop := fnMoveAllRow.holds Tryd.pinned (OpenSpec.ofChange fnMoveAllWrong)

/-- 'laws.FnDoTexts': WHATEVER THE INPUT: true; the input reads as it did. -/
def fnDoTextsSpec : ChangeSpec := { name := "fnDoTexts", vars := ["loop.example/plashet/impl.creators"], fn := fun _ => fun
  | [d1, d2, g1] => { results := [.lit (.bool true)], args := [d1, d2], vars := [g1] }
  | _ => none }
def fnDoTextsRow : OpenClaim := { program := "ytlhlkbbjmbpgpaadoor", sum := "8e65dda1e4ea6a092be13a3a0000142669d1e611fc344807619edc033828926c", func := "loop.example/plashet/laws.FnDoTexts", spec := "fnDoTexts", unfollowed := true, recurses := true, named := ["loop.example/plashet/impl.creators"], apart := false, laid := [("loop.example/plashet/impl.creators", laid_loop_example_plashet_impl_creators)] }
def FnDoTextsSaid : Prop := fnDoTextsRow.holds Tryd.pinned (OpenSpec.ofChange fnDoTextsSpec)

/-- ITS FALSE NEIGHBOUR: 'it returns false'. Refute it at one input. -/
def fnDoTextsWrong : ChangeSpec := { name := "fnDoTexts", vars := ["loop.example/plashet/impl.creators"], fn := fun _ => fun
  | [d1, d2, g1] => { results := [.lit (.bool false)], args := [d1, d2], vars := [g1] }
  | _ => none }
def FnDoTextsWrongFalsely : Prop := fnDoTextsRow.holds Tryd.pinned (OpenSpec.ofChange fnDoTextsWrong)

/-- 'laws.FnTreeForm': WHATEVER THE INPUT: true; the input reads as it did. -/
def fnTreeFormSpec : ChangeSpec := { name := "fnTreeForm", vars := ["loop.example/plashet/impl.creators"], fn := fun _ => fun
  | [d1, d2, g1] => { results := [.lit (.bool true)], args := [d1, d2], vars := [g1] }
  | _ => none }
def fnTreeFormRow : OpenClaim := { program := "ytlhlkbbjmbpgpaadoor", sum := "8e65dda1e4ea6a092be13a3a0000142669d1e611fc344807619edc033828926c", func := "loop.example/plashet/laws.FnTreeForm", spec := "fnTreeForm", unfollowed := true, recurses := true, named := ["loop.example/plashet/impl.creators"], apart := false, laid := [("loop.example/plashet/impl.creators", laid_loop_example_plashet_impl_creators)] }
def FnTreeFormSaid : Prop := fnTreeFormRow.holds Tryd.pinned (OpenSpec.ofChange fnTreeFormSpec)

/-- ITS FALSE NEIGHBOUR: 'it returns false'. Refute it at one input. -/
def fnTreeFormWrong : ChangeSpec := { name := "fnTreeForm", vars := ["loop.example/plashet/impl.creators"], fn := fun _ => fun
  | [d1, d2, g1] => { results := [.lit (.bool false)], args := [d1, d2], vars := [g1] }
  | _ => none }
def FnTreeFormWrongFalsely : Prop := fnTreeFormRow.holds Tryd.pinned (OpenSpec.ofChange fnTreeFormWrong)

/-- 'laws.FnKeyIn': WHATEVER THE INPUT: true; the input reads as it did. -/
def fnKeyInSpec : ChangeSpec := { name := "fnKeyIn", vars := ["loop.example/plashet/impl.creators"], fn := fun _ => fun
  | [d, g1] => { results := [.lit (.bool true)], args := [d], vars := [g1] }
  | _ => none }
def fnKeyInRow : OpenClaim := { program := "ytlhlkbbjmbpgpaadoor", sum := "8e65dda1e4ea6a092be13a3a0000142669d1e611fc344807619edc033828926c", func := "loop.example/plashet/laws.FnKeyIn", spec := "fnKeyIn", unfollowed := true, recurses := true, named := ["loop.example/plashet/impl.creators"], apart := false, laid := [("loop.example/plashet/impl.creators", laid_loop_example_plashet_impl_creators)] }
def FnKeyInSaid : Prop := fnKeyInRow.holds Tryd.pinned (OpenSpec.ofChange fnKeyInSpec)

/-- ITS FALSE NEIGHBOUR: 'it returns false'. Refute it at one input. -/
def fnKeyInWrong : ChangeSpec := { name := "fnKeyIn", vars := ["loop.example/plashet/impl.creators"], fn := fun _ => fun
  | [d, g1] => { results := [.lit (.bool false)], args := [d], vars := [g1] }
  | _ => none }
def FnKeyInWrongFalsely : Prop := fnKeyInRow.holds Tryd.pinned (OpenSpec.ofChange fnKeyInWrong)

/-- 'laws.FnKeyOut': WHATEVER THE INPUT: true; the input reads as it did. -/
def fnKeyOutSpec : ChangeSpec := { name := "fnKeyOut", vars := ["loop.example/plashet/impl.creators"], fn := fun _ => fun
  | [d, g1] => { results := [.lit (.bool true)], args := [d], vars := [g1] }
  | _ => none }
def fnKeyOutRow : OpenClaim := { program := "ytlhlkbbjmbpgpaadoor", sum := "8e65dda1e4ea6a092be13a3a0000142669d1e611fc344807619edc033828926c", func := "loop.example/plashet/laws.FnKeyOut", spec := "fnKeyOut", unfollowed := true, recurses := true, named := ["loop.example/plashet/impl.creators"], apart := false, laid := [("loop.example/plashet/impl.creators", laid_loop_example_plashet_impl_creators)] }
def FnKeyOutSaid : Prop := fnKeyOutRow.holds Tryd.pinned (OpenSpec.ofChange fnKeyOutSpec)

/-- ITS FALSE NEIGHBOUR: 'it returns false'. Refute it at one input. -/
def fnKeyOutWrong : ChangeSpec := { name := "fnKeyOut", vars := ["loop.example/plashet/impl.creators"], fn := fun _ => fun
  | [d, g1] => { results := [.lit (.bool false)], args := [d], vars := [g1] }
  | _ => none }
def FnKeyOutWrongFalsely : Prop := fnKeyOutRow.holds Tryd.pinned (OpenSpec.ofChange fnKeyOutWrong)

/-- 'laws.FnKeyGone': WHATEVER THE INPUT: true; the input reads as it did. -/
def fnKeyGoneSpec : ChangeSpec := { name := "fnKeyGone", vars := ["loop.example/plashet/impl.creators"], fn := fun _ => fun
  | [d, g1] => { results := [.lit (.bool true)], args := [d], vars := [g1] }
  | _ => none }
def fnKeyGoneRow : OpenClaim := { program := "ytlhlkbbjmbpgpaadoor", sum := "8e65dda1e4ea6a092be13a3a0000142669d1e611fc344807619edc033828926c", func := "loop.example/plashet/laws.FnKeyGone", spec := "fnKeyGone", unfollowed := true, recurses := true, named := ["loop.example/plashet/impl.creators"], apart := false, laid := [("loop.example/plashet/impl.creators", laid_loop_example_plashet_impl_creators)] }
def FnKeyGoneSaid : Prop := fnKeyGoneRow.holds Tryd.pinned (OpenSpec.ofChange fnKeyGoneSpec)

/-- ITS FALSE NEIGHBOUR: 'it returns false'. Refute it at one input. -/
def fnKeyGoneWrong : ChangeSpec := { name := "fnKeyGone", vars := ["loop.example/plashet/impl.creators"], fn := fun _ => fun
  | [d, g1] => { results := [.lit (.bool false)], args := [d], vars := [g1] }
  | _ => none }
def FnKeyGoneWrongFalsely : Prop := fnKeyGoneRow.holds Tryd.pinned (OpenSpec.ofChange fnKeyGoneWrong)

/-- 'laws.FnInOut': WHATEVER THE INPUT: true; the input reads as it did. -/
def fnInOutSpec : ChangeSpec := { name := "fnInOut", vars := ["loop.example/plashet/impl.creators"], fn := fun _ => fun
  | [d, g1] => { results := [.lit (.bool true)], args := [d], vars := [g1] }
  | _ => none }
def fnInOutRow : OpenClaim := { program := "ytlhlkbbjmbpgpaadoor", sum := "8e65dda1e4ea6a092be13a3a0000142669d1e611fc344807619edc033828926c", func := "loop.example/plashet/laws.FnInOut", spec := "fnInOut", unfollowed := true, recurses := true, named := ["loop.example/plashet/impl.creators"], apart := false, laid := [("loop.example/plashet/impl.creators", laid_loop_example_plashet_impl_creators)] }
def FnInOutSaid : Prop := fnInOutRow.holds Tryd.pinned (OpenSpec.ofChange fnInOutSpec)

/-- ITS FALSE NEIGHBOUR: 'it returns false'. Refute it at one input. -/
def fnInOutWrong : ChangeSpec := { name := "fnInOut", vars := ["loop.example/plashet/impl.creators"], fn := fun _ => fun
  | [d, g1] => { results := [.lit (.bool false)], args := [d], vars := [g1] }
  | _ => none }
def FnInOutWrongFalsely : Prop := fnInOutRow.holds Tryd.pinned (OpenSpec.ofChange fnInOutWrong)

/-- 'laws.FnInDepth': WHATEVER THE INPUT: true; the input reads as it did. -/
def fnInDepthSpec : ChangeSpec := { name := "fnInDepth", vars := ["loop.example/plashet/impl.creators"], fn := fun _ => fun
  | [d, g1] => { results := [.lit (.bool true)], args := [d], vars := [g1] }
  | _ => none }
def fnInDepthRow : OpenClaim := { program := "ytlhlkbbjmbpgpaadoor", sum := "8e65dda1e4ea6a092be13a3a0000142669d1e611fc344807619edc033828926c", func := "loop.example/plashet/laws.FnInDepth", spec := "fnInDepth", unfollowed := true, recurses := true, named := ["loop.example/plashet/impl.creators"], apart := false, laid := [("loop.example/plashet/impl.creators", laid_loop_example_plashet_impl_creators)] }
def FnInDepthSaid : Prop := fnInDepthRow.holds Tryd.pinned (OpenSpec.ofChange fnInDepthSpec)

/-- ITS FALSE NEIGHBOUR: 'it returns false'. Refute it at one input. -/
def fnInDepthWrong : ChangeSpec := { name := "fnInDepth", vars := ["loop.example/plashet/impl.creators"], fn := fun _ => fun
  | [d, g1] => { results := [.lit (.bool false)], args := [d], vars := [g1] }
  | _ => none }
def FnInDepthWrongFalsely : Prop := fnInDepthRow.holds Tryd.pinned (OpenSpec.ofChange fnInDepthWrong)

/-- 'laws.FnOutIn': WHATEVER THE INPUT: true; the input reads as it did. -/
def fnOutInSpec : ChangeSpec := { name := "fnOutIn", vars := ["loop.example/plashet/impl.creators"], fn := fun _ => fun
  | [d, g1] => { results := [.lit (.bool true)], args := [d], vars := [g1] }
  | _ => none }
def fnOutInRow : OpenClaim := { program := "ytlhlkbbjmbpgpaadoor", sum := "8e65dda1e4ea6a092be13a3a0000142669d1e611fc344807619edc033828926c", func := "loop.example/plashet/laws.FnOutIn", spec := "fnOutIn", unfollowed := true, recurses := true, named := ["loop.example/plashet/impl.creators"], apart := false, laid := [("loop.example/plashet/impl.creators", laid_loop_example_plashet_impl_creators)] }
def FnOutInSaid : Prop := fnOutInRow.holds Tryd.pinned (OpenSpec.ofChange fnOutInSpec)

/-- ITS FALSE NEIGHBOUR: 'it returns false'. Refute it at one input. -/
def fnOutInWrong : ChangeSpec := { name := "fnOutIn", vars := ["loop.example/plashet/impl.creators"], fn := fun _ => fun
  | [d, g1] => { results := [.lit (.bool false)], args := [d], vars := [g1] }
  | _ => none }
def FnOutInWrongFalsely : Prop := fnOutInRow.holds Tryd.pinned (OpenSpec.ofChange fnOutInWrong)

/-- 'laws.FnGoneBack': WHATEVER THE INPUT: true; the input reads as it did. -/
def fnGoneBackSpec : ChangeSpec := { name := "fnGoneBack", vars := ["loop.example/plashet/impl.creators"], fn := fun _ => fun
  | [d, g1] => { results := [.lit (.bool true)], args := [d], vars := [g1] }
  | _ => none }
def fnGoneBackRow : OpenClaim := { program := "ytlhlkbbjmbpgpaadoor", sum := "8e65dda1e4ea6a092be13a3a0000142669d1e611fc344807619edc033828926c", func := "loop.example/plashet/laws.FnGoneBack", spec := "fnGoneBack", unfollowed := true, recurses := true, named := ["loop.example/plashet/impl.creators"], apart := false, laid := [("loop.example/plashet/impl.creators", laid_loop_example_plashet_impl_creators)] }
def FnGoneBackSaid : Prop := fnGoneBackRow.holds Tryd.pinned (OpenSpec.ofChange fnGoneBackSpec)

/-- ITS FALSE NEIGHBOUR: 'it returns false'. Refute it at one input. -/
def fnGoneBackWrong : ChangeSpec := { name := "fnGoneBack", vars := ["loop.example/plashet/impl.creators"], fn := fun _ => fun
  | [d, g1] => { results := [.lit (.bool false)], args := [d], vars := [g1] }
  | _ => none }
def FnGoneBackWrongFalsely : Prop := fnGoneBackRow.holds Tryd.pinned (OpenSpec.ofChange fnGoneBackWrong)

/- THE SECOND FORM. 'bulk': how many values and letters a reading holds, each counted each time it is reached (what is shared counts as often as it is met; a slice's spare places count too). A statement '..UptoSaid' is the law's where the arguments, and the package variables that the reading takes, are together of bulk at most 1048576: NARROWER than '..Said'. Prove '..Said' where nothing that the law and all that it calls make is longer than what came in: it says more and counts as full. Else prove '..UptoSaid'. A law counts once. -/
mutual
def uptoBulk {H : Type} : DataW H → Nat
  | .lit (.string bytes) => bytes.length + 1
  | .lit _ => 1
  | .nil => 1
  | .ptr d => uptoBulk d + 1
  | .slice elems spare => uptoBulkAll elems + uptoBulkAll spare + 1
  | .agg parts => uptoBulkAll parts + 1
  | .iface _ d => uptoBulk d + 1
  | .map entries => uptoBulkEntries entries + 1
  | .held _ => 1
def uptoBulkAll {H : Type} : List (DataW H) → Nat
  | [] => 0
  | d :: r => uptoBulk d + uptoBulkAll r
def uptoBulkEntries {H : Type} : List (Lit × DataW H) → Nat
  | [] => 0
  | x :: r => uptoBulkEntry x + uptoBulkEntries r
def uptoBulkEntry {H : Type} : Lit × DataW H → Nat
  | (.string bytes, d) => bytes.length + uptoBulk d + 1
  | (_, d) => uptoBulk d + 1
 end
def uptoSmall : (H : Type) → List (DataW H) → Bool := fun _ ds => decide (uptoBulkAll ds ≤ 1048576)
def OpenSpec.upto (s : _root_.Go.ChangeSpec) : _root_.Go.OpenSpec := { _root_.Go.OpenSpec.ofChange s with cond := some uptoSmall }

/-- 'laws.FnWhere', WHERE WHAT IT READS IS OF BULK AT MOST 1048576: true; the input reads as it did. -/
def fnWhereUptoRow : OpenClaim := { program := "ytlhlkbbjmbpgpaadoor", sum := "8e65dda1e4ea6a092be13a3a0000142669d1e611fc344807619edc033828926c", func := "loop.example/plashet/laws.FnWhere", spec := "fnWhere", unfollowed := true, recurses := true, named := ["loop.example/plashet/impl.creators"], apart := false, laid := [("loop.example/plashet/impl.creators", laid_loop_example_plashet_impl_creators)], narrowed := true }
def FnWhereUptoSaid : Prop := fnWhereUptoRow.holds Tryd.pinned (OpenSpec.upto fnWhereSpec)

/-- 'laws.FnWhereText', WHERE WHAT IT READS IS OF BULK AT MOST 1048576: true; the input reads as it did. -/
def fnWhereTextUptoRow : OpenClaim := { program := "ytlhlkbbjmbpgpaadoor", sum := "8e65dda1e4ea6a092be13a3a0000142669d1e611fc344807619edc033828926c", func := "loop.example/plashet/laws.FnWhereText", spec := "fnWhereText", unfollowed := true, recurses := true, named := ["loop.example/plashet/impl.creators"], apart := false, laid := [("loop.example/plashet/impl.creators", laid_loop_example_plashet_impl_creators)], narrowed := true }
def FnWhereTextUptoSaid : Prop := fnWhereTextUptoRow.holds Tryd.pinned (OpenSpec.upto fnWhereTextSpec)

/-- 'laws.FnTextOnly', WHERE WHAT IT READS IS OF BULK AT MOST 1048576: true; the input reads as it did. -/
def fnTextOnlyUptoRow : OpenClaim := { program := "ytlhlkbbjmbpgpaadoor", sum := "8e65dda1e4ea6a092be13a3a0000142669d1e611fc344807619edc033828926c", func := "loop.example/plashet/laws.FnTextOnly", spec := "fnTextOnly", unfollowed := true, recurses := true, named := ["loop.example/plashet/impl.creators"], apart := false, laid := [("loop.example/plashet/impl.creators", laid_loop_example_plashet_impl_creators)], narrowed := true }
def FnTextOnlyUptoSaid : Prop := fnTextOnlyUptoRow.holds Tryd.pinned (OpenSpec.upto fnTextOnlySpec)

/-- 'laws.FnTextTwo', WHERE WHAT IT READS IS OF BULK AT MOST 1048576: true; the input reads as it did. -/
def fnTextTwoUptoRow : OpenClaim := { program := "ytlhlkbbjmbpgpaadoor", sum := "8e65dda1e4ea6a092be13a3a0000142669d1e611fc344807619edc033828926c", func := "loop.example/plashet/laws.FnTextTwo", spec := "fnTextTwo", unfollowed := true, recurses := true, named := ["loop.example/plashet/impl.creators"], apart := false, laid := [("loop.example/plashet/impl.creators", laid_loop_example_plashet_impl_creators)], narrowed := true }
def FnTextTwoUptoSaid : Prop := fnTextTwoUptoRow.holds Tryd.pinned (OpenSpec.upto fnTextTwoSpec)

/-- 'laws.FnDoWhere', WHERE WHAT IT READS IS OF BULK AT MOST 1048576: true; the input reads as it did. -/
def fnDoWhereUptoRow : OpenClaim := { program := "ytlhlkbbjmbpgpaadoor", sum := "8e65dda1e4ea6a092be13a3a0000142669d1e611fc344807619edc033828926c", func := "loop.example/plashet/laws.FnDoWhere", spec := "fnDoWhere", unfollowed := true, recurses := true, named := ["loop.example/plashet/impl.creators"], apart := false, laid := [("loop.example/plashet/impl.creators", laid_loop_example_plashet_impl_creators)], narrowed := true }
def FnDoWhereUptoSaid : Prop := fnDoWhereUptoRow.holds Tryd.pinned (OpenSpec.upto fnDoWhereSpec)

/-- 'laws.FnDoTwice', WHERE WHAT IT READS IS OF BULK AT MOST 1048576: true; the input reads as it did. -/
def fnDoTwiceUptoRow : OpenClaim := { program := "ytlhlkbbjmbpgpaadoor", sum := "8e65dda1e4ea6a092be13a3a0000142669d1e611fc344807619edc033828926c", func := "loop.example/plashet/laws.FnDoTwice", spec := "fnDoTwice", unfollowed := true, recurses := true, named := ["loop.example/plashet/impl.creators"], apart := false, laid := [("loop.example/plashet/impl.creators", laid_loop_example_plashet_impl_creators)], narrowed := true }
def FnDoTwiceUptoSaid : Prop := fnDoTwiceUptoRow.holds Tryd.pinned (OpenSpec.upto fnDoTwiceSpec)

/-- 'laws.FnMoveTwo', WHERE WHAT IT READS IS OF BULK AT MOST 1048576: true; the input reads as it did. -/
def fnMoveTwoUptoRow : OpenClaim := { program := "ytlhlkbbjmbpgpaadoor", sum := "8e65dda1e4ea6a092be13a3a0000142669d1e611fc344807619edc033828926c", func := "loop.example/plashet/laws.FnMoveTwo", spec := "fnMoveTwo", unfollowed := true, recurses := true, named := ["loop.example/plashet/impl.creators"], apart := false, laid := [("loop.example/plashet/impl.creators", laid_loop_example_plashet_impl_creators)], narrowed := true }
def FnMoveTwoUptoSaid : Prop := fnMoveTwoUptoRow.holds Tryd.pinned (OpenSpec.upto fnMoveTwoSpec)

/-- 'laws.FnMakeMove', WHERE WHAT IT READS IS OF BULK AT MOST 1048576: true; the input reads as it did. -/
def fnMakeMoveUptoRow : OpenClaim := { program := "ytlhlkbbjmbpgpaadoor", sum := "8e65dda1e4ea6a092be13a3a0000142669d1e611fc344807619edc033828926c", func := "loop.example/plashet/laws.FnMakeMove", spec := "fnMakeMove", unfollowed := true, recurses := true, named := ["loop.example/plashet/impl.creators"], apart := false, laid := [("loop.example/plashet/impl.creators", laid_loop_example_plashet_impl_creators)], narrowed := true }
def FnMakeMoveUptoSaid : Prop := fnMakeMoveUptoRow.holds Tryd.pinned (OpenSpec.upto fnMakeMoveSpec)

/-- 'laws.FnMoveAll', WHERE WHAT IT READS IS OF BULK AT MOST 1048576: true; the input reads as it did. -/
def fnMoveAllUptoRow : OpenClaim := { program := "ytlhlkbbjmbpgpaadoor", sum := "8e65dda1e4ea6a092be13a3a0000142669d1e611fc344807619edc033828926c", func := "loop.example/plashet/laws.FnMoveAll", spec := "fnMoveAll", unfollowed := true, recurses := true, named := ["loop.example/plashet/impl.creators"], apart := false, laid := [("loop.example/plashet/impl.creators", laid_loop_example_plashet_impl_creators)], narrowed := true }
def FnMoveAllUptoSaid : Prop := fnMoveAllUptoRow.holds Tryd.pinned (OpenSpec.upto fnMoveAllSpec)

/-- 'laws.FnDoTexts', WHERE WHAT IT READS IS OF BULK AT MOST 1048576: true; the input reads as it did. -/
def fnDoTextsUptoRow : OpenClaim := { program := "ytlhlkbbjmbpgpaadoor", sum := "8e65dda1e4ea6a092be13a3a0000142669d1e611fc344807619edc033828926c", func := "loop.example/plashet/laws.FnDoTexts", spec := "fnDoTexts", unfollowed := true, recurses := true, named := ["loop.example/plashet/impl.creators"], apart := false, laid := [("loop.example/plashet/impl.creators", laid_loop_example_plashet_impl_creators)], narrowed := true }
def FnDoTextsUptoSaid : Prop := fnDoTextsUptoRow.holds Tryd.pinned (OpenSpec.upto fnDoTextsSpec)

/-- 'laws.FnTreeForm', WHERE WHAT IT READS IS OF BULK AT MOST 1048576: true; the input reads as it did. -/
def fnTreeFormUptoRow : OpenClaim := { program := "ytlhlkbbjmbpgpaadoor", sum := "8e65dda1e4ea6a092be13a3a0000142669d1e611fc344807619edc033828926c", func := "loop.example/plashet/laws.FnTreeForm", spec := "fnTreeForm", unfollowed := true, recurses := true, named := ["loop.example/plashet/impl.creators"], apart := false, laid := [("loop.example/plashet/impl.creators", laid_loop_example_plashet_impl_creators)], narrowed := true }
def FnTreeFormUptoSaid : Prop := fnTreeFormUptoRow.holds Tryd.pinned (OpenSpec.upto fnTreeFormSpec)

/-- 'laws.FnKeyIn', WHERE WHAT IT READS IS OF BULK AT MOST 1048576: true; the input reads as it did. -/
def fnKeyInUptoRow : OpenClaim := { program := "ytlhlkbbjmbpgpaadoor", sum := "8e65dda1e4ea6a092be13a3a0000142669d1e611fc344807619edc033828926c", func := "loop.example/plashet/laws.FnKeyIn", spec := "fnKeyIn", unfollowed := true, recurses := true, named := ["loop.example/plashet/impl.creators"], apart := false, laid := [("loop.example/plashet/impl.creators", laid_loop_example_plashet_impl_creators)], narrowed := true }
def FnKeyInUptoSaid : Prop := fnKeyInUptoRow.holds Tryd.pinned (OpenSpec.upto fnKeyInSpec)

/-- 'laws.FnKeyOut', WHERE WHAT IT READS IS OF BULK AT MOST 1048576: true; the input reads as it did. -/
def fnKeyOutUptoRow : OpenClaim := { program := "ytlhlkbbjmbpgpaadoor", sum := "8e65dda1e4ea6a092be13a3a0000142669d1e611fc344807619edc033828926c", func := "loop.example/plashet/laws.FnKeyOut", spec := "fnKeyOut", unfollowed := true, recurses := true, named := ["loop.example/plashet/impl.creators"], apart := false, laid := [("loop.example/plashet/impl.creators", laid_loop_example_plashet_impl_creators)], narrowed := true }
def FnKeyOutUptoSaid : Prop := fnKeyOutUptoRow.holds Tryd.pinned (OpenSpec.upto fnKeyOutSpec)

/-- 'laws.FnKeyGone', WHERE WHAT IT READS IS OF BULK AT MOST 1048576: true; the input reads as it did. -/
def fnKeyGoneUptoRow : OpenClaim := { program := "ytlhlkbbjmbpgpaadoor", sum := "8e65dda1e4ea6a092be13a3a0000142669d1e611fc344807619edc033828926c", func := "loop.example/plashet/laws.FnKeyGone", spec := "fnKeyGone", unfollowed := true, recurses := true, named := ["loop.example/plashet/impl.creators"], apart := false, laid := [("loop.example/plashet/impl.creators", laid_loop_example_plashet_impl_creators)], narrowed := true }
def FnKeyGoneUptoSaid : Prop := fnKeyGoneUptoRow.holds Tryd.pinned (OpenSpec.upto fnKeyGoneSpec)

/-- 'laws.FnInOut', WHERE WHAT IT READS IS OF BULK AT MOST 1048576: true; the input reads as it did. -/
def fnInOutUptoRow : OpenClaim := { program := "ytlhlkbbjmbpgpaadoor", sum := "8e65dda1e4ea6a092be13a3a0000142669d1e611fc344807619edc033828926c", func := "loop.example/plashet/laws.FnInOut", spec := "fnInOut", unfollowed := true, recurses := true, named := ["loop.example/plashet/impl.creators"], apart := false, laid := [("loop.example/plashet/impl.creators", laid_loop_example_plashet_impl_creators)], narrowed := true }
def FnInOutUptoSaid : Prop := fnInOutUptoRow.holds Tryd.pinned (OpenSpec.upto fnInOutSpec)

/-- 'laws.FnInDepth', WHERE WHAT IT READS IS OF BULK AT MOST 1048576: true; the input reads as it did. -/
def fnInDepthUptoRow : OpenClaim := { program := "ytlhlkbbjmbpgpaadoor", sum := "8e65dda1e4ea6a092be13a3a0000142669d1e611fc344807619edc033828926c", func := "loop.example/plashet/laws.FnInDepth", spec := "fnInDepth", unfollowed := true, recurses := true, named := ["loop.example/plashet/impl.creators"], apart := false, laid := [("loop.example/plashet/impl.creators", laid_loop_example_plashet_impl_creators)], narrowed := true }
def FnInDepthUptoSaid : Prop := fnInDepthUptoRow.holds Tryd.pinned (OpenSpec.upto fnInDepthSpec)

/-- 'laws.FnOutIn', WHERE WHAT IT READS IS OF BULK AT MOST 1048576: true; the input reads as it did. -/
def fnOutInUptoRow : OpenClaim := { program := "ytlhlkbbjmbpgpaadoor", sum := "8e65dda1e4ea6a092be13a3a0000142669d1e611fc344807619edc033828926c", func := "loop.example/plashet/laws.FnOutIn", spec := "fnOutIn", unfollowed := true, recurses := true, named := ["loop.example/plashet/impl.creators"], apart := false, laid := [("loop.example/plashet/impl.creators", laid_loop_example_plashet_impl_creators)], narrowed := true }
def FnOutInUptoSaid : Prop := fnOutInUptoRow.holds Tryd.pinned (OpenSpec.upto fnOutInSpec)

/-- 'laws.FnGoneBack', WHERE WHAT IT READS IS OF BULK AT MOST 1048576: true; the input reads as it did. -/
def fnGoneBackUptoRow : OpenClaim := { program := "ytlhlkbbjmbpgpaadoor", sum := "8e65dda1e4ea6a092be13a3a0000142669d1e611fc344807619edc033828926c", func := "loop.example/plashet/laws.FnGoneBack", spec := "fnGoneBack", unfollowed := true, recurses := true, named := ["loop.example/plashet/impl.creators"], apart := false, laid := [("loop.example/plashet/impl.creators", laid_loop_example_plashet_impl_creators)], narrowed := true }
def FnGoneBackUptoSaid : Prop := fnGoneBackUptoRow.holds Tryd.pinned (OpenSpec.upto fnGoneBackSpec)

end Rows
end Go.Proofs.YtlhlkbbjmbpgpaaDoor
