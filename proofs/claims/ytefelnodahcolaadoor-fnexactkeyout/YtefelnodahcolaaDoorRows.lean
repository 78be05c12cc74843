/-
  NARROWER THAN 'FOR EVERY INPUT', by the rows' own cells (each row's printed sentence says how): FnExactKeyIn: laid · FnExactKeyOut: laid · FnExactKeyGone: laid · FnExactKeyBack: laid.
  DERIVED. THE GIVEN ROWS OF THIS SEAT. 4 by the template 'for every input the law returns true; each argument reads behind the call as it read before'; 0 by the template 'total and deterministic' (their statements: YtefelnodahcolaaDoorTotals.lean).
  GIVEN WITH THE SEED: the statements are not yours to turn. If you find one false, say at which input.
  Laid BY PROGRAM, IN A SANDBOX (cutbox-rows.mjs): the forced cells as the released guide's own fill.sh prints them over the translation 2aec739b0853656c… (all of the seat's roots in one cut). By AI agents, Wed Nov 11 2026. No macro, syntax, notation, axiom, sorry.
-/
import Derived.Test.YtefelnodahcolaaDoorChecked
import GoSem.Claim
import GoSem.ClaimJoined
import GoSem.ClaimMapViews
import Derived.JoinedTies
import Derived.KernelRfl
namespace Go.Proofs.YtefelnodahcolaaDoor
/- THE CELL 'sum', in the pinned program and in every row, IS THE sha256 OF THE DUMP (.gsa) THAT YtefelnodahcolaaDoorProg.lean LOADS. Nothing in Lean hashes anything: it is a label: what it is worth is what the hold of that sum in a sandbox is worth. -/
noncomputable def Tryd.pinned : Pinned := { name := "ytefelnodahcolaadoor", sum := "2aec739b0853656cddace3c313898c80c3cfe2305b9af919d1a20a20f80a7113", checked := Tryd.checked }
namespace Rows
def none {H : Type} : Left H := { results := [], args := [] }

/- WHAT THE LISTED PACKAGE-LEVEL VARIABLES READ AS WHEN THE CALL BEGINS. Each datum BY PROGRAM (the guide's laid-datum.mjs) off the statement by which the dump's own 'gosem.cut.vars' lays the variable. In a bare row this is a premise. The card (YtefelnodahcolaaDoorCards.lean) ties it to the program's text. -/
def laid_loop_example_plashet_impl_creators {H : Type} : DataW H := .agg [.lit (.int .i64 (-1)), .lit (.int .i64 0), .lit (.int .i64 0), .lit (.int .i64 0), .lit (.int .i64 (-1)), .lit (.int .i64 (-1)), .lit (.int .i64 (-1)), .lit (.int .i64 (-1)), .lit (.int .i64 (-1)), .lit (.int .i64 (-1)), .lit (.int .i64 (-1)), .lit (.int .i64 1), .lit (.int .i64 1), .lit (.int .i64 1), .lit (.int .i64 1), .lit (.int .i64 1), .lit (.int .i64 1), .lit (.int .i64 (-1)), .lit (.int .i64 (-1)), .lit (.int .i64 (-1)), .lit (.int .i64 (-1)), .lit (.int .i64 2), .lit (.int .i64 2), .lit (.int .i64 2), .lit (.int .i64 2), .lit (.int .i64 2), .lit (.int .i64 2), .lit (.int .i64 (-1)), .lit (.int .i64 (-1)), .lit (.int .i64 (-1)), .lit (.int .i64 (-1)), .lit (.int .i64 3), .lit (.int .i64 3), .lit (.int .i64 3), .lit (.int .i64 3), .lit (.int .i64 3), .lit (.int .i64 3)]

/-- 'laws.FnExactKeyIn': WHATEVER THE INPUT: true; the input reads as it did. -/
def fnExactKeyInSpec : ChangeSpec := { name := "fnExactKeyIn", vars := ["loop.example/plashet/impl.creators"], fn := fun _ => fun
  | [d1, d2, g1] => { results := [.lit (.bool true)], args := [d1, d2], vars := [g1] }
  | _ => none }
def fnExactKeyInRow : OpenClaim := { program := "ytefelnodahcolaadoor", sum := "2aec739b0853656cddace3c313898c80c3cfe2305b9af919d1a20a20f80a7113", func := "loop.example/plashet/laws.FnExactKeyIn", spec := "fnExactKeyIn", unfollowed := true, recurses := true, named := ["loop.example/plashet/impl.creators"], apart := false, laid := [("loop.example/plashet/impl.creators", laid_loop_example_plashet_impl_creators)] }
def FnExactKeyInSaid : Prop := fnExactKeyInRow.holds Tryd.pinned (OpenSpec.ofChange fnExactKeyInSpec)

/-- ITS FALSE NEIGHBOUR: 'it returns false'. Refute it at one input. -/
def fnExactKeyInWrong : ChangeSpec := { name := "fnExactKeyIn", vars := ["loop.example/plashet/impl.creators"], fn := fun _ => fun
  | [d1, d2, g1] => { results := [.lit (.bool false)], args := [d1, d2], vars := [g1] }
  | _ => none }
def FnExactKeyInWrongFalsely : Prop := fnExactKeyInRow.holds Tryd.pinned (OpenSpec.ofChange fnExactKeyInWrong)

/-- 'laws.FnExactKeyOut': WHATEVER THE INPUT: true; the input reads as it did. -/
def fnExactKeyOutSpec : ChangeSpec := { name := "fnExactKeyOut", vars := ["loop.example/plashet/impl.creators"], fn := fun _ => fun
  | [d1, d2, g1] => { results := [.lit (.bool true)], args := [d1, d2], vars := [g1] }
  | _ => none }
def fnExactKeyOutRow : OpenClaim := { program := "ytefelnodahcolaadoor", sum := "2aec739b0853656cddace3c313898c80c3cfe2305b9af919d1a20a20f80a7113", func := "loop.example/plashet/laws.FnExactKeyOut", spec := "fnExactKeyOut", unfollowed := true, recurses := true, named := ["loop.example/plashet/impl.creators"], apart := false, laid := [("loop.example/plashet/impl.creators", laid_loop_example_plashet_impl_creators)] }
def FnExactKeyOutSaid : Prop := fnExactKeyOutRow.holds Tryd.pinned (OpenSpec.ofChange fnExactKeyOutSpec)

/-- ITS FALSE NEIGHBOUR: 'it returns false'. Refute it at one input. -/
def fnExactKeyOutWrong : ChangeSpec := { name := "fnExactKeyOut", vars := ["loop.example/plashet/impl.creators"], fn := fun _ => fun
  | [d1, d2, g1] => { results := [.lit (.bool false)], args := [d1, d2], vars := [g1] }
  | _ => none }
def FnExactKeyOutWrongFalsely : Prop := fnExactKeyOutRow.holds Tryd.pinned (OpenSpec.ofChange fnExactKeyOutWrong)

/-- 'laws.FnExactKeyGone': WHATEVER THE INPUT: true; the input reads as it did. -/
def fnExactKeyGoneSpec : ChangeSpec := { name := "fnExactKeyGone", vars := ["loop.example/plashet/impl.creators"], fn := fun _ => fun
  | [d1, d2, g1] => { results := [.lit (.bool true)], args := [d1, d2], vars := [g1] }
  | _ => none }
def fnExactKeyGoneRow : OpenClaim := { program := "ytefelnodahcolaadoor", sum := "2aec739b0853656cddace3c313898c80c3cfe2305b9af919d1a20a20f80a7113", func := "loop.example/plashet/laws.FnExactKeyGone", spec := "fnExactKeyGone", unfollowed := true, recurses := true, named := ["loop.example/plashet/impl.creators"], apart := false, laid := [("loop.example/plashet/impl.creators", laid_loop_example_plashet_impl_creators)] }
def FnExactKeyGoneSaid : Prop := fnExactKeyGoneRow.holds Tryd.pinned (OpenSpec.ofChange fnExactKeyGoneSpec)

/-- ITS FALSE NEIGHBOUR: 'it returns false'. Refute it at one input. -/
def fnExactKeyGoneWrong : ChangeSpec := { name := "fnExactKeyGone", vars := ["loop.example/plashet/impl.creators"], fn := fun _ => fun
  | [d1, d2, g1] => { results := [.lit (.bool false)], args := [d1, d2], vars := [g1] }
  | _ => none }
def FnExactKeyGoneWrongFalsely : Prop := fnExactKeyGoneRow.holds Tryd.pinned (OpenSpec.ofChange fnExactKeyGoneWrong)

/-- 'laws.FnExactKeyBack': WHATEVER THE INPUT: true; the input reads as it did. -/
def fnExactKeyBackSpec : ChangeSpec := { name := "fnExactKeyBack", vars := ["loop.example/plashet/impl.creators"], fn := fun _ => fun
  | [d1, d2, g1] => { results := [.lit (.bool true)], args := [d1, d2], vars := [g1] }
  | _ => none }
def fnExactKeyBackRow : OpenClaim := { program := "ytefelnodahcolaadoor", sum := "2aec739b0853656cddace3c313898c80c3cfe2305b9af919d1a20a20f80a7113", func := "loop.example/plashet/laws.FnExactKeyBack", spec := "fnExactKeyBack", unfollowed := true, recurses := true, named := ["loop.example/plashet/impl.creators"], apart := false, laid := [("loop.example/plashet/impl.creators", laid_loop_example_plashet_impl_creators)] }
def FnExactKeyBackSaid : Prop := fnExactKeyBackRow.holds Tryd.pinned (OpenSpec.ofChange fnExactKeyBackSpec)

/-- ITS FALSE NEIGHBOUR: 'it returns false'. Refute it at one input. -/
def fnExactKeyBackWrong : ChangeSpec := { name := "fnExactKeyBack", vars := ["loop.example/plashet/impl.creators"], fn := fun _ => fun
  | [d1, d2, g1] => { results := [.lit (.bool false)], args := [d1, d2], vars := [g1] }
  | _ => none }
def FnExactKeyBackWrongFalsely : Prop := fnExactKeyBackRow.holds Tryd.pinned (OpenSpec.ofChange fnExactKeyBackWrong)

/- THE SECOND FORM. 'bulk': how many values and letters a reading holds, each counted each time it is reached (what is shared counts as often as it is met; a slice's spare places count too). A statement '..UptoSaid' is the law's where the arguments, and the package variables that the reading takes, are together of bulk at most 1048576: NARROWER than '..Said'. Prove '..Said' where nothing that the law and all that it calls make is longer than what came in: it says more and counts as full. Else prove '..UptoSaid'. A law counts once. -/
mutual
def uptoBulk {H : Type} : DataW H → Nat
  | .lit (.string bytes) => bytes.length + 1
  | .lit _ => 1
  | .nil => 1
  | .ptr d => uptoBulk d + 1
  | .slice elems spare => uptoBulkAll elems + uptoBulkAll spare + 1
  | .agg parts => uptoBulkAll parts + 1
  | .iface _ d => uptoBulk d + 1
  | .map entries => uptoBulkEntries entries + 1
  | .held _ => 1
def uptoBulkAll {H : Type} : List (DataW H) → Nat
  | [] => 0
  | d :: r => uptoBulk d + uptoBulkAll r
def uptoBulkEntries {H : Type} : List (Lit × DataW H) → Nat
  | [] => 0
  | x :: r => uptoBulkEntry x + uptoBulkEntries r
def uptoBulkEntry {H : Type} : Lit × DataW H → Nat
  | (.string bytes, d) => bytes.length + uptoBulk d + 1
  | (_, d) => uptoBulk d + 1
 end
def uptoSmall : (H : Type) → List (DataW H) → Bool := fun _ ds => decide (uptoBulkAll ds ≤ 1048576)
def OpenSpec.upto (s : _root_.Go.ChangeSpec) : _root_.Go.OpenSpec := { _root_.Go.OpenSpec.ofChange s with cond := some uptoSmall }

/-- 'laws.FnExactKeyIn', WHERE WHAT IT READS IS OF BULK AT MOST 1048576: true; the input reads as it did. -/
def fnExactKeyInUptoRow : OpenClaim := { program := "ytefelnodahcolaadoor", sum := "2aec739b0853656cddace3c313898c80c3cfe2305b9af919d1a20a20f80a7113", func := "loop.example/plashet/laws.FnExactKeyIn", spec := "fnExactKeyIn", unfollowed := true, recurses := true, named := ["loop.example/plashet/impl.creators"], apart := false, laid := [("loop.example/plashet/impl.creators", laid_loop_example_plashet_impl_creators)], narrowed := true }
def FnExactKeyInUptoSaid : Prop := fnExactKeyInUptoRow.holds Tryd.pinned (OpenSpec.upto fnExactKeyInSpec)

/-- 'laws.FnExactKeyOut', WHERE WHAT IT READS IS OF BULK AT MOST 1048576: true; the input reads as it did. -/
def fnExactKeyOutUptoRow : OpenClaim := { program := "ytefelnodahcolaadoor", sum := "2aec739b0853656cddace3c313898c80c3cfe2305b9af919d1a20a20f80a7113", func := "loop.example/plashet/laws.FnExactKeyOut", spec := "fnExactKeyOut", unfollowed := true, recurses := true, named := ["loop.example/plashet/impl.creators"], apart := false, laid := [("loop.example/plashet/impl.creators", laid_loop_example_plashet_impl_creators)], narrowed := true }
def FnExactKeyOutUptoSaid : Prop := fnExactKeyOutUptoRow.holds Tryd.pinned (OpenSpec.upto fnExactKeyOutSpec)

/-- 'laws.FnExactKeyGone', WHERE WHAT IT READS IS OF BULK AT MOST 1048576: true; the input reads as it did. -/
def fnExactKeyGoneUptoRow : OpenClaim := { program := "ytefelnodahcolaadoor", sum := "2aec739b0853656cddace3c313898c80c3cfe2305b9af919d1a20a20f80a7113", func := "loop.example/plashet/laws.FnExactKeyGone", spec := "fnExactKeyGone", unfollowed := true, recurses := true, named := ["loop.example/plashet/impl.creators"], apart := false, laid := [("loop.example/plashet/impl.creators", laid_loop_example_plashet_impl_creators)], narrowed := true }
def FnExactKeyGoneUptoSaid : Prop := fnExactKeyGoneUptoRow.holds Tryd.pinned (OpenSpec.upto fnExactKeyGoneSpec)

/-- 'laws.FnExactKeyBack', WHERE WHAT IT READS IS OF BULK AT MOST 1048576: true; the input reads as it did. -/
def fnExactKeyBackUptoRow : OpenClaim := { program := "ytefelnodahcolaadoor", sum := "2aec739b0853656cddace3c313898c80c3cfe2305b9af919d1a20a20f80a7113", func := "loop.example/plashet/laws.FnExactKeyBack", spec := "fnExactKeyBack", unfollowed := true, recurses := true, named := ["loop.example/plashet/impl.creators"], apart := false, laid := [("loop.example/plashet/impl.creators", laid_loop_example_plashet_impl_creators)], narrowed := true }
def FnExactKeyBackUptoSaid : Prop := fnExactKeyBackUptoRow.holds Tryd.pinned (OpenSpec.upto fnExactKeyBackSpec)

end Rows
end Go.Proofs.YtefelnodahcolaaDoor
