/-
  NARROWER THAN 'FOR EVERY INPUT', by the rows' own cells (each row's printed sentence says how): FnClientNew: laid · FnHearAll: laid · FnNews: laid · FnHearTwo: laid · FnHearAgain: laid.
  DERIVED. THE GIVEN ROWS OF THIS SEAT. 5 by the template 'for every input the law returns true; each argument reads behind the call as it read before'; 0 by the template 'total and deterministic' (their statements: YtoofdhooinaneaaDoorTotals.lean).
  GIVEN WITH THE SEED: the statements are not yours to turn. If you find one false, say at which input.
  Laid BY PROGRAM, IN A SANDBOX (cutbox-rows.mjs): the forced cells as the released guide's own fill.sh prints them over the translation 7681c7d099c6f9ed… (all of the seat's roots in one cut). By AI agents, Wed Nov 11 2026. No macro, syntax, notation, axiom, sorry.
-/
import Derived.Test.YtoofdhooinaneaaDoorChecked
import GoSem.Claim
import GoSem.ClaimJoined
import GoSem.ClaimMapViews
import Derived.JoinedTies
import Derived.KernelRfl
namespace Go.Proofs.YtoofdhooinaneaaDoor
/- THE CELL 'sum', in the pinned program and in every row, IS THE sha256 OF THE DUMP (.gsa) THAT YtoofdhooinaneaaDoorProg.lean LOADS. Nothing in Lean hashes anything: it is a label: what it is worth is what the hold of that sum in a sandbox is worth. -/
noncomputable def Tryd.pinned : Pinned := { name := "ytoofdhooinaneaadoor", sum := "7681c7d099c6f9edc29e0568327b542448cf49a1fd0901b443b5ecb12e3411f1", checked := Tryd.checked }
namespace Rows
def none {H : Type} : Left H := { results := [], args := [] }

/- WHAT THE LISTED PACKAGE-LEVEL VARIABLES READ AS WHEN THE CALL BEGINS. Each datum BY PROGRAM (the guide's laid-datum.mjs) off the statement by which the dump's own 'gosem.cut.vars' lays the variable. In a bare row this is a premise. The card (YtoofdhooinaneaaDoorCards.lean) ties it to the program's text. -/
def laid_loop_example_plashet_impl_creators {H : Type} : DataW H := .agg [.lit (.int .i64 (-1)), .lit (.int .i64 0), .lit (.int .i64 0), .lit (.int .i64 0), .lit (.int .i64 (-1)), .lit (.int .i64 (-1)), .lit (.int .i64 (-1)), .lit (.int .i64 (-1)), .lit (.int .i64 (-1)), .lit (.int .i64 (-1)), .lit (.int .i64 (-1)), .lit (.int .i64 1), .lit (.int .i64 1), .lit (.int .i64 1), .lit (.int .i64 1), .lit (.int .i64 1), .lit (.int .i64 1), .lit (.int .i64 (-1)), .lit (.int .i64 (-1)), .lit (.int .i64 (-1)), .lit (.int .i64 (-1)), .lit (.int .i64 2), .lit (.int .i64 2), .lit (.int .i64 2), .lit (.int .i64 2), .lit (.int .i64 2), .lit (.int .i64 2), .lit (.int .i64 (-1)), .lit (.int .i64 (-1)), .lit (.int .i64 (-1)), .lit (.int .i64 (-1)), .lit (.int .i64 3), .lit (.int .i64 3), .lit (.int .i64 3), .lit (.int .i64 3), .lit (.int .i64 3), .lit (.int .i64 3)]

/-- 'laws.FnClientNew': WHATEVER THE INPUT: true; the input reads as it did. -/
def fnClientNewSpec : ChangeSpec := { name := "fnClientNew", vars := ["loop.example/plashet/impl.creators"], fn := fun _ => fun
  | [d, g1] => { results := [.lit (.bool true)], args := [d], vars := [g1] }
  | _ => none }
def fnClientNewRow : OpenClaim := { program := "ytoofdhooinaneaadoor", sum := "7681c7d099c6f9edc29e0568327b542448cf49a1fd0901b443b5ecb12e3411f1", func := "loop.example/plashet/laws.FnClientNew", spec := "fnClientNew", unfollowed := true, recurses := true, named := ["loop.example/plashet/impl.creators"], apart := false, laid := [("loop.example/plashet/impl.creators", laid_loop_example_plashet_impl_creators)] }
def FnClientNewSaid : Prop := fnClientNewRow.holds Tryd.pinned (OpenSpec.ofChange fnClientNewSpec)

/-- ITS FALSE NEIGHBOUR: 'it returns false'. Refute it at one input. -/
def fnClientNewWrong : ChangeSpec := { name := "fnClientNew", vars := ["loop.example/plashet/impl.creators"], fn := fun _ => fun
  | [d, g1] => { results := [.lit (.bool false)], args := [d], vars := [g1] }
  | _ => none }
def FnClientNewWrongFalsely : Prop := fnClientNewRow.holds Tryd.pinned (OpenSpec.ofChange fnClientNewWrong)

/-- 'laws.FnHearAll': WHATEVER THE INPUT: true; the input reads as it did. -/
def fnHearAllSpec : ChangeSpec := { name := "fnHearAll", vars := ["loop.example/plashet/impl.creators"], fn := fun _ => fun
  | [d1, d2, g1] => { results := [.lit (.bool true)], args := [d1, d2], vars := [g1] }
  | _ => none }
def fnHearAllRow : OpenClaim := { program := "ytoofdhooinaneaadoor", sum := "7681c7d099c6f9edc29e0568327b542448cf49a1fd0901b443b5ecb12e3411f1", func := "loop.example/plashet/laws.FnHearAll", spec := "fnHearAll", unfollowed := true, recurses := true, named := ["loop.example/plashet/impl.creators"], apart := false, laid := [("loop.example/plashet/impl.creators", laid_loop_example_plashet_impl_creators)] }
def FnHearAllSaid : Prop := fnHearAllRow.holds Tryd.pinned (OpenSpec.ofChange fnHearAllSpec)

/-- ITS FALSE NEIGHBOUR: 'it returns false'. Refute it at one input. -/
def fnHearAllWrong : ChangeSpec := { name := "fnHearAll", vars := ["loop.example/plashet/impl.creators"], fn := fun _ => fun
  | [d1, d2, g1] => { results := [.lit (.bool false)], args := [d1, d2], vars := [g1] }
  | _ => none }
def FnHearAllWrongFalsely : Prop := fnHearAllRow.holds Tryd.pinned (OpenSpec.ofChange fnHearAllWrong)

/-- 'laws.FnNews': WHATEVER THE INPUT: true; the input reads as it did. -/
def fnNewsSpec : ChangeSpec := { name := "fnNews", vars := ["loop.example/plashet/impl.creators"], fn := fun _ => fun
  | [d1, d2, g1] => { results := [.lit (.bool true)], args := [d1, d2], vars := [g1] }
  | _ => none }
def fnNewsRow : OpenClaim := { program := "ytoofdhooinaneaadoor", sum := "7681c7d099c6f9edc29e0568327b542448cf49a1fd0901b443b5ecb12e3411f1", func := "loop.example/plashet/laws.FnNews", spec := "fnNews", unfollowed := true, recurses := true, named := ["loop.example/plashet/impl.creators"], apart := false, laid := [("loop.example/plashet/impl.creators", laid_loop_example_plashet_impl_creators)] }
def FnNewsSaid : Prop := fnNewsRow.holds Tryd.pinned (OpenSpec.ofChange fnNewsSpec)

/-- ITS FALSE NEIGHBOUR: 'it returns false'. Refute it at one input. -/
def fnNewsWrong : ChangeSpec := { name := "fnNews", vars := ["loop.example/plashet/impl.creators"], fn := fun _ => fun
  | [d1, d2, g1] => { results := [.lit (.bool false)], args := [d1, d2], vars := [g1] }
  | _ => none }
def FnNewsWrongFalsely : Prop := fnNewsRow.holds Tryd.pinned (OpenSpec.ofChange fnNewsWrong)

/-- 'laws.FnHearTwo': WHATEVER THE INPUT: true; the input reads as it did. -/
def fnHearTwoSpec : ChangeSpec := { name := "fnHearTwo", vars := ["loop.example/plashet/impl.creators"], fn := fun _ => fun
  | [d1, d2, g1] => { results := [.lit (.bool true)], args := [d1, d2], vars := [g1] }
  | _ => none }
def fnHearTwoRow : OpenClaim := { program := "ytoofdhooinaneaadoor", sum := "7681c7d099c6f9edc29e0568327b542448cf49a1fd0901b443b5ecb12e3411f1", func := "loop.example/plashet/laws.FnHearTwo", spec := "fnHearTwo", unfollowed := true, recurses := true, named := ["loop.example/plashet/impl.creators"], apart := false, laid := [("loop.example/plashet/impl.creators", laid_loop_example_plashet_impl_creators)] }
def FnHearTwoSaid : Prop := fnHearTwoRow.holds Tryd.pinned (OpenSpec.ofChange fnHearTwoSpec)

/-- ITS FALSE NEIGHBOUR: 'it returns false'. Refute it at one input. -/
def fnHearTwoWrong : ChangeSpec := { name := "fnHearTwo", vars := ["loop.example/plashet/impl.creators"], fn := fun _ => fun
  | [d1, d2, g1] => { results := [.lit (.bool false)], args := [d1, d2], vars := [g1] }
  | _ => none }
def FnHearTwoWrongFalsely : Prop := fnHearTwoRow.holds Tryd.pinned (OpenSpec.ofChange fnHearTwoWrong)

/-- 'laws.FnHearAgain': WHATEVER THE INPUT: true; the input reads as it did. -/
def fnHearAgainSpec : ChangeSpec := { name := "fnHearAgain", vars := ["loop.example/plashet/impl.creators"], fn := fun _ => fun
  | [d, g1] => { results := [.lit (.bool true)], args := [d], vars := [g1] }
  | _ => none }
def fnHearAgainRow : OpenClaim := { program := "ytoofdhooinaneaadoor", sum := "7681c7d099c6f9edc29e0568327b542448cf49a1fd0901b443b5ecb12e3411f1", func := "loop.example/plashet/laws.FnHearAgain", spec := "fnHearAgain", unfollowed := true, recurses := true, named := ["loop.example/plashet/impl.creators"], apart := false, laid := [("loop.example/plashet/impl.creators", laid_loop_example_plashet_impl_creators)] }
def FnHearAgainSaid : Prop := fnHearAgainRow.holds Tryd.pinned (OpenSpec.ofChange fnHearAgainSpec)

/-- ITS FALSE NEIGHBOUR: 'it returns false'. Refute it at one input. -/
def fnHearAgainWrong : ChangeSpec := { name := "fnHearAgain", vars := ["loop.example/plashet/impl.creators"], fn := fun _ => fun
  | [d, g1] => { results := [.lit (.bool false)], args := [d], vars := [g1] }
  | _ => none }
def FnHearAgainWrongFalsely : Prop := fnHearAgainRow.holds Tryd.pinned (OpenSpec.ofChange fnHearAgainWrong)

/- THE SECOND FORM. 'bulk': how many values and letters a reading holds, each counted each time it is reached (what is shared counts as often as it is met; a slice's spare places count too). A statement '..UptoSaid' is the law's where the arguments, and the package variables that the reading takes, are together of bulk at most 1048576: NARROWER than '..Said'. Prove '..Said' where nothing that the law and all that it calls make is longer than what came in: it says more and counts as full. Else prove '..UptoSaid'. A law counts once. -/
mutual
def uptoBulk {H : Type} : DataW H → Nat
  | .lit (.string bytes) => bytes.length + 1
  | .lit _ => 1
  | .nil => 1
  | .ptr d => uptoBulk d + 1
  | .slice elems spare => uptoBulkAll elems + uptoBulkAll spare + 1
  | .agg parts => uptoBulkAll parts + 1
  | .iface _ d => uptoBulk d + 1
  | .map entries => uptoBulkEntries entries + 1
  | .held _ => 1
def uptoBulkAll {H : Type} : List (DataW H) → Nat
  | [] => 0
  | d :: r => uptoBulk d + uptoBulkAll r
def uptoBulkEntries {H : Type} : List (Lit × DataW H) → Nat
  | [] => 0
  | x :: r => uptoBulkEntry x + uptoBulkEntries r
def uptoBulkEntry {H : Type} : Lit × DataW H → Nat
  | (.string bytes, d) => bytes.length + uptoBulk d + 1
  | (_, d) => uptoBulk d + 1
 end
def uptoSmall : (H : Type) → List (DataW H) → Bool := fun _ ds => decide (uptoBulkAll ds ≤ 1048576)
def OpenSpec.upto (s : _root_.Go.ChangeSpec) : _root_.Go.OpenSpec := { _root_.Go.OpenSpec.ofChange s with cond := some uptoSmall }

/-- 'laws.FnClientNew', WHERE WHAT IT READS IS OF BULK AT MOST 1048576: true; the input reads as it did. -/
def fnClientNewUptoRow : OpenClaim := { program := "ytoofdhooinaneaadoor", sum := "7681c7d099c6f9edc29e0568327b542448cf49a1fd0901b443b5ecb12e3411f1", func := "loop.example/plashet/laws.FnClientNew", spec := "fnClientNew", unfollowed := true, recurses := true, named := ["loop.example/plashet/impl.creators"], apart := false, laid := [("loop.example/plashet/impl.creators", laid_loop_example_plashet_impl_creators)], narrowed := true }
def FnClientNewUptoSaid : Prop := fnClientNewUptoRow.holds Tryd.pinned (OpenSpec.upto fnClientNewSpec)

/-- 'laws.FnHearAll', WHERE WHAT IT READS IS OF BULK AT MOST 1048576: true; the input reads as it did. -/
def fnHearAllUptoRow : OpenClaim := { program := "ytoofdhooinaneaadoor", sum := "7681c7d099c6f9edc29e0568327b542448cf49a1fd0901b443b5ecb12e3411f1", func := "loop.example/plashet/laws.FnHearAll", spec := "fnHearAll", unfollowed := true, recurses := true, named := ["loop.example/plashet/impl.creators"], apart := false, laid := [("loop.example/plashet/impl.creators", laid_loop_example_plashet_impl_creators)], narrowed := true }
def FnHearAllUptoSaid : Prop := fnHearAllUptoRow.holds Tryd.pinned (OpenSpec.upto fnHearAllSpec)

/-- 'laws.FnNews', WHERE WHAT IT READS IS OF BULK AT MOST 1048576: true; the input reads as it did. -/
def fnNewsUptoRow : OpenClaim := { program := "ytoofdhooinaneaadoor", sum := "7681c7d099c6f9edc29e0568327b542448cf49a1fd0901b443b5ecb12e3411f1", func := "loop.example/plashet/laws.FnNews", spec := "fnNews", unfollowed := true, recurses := true, named := ["loop.example/plashet/impl.creators"], apart := false, laid := [("loop.example/plashet/impl.creators", laid_loop_example_plashet_impl_creators)], narrowed := true }
def FnNewsUptoSaid : Prop := fnNewsUptoRow.holds Tryd.pinned (OpenSpec.upto fnNewsSpec)

/-- 'laws.FnHearTwo', WHERE WHAT IT READS IS OF BULK AT MOST 1048576: true; the input reads as it did. -/
def fnHearTwoUptoRow : OpenClaim := { program := "ytoofdhooinaneaadoor", sum := "7681c7d099c6f9edc29e0568327b542448cf49a1fd0901b443b5ecb12e3411f1", func := "loop.example/plashet/laws.FnHearTwo", spec := "fnHearTwo", unfollowed := true, recurses := true, named := ["loop.example/plashet/impl.creators"], apart := false, laid := [("loop.example/plashet/impl.creators", laid_loop_example_plashet_impl_creators)], narrowed := true }
def FnHearTwoUptoSaid : Prop := fnHearTwoUptoRow.holds Tryd.pinned (OpenSpec.upto fnHearTwoSpec)

/-- 'laws.FnHearAgain', WHERE WHAT IT READS IS OF BULK AT MOST 1048576: true; the input reads as it did. -/
def fnHearAgainUptoRow : OpenClaim := { program := "ytoofdhooinaneaadoor", sum := "7681c7d099c6f9edc29e0568327b542448cf49a1fd0901b443b5ecb12e3411f1", func := "loop.example/plashet/laws.FnHearAgain", spec := "fnHearAgain", unfollowed := true, recurses := true, named := ["loop.example/plashet/impl.creators"], apart := false, laid := [("loop.example/plashet/impl.creators", laid_loop_example_plashet_impl_creators)], narrowed := true }
def FnHearAgainUptoSaid : Prop := fnHearAgainUptoRow.holds Tryd.pinned (OpenSpec.upto fnHearAgainSpec)

end Rows
end Go.Proofs.YtoofdhooinaneaaDoor
