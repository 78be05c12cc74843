/-
  NARROWER THAN 'FOR EVERY INPUT', by the rows' own cells (each row's printed sentence says how): FnKeyIn: laid · FnTreeForm: laid · FnHearAll: laid · FnClientMade: laid · FnClientForm: laid.
  DERIVED. THE GIVEN ROWS OF THIS SEAT. 5 by the template 'for every input the law returns true; each argument reads behind the call as it read before'; 0 by the template 'total and deterministic' (their statements: YtclhjgcapalniaaDoorTotals.lean).
  GIVEN WITH THE SEED: the statements are not yours to turn. If you find one false, say at which input.
  Laid BY PROGRAM, IN A SANDBOX (cutbox-rows.mjs): the forced cells as the released guide's own fill.sh prints them over the translation 4807b467f4451351… (all of the seat's roots in one cut). By AI agents, Wed Nov 11 2026. No macro, syntax, notation, axiom, sorry.
-/
import Derived.Test.YtclhjgcapalniaaDoorChecked
import GoSem.Claim
import GoSem.ClaimJoined
import GoSem.ClaimMapViews
import Derived.JoinedTies
import Derived.KernelRfl
namespace Go.Proofs.YtclhjgcapalniaaDoor
/- THE CELL 'sum', in the pinned program and in every row, IS THE sha256 OF THE DUMP (.gsa) THAT YtclhjgcapalniaaDoorProg.lean LOADS. Nothing in Lean hashes anything: it is a label: what it is worth is what the hold of that sum in a sandbox is worth. -/
noncomputable def Tryd.pinned : Pinned := { name := "ytclhjgcapalniaadoor", sum := "4807b467f44513517d0fb923a3a715c7e7082f54272e7e1a7c058034bd56d026", checked := Tryd.checked }
namespace Rows
def none {H : Type} : Left H := { results := [], args := [] }

/- WHAT THE LISTED PACKAGE-LEVEL VARIABLES READ AS WHEN THE CALL BEGINS. Each datum BY PROGRAM (the guide's laid-datum.mjs) off the statement by which the dump's own 'gosem.cut.vars' lays the variable. In a bare row this is a premise. The card (YtclhjgcapalniaaDoorCards.lean) ties it to the program's text. -/
def laid_loop_example_plashet_impl_creators {H : Type} : DataW H := .agg [.lit (.int .i64 (-1)), .lit (.int .i64 0), .lit (.int .i64 0), .lit (.int .i64 0), .lit (.int .i64 (-1)), .lit (.int .i64 (-1)), .lit (.int .i64 (-1)), .lit (.int .i64 (-1)), .lit (.int .i64 (-1)), .lit (.int .i64 (-1)), .lit (.int .i64 (-1)), .lit (.int .i64 1), .lit (.int .i64 1), .lit (.int .i64 1), .lit (.int .i64 1), .lit (.int .i64 1), .lit (.int .i64 1), .lit (.int .i64 (-1)), .lit (.int .i64 (-1)), .lit (.int .i64 (-1)), .lit (.int .i64 (-1)), .lit (.int .i64 2), .lit (.int .i64 2), .lit (.int .i64 2), .lit (.int .i64 2), .lit (.int .i64 2), .lit (.int .i64 2), .lit (.int .i64 (-1)), .lit (.int .i64 (-1)), .lit (.int .i64 (-1)), .lit (.int .i64 (-1)), .lit (.int .i64 3), .lit (.int .i64 3), .lit (.int .i64 3), .lit (.int .i64 3), .lit (.int .i64 3), .lit (.int .i64 3)]

/-- 'laws.FnKeyIn': WHATEVER THE INPUT: true; the input reads as it did. -/
def fnKeyInSpec : ChangeSpec := { name := "fnKeyIn", vars := ["loop.example/plashet/impl.creators"], fn := fun _ => fun
  | [d, g1] => { results := [.lit (.bool true)], args := [d], vars := [g1] }
  | _ => none }
def fnKeyInRow : OpenClaim := { program := "ytclhjgcapalniaadoor", sum := "4807b467f44513517d0fb923a3a715c7e7082f54272e7e1a7c058034bd56d026", func := "loop.example/plashet/laws.FnKeyIn", spec := "fnKeyIn", unfollowed := true, recurses := true, named := ["loop.example/plashet/impl.creators"], apart := false, laid := [("loop.example/plashet/impl.creators", laid_loop_example_plashet_impl_creators)] }
def FnKeyInSaid : Prop := fnKeyInRow.holds Tryd.pinned (OpenSpec.ofChange fnKeyInSpec)

/-- ITS FALSE NEIGHBOUR: 'it returns false'. Refute it at one input. -/
def fnKeyInWrong : ChangeSpec := { name := "fnKeyIn", vars := ["loop.example/plashet/impl.creators"], fn := fun _ => fun
  | [d, g1] => { results := [.lit (.bool false)], args := [d], vars := [g1] }
  | _ => none }
def FnKeyInWrongFalsely : Prop := fnKeyInRow.holds Tryd.pinned (OpenSpec.ofChange fnKeyInWrong)

/-- 'laws.FnTreeForm': WHATEVER THE INPUT: true; the input reads as it did. -/
def fnTreeFormSpec : ChangeSpec := { name := "fnTreeForm", vars := ["loop.example/plashet/impl.creators"], fn := fun _ => fun
  | [d1, d2, g1] => { results := [.lit (.bool true)], args := [d1, d2], vars := [g1] }
  | _ => none }
def fnTreeFormRow : OpenClaim := { program := "ytclhjgcapalniaadoor", sum := "4807b467f44513517d0fb923a3a715c7e7082f54272e7e1a7c058034bd56d026", func := "loop.example/plashet/laws.FnTreeForm", spec := "fnTreeForm", unfollowed := true, recurses := true, named := ["loop.example/plashet/impl.creators"], apart := false, laid := [("loop.example/plashet/impl.creators", laid_loop_example_plashet_impl_creators)] }
def FnTreeFormSaid : Prop := fnTreeFormRow.holds Tryd.pinned (OpenSpec.ofChange fnTreeFormSpec)

/-- ITS FALSE NEIGHBOUR: 'it returns false'. Refute it at one input. -/
def fnTreeFormWrong : ChangeSpec := { name := "fnTreeForm", vars := ["loop.example/plashet/impl.creators"], fn := fun _ => fun
  | [d1, d2, g1] => { results := [.lit (.bool false)], args := [d1, d2], vars := [g1] }
  | _ => none }
def FnTreeFormWrongFalsely : Prop := fnTreeFormRow.holds Tryd.pinned (OpenSpec.ofChange fnTreeFormWrong)

/-- 'laws.FnHearAll': WHATEVER THE INPUT: true; the input reads as it did. -/
def fnHearAllSpec : ChangeSpec := { name := "fnHearAll", vars := ["loop.example/plashet/impl.creators"], fn := fun _ => fun
  | [d1, d2, g1] => { results := [.lit (.bool true)], args := [d1, d2], vars := [g1] }
  | _ => none }
def fnHearAllRow : OpenClaim := { program := "ytclhjgcapalniaadoor", sum := "4807b467f44513517d0fb923a3a715c7e7082f54272e7e1a7c058034bd56d026", func := "loop.example/plashet/laws.FnHearAll", spec := "fnHearAll", unfollowed := true, recurses := true, named := ["loop.example/plashet/impl.creators"], apart := false, laid := [("loop.example/plashet/impl.creators", laid_loop_example_plashet_impl_creators)] }
def FnHearAllSaid : Prop := fnHearAllRow.holds Tryd.pinned (OpenSpec.ofChange fnHearAllSpec)

/-- ITS FALSE NEIGHBOUR: 'it returns false'. Refute it at one input. -/
def fnHearAllWrong : ChangeSpec := { name := "fnHearAll", vars := ["loop.example/plashet/impl.creators"], fn := fun _ => fun
  | [d1, d2, g1] => { results := [.lit (.bool false)], args := [d1, d2], vars := [g1] }
  | _ => none }
def FnHearAllWrongFalsely : Prop := fnHearAllRow.holds Tryd.pinned (OpenSpec.ofChange fnHearAllWrong)

/-- 'laws.FnClientMade': WHATEVER THE INPUT: true; the input reads as it did. -/
def fnClientMadeSpec : ChangeSpec := { name := "fnClientMade", vars := ["loop.example/plashet/impl.creators"], fn := fun _ => fun
  | [d, g1] => { results := [.lit (.bool true)], args := [d], vars := [g1] }
  | _ => none }
def fnClientMadeRow : OpenClaim := { program := "ytclhjgcapalniaadoor", sum := "4807b467f44513517d0fb923a3a715c7e7082f54272e7e1a7c058034bd56d026", func := "loop.example/plashet/laws.FnClientMade", spec := "fnClientMade", unfollowed := true, recurses := true, named := ["loop.example/plashet/impl.creators"], apart := false, laid := [("loop.example/plashet/impl.creators", laid_loop_example_plashet_impl_creators)] }
def FnClientMadeSaid : Prop := fnClientMadeRow.holds Tryd.pinned (OpenSpec.ofChange fnClientMadeSpec)

/-- ITS FALSE NEIGHBOUR: 'it returns false'. Refute it at one input. -/
def fnClientMadeWrong : ChangeSpec := { name := "fnClientMade", vars := ["loop.example/plashet/impl.creators"], fn := fun _ => fun
  | [d, g1] => { results := [.lit (.bool false)], args := [d], vars := [g1] }
  | _ => none }
def FnClientMadeWrongFalsely : Prop := fnClientMadeRow.holds Tryd.pinned (OpenSpec.ofChange fnClientMadeWrong)

/-- 'laws.FnClientForm': WHATEVER THE INPUT: true; the input reads as it did. -/
def fnClientFormSpec : ChangeSpec := { name := "fnClientForm", vars := ["loop.example/plashet/impl.creators"], fn := fun _ => fun
  | [d1, d2, g1] => { results := [.lit (.bool true)], args := [d1, d2], vars := [g1] }
  | _ => none }
def fnClientFormRow : OpenClaim := { program := "ytclhjgcapalniaadoor", sum := "4807b467f44513517d0fb923a3a715c7e7082f54272e7e1a7c058034bd56d026", func := "loop.example/plashet/laws.FnClientForm", spec := "fnClientForm", unfollowed := true, recurses := true, named := ["loop.example/plashet/impl.creators"], apart := false, laid := [("loop.example/plashet/impl.creators", laid_loop_example_plashet_impl_creators)] }
def FnClientFormSaid : Prop := fnClientFormRow.holds Tryd.pinned (OpenSpec.ofChange fnClientFormSpec)

/-- ITS FALSE NEIGHBOUR: 'it returns false'. Refute it at one input. -/
def fnClientFormWrong : ChangeSpec := { name := "fnClientForm", vars := ["loop.example/plashet/impl.creators"], fn := fun _ => fun
  | [d1, d2, g1] => { results := [.lit (.bool false)], args := [d1, d2], vars := [g1] }
  | _ => none }
def FnClientFormWrongFalsely : Prop := fnClientFormRow.holds Tryd.pinned (OpenSpec.ofChange fnClientFormWrong)

/- THE SECOND FORM. 'bulk': how many values and letters a reading holds, each counted each time it is reached (what is shared counts as often as it is met; a slice's spare places count too). A statement '..UptoSaid' is the law's where the arguments, and the package variables that the reading takes, are together of bulk at most 1048576: NARROWER than '..Said'. Prove '..Said' where nothing that the law and all that it calls make is longer than what came in: it says more and counts as full. Else prove '..UptoSaid'. A law counts once. -/
mutual
def uptoBulk {H : Type} : DataW H → Nat
  | .lit (.string bytes) => bytes.length + 1
  | .lit _ => 1
  | .nil => 1
  | .ptr d => uptoBulk d + 1
  | .slice elems spare => uptoBulkAll elems + uptoBulkAll spare + 1
  | .agg parts => uptoBulkAll parts + 1
  | .iface _ d => uptoBulk d + 1
  | .map entries => uptoBulkEntries entries + 1
  | .held _ => 1
def uptoBulkAll {H : Type} : List (DataW H) → Nat
  | [] => 0
  | d :: r => uptoBulk d + uptoBulkAll r
def uptoBulkEntries {H : Type} : List (Lit × DataW H) → Nat
  | [] => 0
  | x :: r => uptoBulkEntry x + uptoBulkEntries r
def uptoBulkEntry {H : Type} : Lit × DataW H → Nat
  | (.string bytes, d) => bytes.length + uptoBulk d + 1
  | (_, d) => uptoBulk d + 1
 end
def uptoSmall : (H : Type) → List (DataW H) → Bool := fun _ ds => decide (uptoBulkAll ds ≤ 1048576)
def OpenSpec.upto (s : _root_.Go.ChangeSpec) : _root_.Go.OpenSpec := { _root_.Go.OpenSpec.ofChange s with cond := some uptoSmall }

/-- 'laws.FnKeyIn', WHERE WHAT IT READS IS OF BULK AT MOST 1048576: true; the input reads as it did. -/
def fnKeyInUptoRow : OpenClaim := { program := "ytclhjgcapalniaadoor", sum := "4807b467f44513517d0fb923a3a715c7e7082f54272e7e1a7c058034bd56d026", func := "loop.example/plashet/laws.FnKeyIn", spec := "fnKeyIn", unfollowed := true, recurses := true, named := ["loop.example/plashet/impl.creators"], apart := false, laid := [("loop.example/plashet/impl.creators", laid_loop_example_plashet_impl_creators)], narrowed := true }
def FnKeyInUptoSaid : Prop := fnKeyInUptoRow.holds Tryd.pinned (OpenSpec.upto fnKeyInSpec)

/-- 'laws.FnTreeForm', WHERE WHAT IT READS IS OF BULK AT MOST 1048576: true; the input reads as it did. -/
def fnTreeFormUptoRow : OpenClaim := { program := "ytclhjgcapalniaadoor", sum := "4807b467f44513517d0fb923a3a715c7e7082f54272e7e1a7c058034bd56d026", func := "loop.example/plashet/laws.FnTreeForm", spec := "fnTreeForm", unfollowed := true, recurses := true, named := ["loop.example/plashet/impl.creators"], apart := false, laid := [("loop.example/plashet/impl.creators", laid_loop_example_plashet_impl_creators)], narrowed := true }
def FnTreeFormUptoSaid : Prop := fnTreeFormUptoRow.holds Tryd.pinned (OpenSpec.upto fnTreeFormSpec)

/-- 'laws.FnHearAll', WHERE WHAT IT READS IS OF BULK AT MOST 1048576: true; the input reads as it did. -/
def fnHearAllUptoRow : OpenClaim := { program := "ytclhjgcapalniaadoor", sum := "4807b467f44513517d0fb923a3a715c7e7082f54272e7e1a7c058034bd56d026", func := "loop.example/plashet/laws.FnHearAll", spec := "fnHearAll", unfollowed := true, recurses := true, named := ["loop.example/plashet/impl.creators"], apart := false, laid := [("loop.example/plashet/impl.creators", laid_loop_example_plashet_impl_creators)], narrowed := true }
def FnHearAllUptoSaid : Prop := fnHearAllUptoRow.holds Tryd.pinned (OpenSpec.upto fnHearAllSpec)

/-- 'laws.FnClientMade', WHERE WHAT IT READS IS OF BULK AT MOST 1048576: true; the input reads as it did. -/
def fnClientMadeUptoRow : OpenClaim := { program := "ytclhjgcapalniaadoor", sum := "4807b467f44513517d0fb923a3a715c7e7082f54272e7e1a7c058034bd56d026", func := "loop.example/plashet/laws.FnClientMade", spec := "fnClientMade", unfollowed := true, recurses := true, named := ["loop.example/plashet/impl.creators"], apart := false, laid := [("loop.example/plashet/impl.creators", laid_loop_example_plashet_impl_creators)], narrowed := true }
def FnClientMadeUptoSaid : Prop := fnClientMadeUptoRow.holds Tryd.pinned (OpenSpec.upto fnClientMadeSpec)

/-- 'laws.FnClientForm', WHERE WHAT IT READS IS OF BULK AT MOST 1048576: true; the input reads as it did. -/
def fnClientFormUptoRow : OpenClaim := { program := "ytclhjgcapalniaadoor", sum := "4807b467f44513517d0fb923a3a715c7e7082f54272e7e1a7c058034bd56d026", func := "loop.example/plashet/laws.FnClientForm", spec := "fnClientForm", unfollowed := true, recurses := true, named := ["loop.example/plashet/impl.creators"], apart := false, laid := [("loop.example/plashet/impl.creators", laid_loop_example_plashet_impl_creators)], narrowed := true }
def FnClientFormUptoSaid : Prop := fnClientFormUptoRow.holds Tryd.pinned (OpenSpec.upto fnClientFormSpec)

end Rows
end Go.Proofs.YtclhjgcapalniaaDoor
