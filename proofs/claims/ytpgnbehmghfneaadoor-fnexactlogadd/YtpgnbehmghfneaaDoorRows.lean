/-
  NARROWER THAN 'FOR EVERY INPUT', by the rows' own cells (each row's printed sentence says how): FnExactEntryOk: laid · FnExactLogOk: laid · FnExactLogSeq: laid · FnExactLogAdd: laid · FnExactLogTree: laid.
  DERIVED. THE GIVEN ROWS OF THIS SEAT. 5 by the template 'for every input the law returns true; each argument reads behind the call as it read before'; 0 by the template 'total and deterministic' (their statements: YtpgnbehmghfneaaDoorTotals.lean).
  GIVEN WITH THE SEED: the statements are not yours to turn. If you find one false, say at which input.
  Laid BY PROGRAM, IN A SANDBOX (cutbox-rows.mjs): the forced cells as the released guide's own fill.sh prints them over the translation c398a399ba44a464… (all of the seat's roots in one cut). By AI agents, Wed Nov 11 2026. No macro, syntax, notation, axiom, sorry.
-/
import Derived.Test.YtpgnbehmghfneaaDoorChecked
import GoSem.Claim
import GoSem.ClaimJoined
import GoSem.ClaimMapViews
import Derived.JoinedTies
import Derived.KernelRfl
namespace Go.Proofs.YtpgnbehmghfneaaDoor
/- THE CELL 'sum', in the pinned program and in every row, IS THE sha256 OF THE DUMP (.gsa) THAT YtpgnbehmghfneaaDoorProg.lean LOADS. Nothing in Lean hashes anything: it is a label: what it is worth is what the hold of that sum in a sandbox is worth. -/
noncomputable def Tryd.pinned : Pinned := { name := "ytpgnbehmghfneaadoor", sum := "c398a399ba44a464e07d6e0657be2e5c39deb7e62c902e564435a4dd940fcc19", checked := Tryd.checked }
namespace Rows
def none {H : Type} : Left H := { results := [], args := [] }

/- WHAT THE LISTED PACKAGE-LEVEL VARIABLES READ AS WHEN THE CALL BEGINS. Each datum BY PROGRAM (the guide's laid-datum.mjs) off the statement by which the dump's own 'gosem.cut.vars' lays the variable. In a bare row this is a premise. The card (YtpgnbehmghfneaaDoorCards.lean) ties it to the program's text. -/
def laid_loop_example_plashet_impl_creators {H : Type} : DataW H := .agg [.lit (.int .i64 (-1)), .lit (.int .i64 0), .lit (.int .i64 0), .lit (.int .i64 0), .lit (.int .i64 (-1)), .lit (.int .i64 (-1)), .lit (.int .i64 (-1)), .lit (.int .i64 (-1)), .lit (.int .i64 (-1)), .lit (.int .i64 (-1)), .lit (.int .i64 (-1)), .lit (.int .i64 1), .lit (.int .i64 1), .lit (.int .i64 1), .lit (.int .i64 1), .lit (.int .i64 1), .lit (.int .i64 1), .lit (.int .i64 (-1)), .lit (.int .i64 (-1)), .lit (.int .i64 (-1)), .lit (.int .i64 (-1)), .lit (.int .i64 2), .lit (.int .i64 2), .lit (.int .i64 2), .lit (.int .i64 2), .lit (.int .i64 2), .lit (.int .i64 2), .lit (.int .i64 (-1)), .lit (.int .i64 (-1)), .lit (.int .i64 (-1)), .lit (.int .i64 (-1)), .lit (.int .i64 3), .lit (.int .i64 3), .lit (.int .i64 3), .lit (.int .i64 3), .lit (.int .i64 3), .lit (.int .i64 3)]

/-- 'laws.FnExactEntryOk': WHATEVER THE INPUT: true; the input reads as it did. -/
def fnExactEntryOkSpec : ChangeSpec := { name := "fnExactEntryOk", vars := ["loop.example/plashet/impl.creators"], fn := fun _ => fun
  | [d, g1] => { results := [.lit (.bool true)], args := [d], vars := [g1] }
  | _ => none }
def fnExactEntryOkRow : OpenClaim := { program := "ytpgnbehmghfneaadoor", sum := "c398a399ba44a464e07d6e0657be2e5c39deb7e62c902e564435a4dd940fcc19", func := "loop.example/plashet/laws.FnExactEntryOk", spec := "fnExactEntryOk", unfollowed := true, recurses := true, named := ["loop.example/plashet/impl.creators"], apart := false, laid := [("loop.example/plashet/impl.creators", laid_loop_example_plashet_impl_creators)] }
def FnExactEntryOkSaid : Prop := fnExactEntryOkRow.holds Tryd.pinned (OpenSpec.ofChange fnExactEntryOkSpec)

/-- ITS FALSE NEIGHBOUR: 'it returns false'. Refute it at one input. -/
def fnExactEntryOkWrong : ChangeSpec := { name := "fnExactEntryOk", vars := ["loop.example/plashet/impl.creators"], fn := fun _ => fun
  | [d, g1] => { results := [.lit (.bool false)], args := [d], vars := [g1] }
  | _ => none }
def FnExactEntryOkWrongFalsely : Prop := fnExactEntryOkRow.holds Tryd.pinned (OpenSpec.ofChange fnExactEntryOkWrong)

/-- 'laws.FnExactLogOk': WHATEVER THE INPUT: true; the input reads as it did. -/
def fnExactLogOkSpec : ChangeSpec := { name := "fnExactLogOk", vars := ["loop.example/plashet/impl.creators"], fn := fun _ => fun
  | [d, g1] => { results := [.lit (.bool true)], args := [d], vars := [g1] }
  | _ => none }
def fnExactLogOkRow : OpenClaim := { program := "ytpgnbehmghfneaadoor", sum := "c398a399ba44a464e07d6e0657be2e5c39deb7e62c902e564435a4dd940fcc19", func := "loop.example/plashet/laws.FnExactLogOk", spec := "fnExactLogOk", unfollowed := true, recurses := true, named := ["loop.example/plashet/impl.creators"], apart := false, laid := [("loop.example/plashet/impl.creators", laid_loop_example_plashet_impl_creators)] }
def FnExactLogOkSaid : Prop := fnExactLogOkRow.holds Tryd.pinned (OpenSpec.ofChange fnExactLogOkSpec)

/-- ITS FALSE NEIGHBOUR: 'it returns false'. Refute it at one input. -/
def fnExactLogOkWrong : ChangeSpec := { name := "fnExactLogOk", vars := ["loop.example/plashet/impl.creators"], fn := fun _ => fun
  | [d, g1] => { results := [.lit (.bool false)], args := [d], vars := [g1] }
  | _ => none }
def FnExactLogOkWrongFalsely : Prop := fnExactLogOkRow.holds Tryd.pinned (OpenSpec.ofChange fnExactLogOkWrong)

/-- 'laws.FnExactLogSeq': WHATEVER THE INPUT: true; the input reads as it did. -/
def fnExactLogSeqSpec : ChangeSpec := { name := "fnExactLogSeq", vars := ["loop.example/plashet/impl.creators"], fn := fun _ => fun
  | [d1, d2, g1] => { results := [.lit (.bool true)], args := [d1, d2], vars := [g1] }
  | _ => none }
def fnExactLogSeqRow : OpenClaim := { program := "ytpgnbehmghfneaadoor", sum := "c398a399ba44a464e07d6e0657be2e5c39deb7e62c902e564435a4dd940fcc19", func := "loop.example/plashet/laws.FnExactLogSeq", spec := "fnExactLogSeq", unfollowed := true, recurses := true, named := ["loop.example/plashet/impl.creators"], apart := false, laid := [("loop.example/plashet/impl.creators", laid_loop_example_plashet_impl_creators)] }
def FnExactLogSeqSaid : Prop := fnExactLogSeqRow.holds Tryd.pinned (OpenSpec.ofChange fnExactLogSeqSpec)

/-- ITS FALSE NEIGHBOUR: 'it returns false'. Refute it at one input. -/
def fnExactLogSeqWrong : ChangeSpec := { name := "fnExactLogSeq", vars := ["loop.example/plashet/impl.creators"], fn := fun _ => fun
  | [d1, d2, g1] => { results := [.lit (.bool false)], args := [d1, d2], vars := [g1] }
  | _ => none }
def FnExactLogSeqWrongFalsely : Prop := fnExactLogSeqRow.holds Tryd.pinned (OpenSpec.ofChange fnExactLogSeqWrong)

/-- 'laws.FnExactLogAdd': WHATEVER THE INPUT: true; the input reads as it did. -/
def fnExactLogAddSpec : ChangeSpec := { name := "fnExactLogAdd", vars := ["loop.example/plashet/impl.creators"], fn := fun _ => fun
  | [d1, d2, g1] => { results := [.lit (.bool true)], args := [d1, d2], vars := [g1] }
  | _ => none }
def fnExactLogAddRow : OpenClaim := { program := "ytpgnbehmghfneaadoor", sum := "c398a399ba44a464e07d6e0657be2e5c39deb7e62c902e564435a4dd940fcc19", func := "loop.example/plashet/laws.FnExactLogAdd", spec := "fnExactLogAdd", unfollowed := true, recurses := true, named := ["loop.example/plashet/impl.creators"], apart := false, laid := [("loop.example/plashet/impl.creators", laid_loop_example_plashet_impl_creators)] }
def FnExactLogAddSaid : Prop := fnExactLogAddRow.holds Tryd.pinned (OpenSpec.ofChange fnExactLogAddSpec)

/-- ITS FALSE NEIGHBOUR: 'it returns false'. Refute it at one input. -/
def fnExactLogAddWrong : ChangeSpec := { name := "fnExactLogAdd", vars := ["loop.example/plashet/impl.creators"], fn := fun _ => fun
  | [d1, d2, g1] => { results := [.lit (.bool false)], args := [d1, d2], vars := [g1] }
  | _ => none }
def FnExactLogAddWrongFalsely : Prop := fnExactLogAddRow.holds Tryd.pinned (OpenSpec.ofChange fnExactLogAddWrong)

/-- 'laws.FnExactLogTree': WHATEVER THE INPUT: true; the input reads as it did. -/
def fnExactLogTreeSpec : ChangeSpec := { name := "fnExactLogTree", vars := ["loop.example/plashet/impl.creators"], fn := fun _ => fun
  | [d, g1] => { results := [.lit (.bool true)], args := [d], vars := [g1] }
  | _ => none }
def fnExactLogTreeRow : OpenClaim := { program := "ytpgnbehmghfneaadoor", sum := "c398a399ba44a464e07d6e0657be2e5c39deb7e62c902e564435a4dd940fcc19", func := "loop.example/plashet/laws.FnExactLogTree", spec := "fnExactLogTree", unfollowed := true, recurses := true, named := ["loop.example/plashet/impl.creators"], apart := false, laid := [("loop.example/plashet/impl.creators", laid_loop_example_plashet_impl_creators)] }
def FnExactLogTreeSaid : Prop := fnExactLogTreeRow.holds Tryd.pinned (OpenSpec.ofChange fnExactLogTreeSpec)

/-- ITS FALSE NEIGHBOUR: 'it returns false'. Refute it at one input. -/
def fnExactLogTreeWrong : ChangeSpec := { name := "fnExactLogTree", vars := ["loop.example/plashet/impl.creators"], fn := fun _ => fun
  | [d, g1] => { results := [.lit (.bool false)], args := [d], vars := [g1] }
  | _ => none }
def FnExactLogTreeWrongFalsely : Prop := fnExactLogTreeRow.holds Tryd.pinned (OpenSpec.ofChange fnExactLogTreeWrong)

/- THE SECOND FORM. 'bulk': how many values and letters a reading holds, each counted each time it is reached (what is shared counts as often as it is met; a slice's spare places count too). A statement '..UptoSaid' is the law's where the arguments, and the package variables that the reading takes, are together of bulk at most 1048576: NARROWER than '..Said'. Prove '..Said' where nothing that the law and all that it calls make is longer than what came in: it says more and counts as full. Else prove '..UptoSaid'. A law counts once. -/
mutual
def uptoBulk {H : Type} : DataW H → Nat
  | .lit (.string bytes) => bytes.length + 1
  | .lit _ => 1
  | .nil => 1
  | .ptr d => uptoBulk d + 1
  | .slice elems spare => uptoBulkAll elems + uptoBulkAll spare + 1
  | .agg parts => uptoBulkAll parts + 1
  | .iface _ d => uptoBulk d + 1
  | .map entries => uptoBulkEntries entries + 1
  | .held _ => 1
def uptoBulkAll {H : Type} : List (DataW H) → Nat
  | [] => 0
  | d :: r => uptoBulk d + uptoBulkAll r
def uptoBulkEntries {H : Type} : List (Lit × DataW H) → Nat
  | [] => 0
  | x :: r => uptoBulkEntry x + uptoBulkEntries r
def uptoBulkEntry {H : Type} : Lit × DataW H → Nat
  | (.string bytes, d) => bytes.length + uptoBulk d + 1
  | (_, d) => uptoBulk d + 1
 end
def uptoSmall : (H : Type) → List (DataW H) → Bool := fun _ ds => decide (uptoBulkAll ds ≤ 1048576)
def OpenSpec.upto (s : _root_.Go.ChangeSpec) : _root_.Go.OpenSpec := { _root_.Go.OpenSpec.ofChange s with cond := some uptoSmall }

/-- 'laws.FnExactEntryOk', WHERE WHAT IT READS IS OF BULK AT MOST 1048576: true; the input reads as it did. -/
def fnExactEntryOkUptoRow : OpenClaim := { program := "ytpgnbehmghfneaadoor", sum := "c398a399ba44a464e07d6e0657be2e5c39deb7e62c902e564435a4dd940fcc19", func := "loop.example/plashet/laws.FnExactEntryOk", spec := "fnExactEntryOk", unfollowed := true, recurses := true, named := ["loop.example/plashet/impl.creators"], apart := false, laid := [("loop.example/plashet/impl.creators", laid_loop_example_plashet_impl_creators)], narrowed := true }
def FnExactEntryOkUptoSaid : Prop := fnExactEntryOkUptoRow.holds Tryd.pinned (OpenSpec.upto fnExactEntryOkSpec)

/-- 'laws.FnExactLogOk', WHERE WHAT IT READS IS OF BULK AT MOST 1048576: true; the input reads as it did. -/
def fnExactLogOkUptoRow : OpenClaim := { program := "ytpgnbehmghfneaadoor", sum := "c398a399ba44a464e07d6e0657be2e5c39deb7e62c902e564435a4dd940fcc19", func := "loop.example/plashet/laws.FnExactLogOk", spec := "fnExactLogOk", unfollowed := true, recurses := true, named := ["loop.example/plashet/impl.creators"], apart := false, laid := [("loop.example/plashet/impl.creators", laid_loop_example_plashet_impl_creators)], narrowed := true }
def FnExactLogOkUptoSaid : Prop := fnExactLogOkUptoRow.holds Tryd.pinned (OpenSpec.upto fnExactLogOkSpec)

/-- 'laws.FnExactLogSeq', WHERE WHAT IT READS IS OF BULK AT MOST 1048576: true; the input reads as it did. -/
def fnExactLogSeqUptoRow : OpenClaim := { program := "ytpgnbehmghfneaadoor", sum := "c398a399ba44a464e07d6e0657be2e5c39deb7e62c902e564435a4dd940fcc19", func := "loop.example/plashet/laws.FnExactLogSeq", spec := "fnExactLogSeq", unfollowed := true, recurses := true, named := ["loop.example/plashet/impl.creators"], apart := false, laid := [("loop.example/plashet/impl.creators", laid_loop_example_plashet_impl_creators)], narrowed := true }
def FnExactLogSeqUptoSaid : Prop := fnExactLogSeqUptoRow.holds Tryd.pinned (OpenSpec.upto fnExactLogSeqSpec)

/-- 'laws.FnExactLogAdd', WHERE WHAT IT READS IS OF BULK AT MOST 1048576: true; the input reads as it did. -/
def fnExactLogAddUptoRow : OpenClaim := { program := "ytpgnbehmghfneaadoor", sum := "c398a399ba44a464e07d6e0657be2e5c39deb7e62c902e564435a4dd940fcc19", func := "loop.example/plashet/laws.FnExactLogAdd", spec := "fnExactLogAdd", unfollowed := true, recurses := true, named := ["loop.example/plashet/impl.creators"], apart := false, laid := [("loop.example/plashet/impl.creators", laid_loop_example_plashet_impl_creators)], narrowed := true }
def FnExactLogAddUptoSaid : Prop := fnExactLogAddUptoRow.holds Tryd.pinned (OpenSpec.upto fnExactLogAddSpec)

/-- 'laws.FnExactLogTree', WHERE WHAT IT READS IS OF BULK AT MOST 1048576: true; the input reads as it did. -/
def fnExactLogTreeUptoRow : OpenClaim := { program := "ytpgnbehmghfneaadoor", sum := "c398a399ba44a464e07d6e0657be2e5c39deb7e62c902e564435a4dd940fcc19", func := "loop.example/plashet/laws.FnExactLogTree", spec := "fnExactLogTree", unfollowed := true, recurses := true, named := ["loop.example/plashet/impl.creators"], apart := false, laid := [("loop.example/plashet/impl.creators", laid_loop_example_plashet_impl_creators)], narrowed := true }
def FnExactLogTreeUptoSaid : Prop := fnExactLogTreeUptoRow.holds Tryd.pinned (OpenSpec.upto fnExactLogTreeSpec)

end Rows
end Go.Proofs.YtpgnbehmghfneaaDoor
