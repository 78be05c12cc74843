/-
  NARROWER THAN 'FOR EVERY INPUT', by the rows' own cells (each row's printed sentence says how): FnExactServerOk: laid · FnExactServerHear: laid · FnExactServerSync: laid · FnExactServerFall: laid · FnExactServerNews: laid.
  DERIVED. THE GIVEN ROWS OF THIS SEAT. 5 by the template 'for every input the law returns true; each argument reads behind the call as it read before'; 0 by the template 'total and deterministic' (their statements: YtkecboeaiipjhaaDoorTotals.lean).
  GIVEN WITH THE SEED: the statements are not yours to turn. If you find one false, say at which input.
  Laid BY PROGRAM, IN A SANDBOX (cutbox-rows.mjs): the forced cells as the released guide's own fill.sh prints them over the translation e015f199e28c58ea… (all of the seat's roots in one cut). By AI agents, Wed Nov 11 2026. No macro, syntax, notation, axiom, sorry.
-/
import Derived.Test.YtkecboeaiipjhaaDoorChecked
import GoSem.Claim
import GoSem.ClaimJoined
import GoSem.ClaimMapViews
import Derived.JoinedTies
import Derived.KernelRfl
namespace Go.Proofs.YtkecboeaiipjhaaDoor
/- THE CELL 'sum', in the pinned program and in every row, IS THE sha256 OF THE DUMP (.gsa) THAT YtkecboeaiipjhaaDoorProg.lean LOADS. Nothing in Lean hashes anything: it is a label: what it is worth is what the hold of that sum in a sandbox is worth. -/
noncomputable def Tryd.pinned : Pinned := { name := "ytkecboeaiipjhaadoor", sum := "e015f199e28c58ea8a61452f3cdb3162a37c745fb43eafd1b6f2f1de58c03bbd", checked := Tryd.checked }
namespace Rows
def none {H : Type} : Left H := { results := [], args := [] }

/- WHAT THE LISTED PACKAGE-LEVEL VARIABLES READ AS WHEN THE CALL BEGINS. Each datum BY PROGRAM (the guide's laid-datum.mjs) off the statement by which the dump's own 'gosem.cut.vars' lays the variable. In a bare row this is a premise. The card (YtkecboeaiipjhaaDoorCards.lean) ties it to the program's text. -/
def laid_loop_example_plashet_impl_creators {H : Type} : DataW H := .agg [.lit (.int .i64 (-1)), .lit (.int .i64 0), .lit (.int .i64 0), .lit (.int .i64 0), .lit (.int .i64 (-1)), .lit (.int .i64 (-1)), .lit (.int .i64 (-1)), .lit (.int .i64 (-1)), .lit (.int .i64 (-1)), .lit (.int .i64 (-1)), .lit (.int .i64 (-1)), .lit (.int .i64 1), .lit (.int .i64 1), .lit (.int .i64 1), .lit (.int .i64 1), .lit (.int .i64 1), .lit (.int .i64 1), .lit (.int .i64 (-1)), .lit (.int .i64 (-1)), .lit (.int .i64 (-1)), .lit (.int .i64 (-1)), .lit (.int .i64 2), .lit (.int .i64 2), .lit (.int .i64 2), .lit (.int .i64 2), .lit (.int .i64 2), .lit (.int .i64 2), .lit (.int .i64 (-1)), .lit (.int .i64 (-1)), .lit (.int .i64 (-1)), .lit (.int .i64 (-1)), .lit (.int .i64 3), .lit (.int .i64 3), .lit (.int .i64 3), .lit (.int .i64 3), .lit (.int .i64 3), .lit (.int .i64 3)]

/-- 'laws.FnExactServerOk': WHATEVER THE INPUT: true; the input reads as it did. -/
def fnExactServerOkSpec : ChangeSpec := { name := "fnExactServerOk", vars := ["loop.example/plashet/impl.creators"], fn := fun _ => fun
  | [d, g1] => { results := [.lit (.bool true)], args := [d], vars := [g1] }
  | _ => none }
def fnExactServerOkRow : OpenClaim := { program := "ytkecboeaiipjhaadoor", sum := "e015f199e28c58ea8a61452f3cdb3162a37c745fb43eafd1b6f2f1de58c03bbd", func := "loop.example/plashet/laws.FnExactServerOk", spec := "fnExactServerOk", unfollowed := true, recurses := true, named := ["loop.example/plashet/impl.creators"], apart := false, laid := [("loop.example/plashet/impl.creators", laid_loop_example_plashet_impl_creators)] }
def FnExactServerOkSaid : Prop := fnExactServerOkRow.holds Tryd.pinned (OpenSpec.ofChange fnExactServerOkSpec)

/-- ITS FALSE NEIGHBOUR: 'it returns false'. Refute it at one input. -/
def fnExactServerOkWrong : ChangeSpec := { name := "fnExactServerOk", vars := ["loop.example/plashet/impl.creators"], fn := fun _ => fun
  | [d, g1] => { results := [.lit (.bool false)], args := [d], vars := [g1] }
  | _ => none }
def FnExactServerOkWrongFalsely : Prop := fnExactServerOkRow.holds Tryd.pinned (OpenSpec.ofChange fnExactServerOkWrong)

/-- 'laws.FnExactServerHear': WHATEVER THE INPUT: true; the input reads as it did. -/
def fnExactServerHearSpec : ChangeSpec := { name := "fnExactServerHear", vars := ["loop.example/plashet/impl.creators"], fn := fun _ => fun
  | [d1, d2, g1] => { results := [.lit (.bool true)], args := [d1, d2], vars := [g1] }
  | _ => none }
def fnExactServerHearRow : OpenClaim := { program := "ytkecboeaiipjhaadoor", sum := "e015f199e28c58ea8a61452f3cdb3162a37c745fb43eafd1b6f2f1de58c03bbd", func := "loop.example/plashet/laws.FnExactServerHear", spec := "fnExactServerHear", unfollowed := true, recurses := true, named := ["loop.example/plashet/impl.creators"], apart := false, laid := [("loop.example/plashet/impl.creators", laid_loop_example_plashet_impl_creators)] }
def FnExactServerHearSaid : Prop := fnExactServerHearRow.holds Tryd.pinned (OpenSpec.ofChange fnExactServerHearSpec)

/-- ITS FALSE NEIGHBOUR: 'it returns false'. Refute it at one input. -/
def fnExactServerHearWrong : ChangeSpec := { name := "fnExactServerHear", vars := ["loop.example/plashet/impl.creators"], fn := fun _ => fun
  | [d1, d2, g1] => { results := [.lit (.bool false)], args := [d1, d2], vars := [g1] }
  | _ => none }
def FnExactServerHearWrongFalsely : Prop := fnExactServerHearRow.holds Tryd.pinned (OpenSpec.ofChange fnExactServerHearWrong)

/-- 'laws.FnExactServerSync': WHATEVER THE INPUT: true; the input reads as it did. -/
def fnExactServerSyncSpec : ChangeSpec := { name := "fnExactServerSync", vars := ["loop.example/plashet/impl.creators"], fn := fun _ => fun
  | [d, g1] => { results := [.lit (.bool true)], args := [d], vars := [g1] }
  | _ => none }
def fnExactServerSyncRow : OpenClaim := { program := "ytkecboeaiipjhaadoor", sum := "e015f199e28c58ea8a61452f3cdb3162a37c745fb43eafd1b6f2f1de58c03bbd", func := "loop.example/plashet/laws.FnExactServerSync", spec := "fnExactServerSync", unfollowed := true, recurses := true, named := ["loop.example/plashet/impl.creators"], apart := false, laid := [("loop.example/plashet/impl.creators", laid_loop_example_plashet_impl_creators)] }
def FnExactServerSyncSaid : Prop := fnExactServerSyncRow.holds Tryd.pinned (OpenSpec.ofChange fnExactServerSyncSpec)

/-- ITS FALSE NEIGHBOUR: 'it returns false'. Refute it at one input. -/
def fnExactServerSyncWrong : ChangeSpec := { name := "fnExactServerSync", vars := ["loop.example/plashet/impl.creators"], fn := fun _ => fun
  | [d, g1] => { results := [.lit (.bool false)], args := [d], vars := [g1] }
  | _ => none }
def FnExactServerSyncWrongFalsely : Prop := fnExactServerSyncRow.holds Tryd.pinned (OpenSpec.ofChange fnExactServerSyncWrong)

/-- 'laws.FnExactServerFall': WHATEVER THE INPUT: true; the input reads as it did. -/
def fnExactServerFallSpec : ChangeSpec := { name := "fnExactServerFall", vars := ["loop.example/plashet/impl.creators"], fn := fun _ => fun
  | [d1, d2, g1] => { results := [.lit (.bool true)], args := [d1, d2], vars := [g1] }
  | _ => none }
def fnExactServerFallRow : OpenClaim := { program := "ytkecboeaiipjhaadoor", sum := "e015f199e28c58ea8a61452f3cdb3162a37c745fb43eafd1b6f2f1de58c03bbd", func := "loop.example/plashet/laws.FnExactServerFall", spec := "fnExactServerFall", unfollowed := true, recurses := true, named := ["loop.example/plashet/impl.creators"], apart := false, laid := [("loop.example/plashet/impl.creators", laid_loop_example_plashet_impl_creators)] }
def FnExactServerFallSaid : Prop := fnExactServerFallRow.holds Tryd.pinned (OpenSpec.ofChange fnExactServerFallSpec)

/-- ITS FALSE NEIGHBOUR: 'it returns false'. Refute it at one input. -/
def fnExactServerFallWrong : ChangeSpec := { name := "fnExactServerFall", vars := ["loop.example/plashet/impl.creators"], fn := fun _ => fun
  | [d1, d2, g1] => { results := [.lit (.bool false)], args := [d1, d2], vars := [g1] }
  | _ => none }
def FnExactServerFallWrongFalsely : Prop := fnExactServerFallRow.holds Tryd.pinned (OpenSpec.ofChange fnExactServerFallWrong)

/-- 'laws.FnExactServerNews': WHATEVER THE INPUT: true; the input reads as it did. -/
def fnExactServerNewsSpec : ChangeSpec := { name := "fnExactServerNews", vars := ["loop.example/plashet/impl.creators"], fn := fun _ => fun
  | [d1, d2, g1] => { results := [.lit (.bool true)], args := [d1, d2], vars := [g1] }
  | _ => none }
def fnExactServerNewsRow : OpenClaim := { program := "ytkecboeaiipjhaadoor", sum := "e015f199e28c58ea8a61452f3cdb3162a37c745fb43eafd1b6f2f1de58c03bbd", func := "loop.example/plashet/laws.FnExactServerNews", spec := "fnExactServerNews", unfollowed := true, recurses := true, named := ["loop.example/plashet/impl.creators"], apart := false, laid := [("loop.example/plashet/impl.creators", laid_loop_example_plashet_impl_creators)] }
def FnExactServerNewsSaid : Prop := fnExactServerNewsRow.holds Tryd.pinned (OpenSpec.ofChange fnExactServerNewsSpec)

/-- ITS FALSE NEIGHBOUR: 'it returns false'. Refute it at one input. -/
def fnExactServerNewsWrong : ChangeSpec := { name := "fnExactServerNews", vars := ["loop.example/plashet/impl.creators"], fn := fun _ => fun
  | [d1, d2, g1] => { results := [.lit (.bool false)], args := [d1, d2], vars := [g1] }
  | _ => none }
def FnExactServerNewsWrongFalsely : Prop := fnExactServerNewsRow.holds Tryd.pinned (OpenSpec.ofChange fnExactServerNewsWrong)

/- THE SECOND FORM. 'bulk': how many values and letters a reading holds, each counted each time it is reached (what is shared counts as often as it is met; a slice's spare places count too). A statement '..UptoSaid' is the law's where the arguments, and the package variables that the reading takes, are together of bulk at most 1048576: NARROWER than '..Said'. Prove '..Said' where nothing that the law and all that it calls make is longer than what came in: it says more and counts as full. Else prove '..UptoSaid'. A law counts once. -/
mutual
def uptoBulk {H : Type} : DataW H → Nat
  | .lit (.string bytes) => bytes.length + 1
  | .lit _ => 1
  | .nil => 1
  | .ptr d => uptoBulk d + 1
  | .slice elems spare => uptoBulkAll elems + uptoBulkAll spare + 1
  | .agg parts => uptoBulkAll parts + 1
  | .iface _ d => uptoBulk d + 1
  | .map entries => uptoBulkEntries entries + 1
  | .held _ => 1
def uptoBulkAll {H : Type} : List (DataW H) → Nat
  | [] => 0
  | d :: r => uptoBulk d + uptoBulkAll r
def uptoBulkEntries {H : Type} : List (Lit × DataW H) → Nat
  | [] => 0
  | x :: r => uptoBulkEntry x + uptoBulkEntries r
def uptoBulkEntry {H : Type} : Lit × DataW H → Nat
  | (.string bytes, d) => bytes.length + uptoBulk d + 1
  | (_, d) => uptoBulk d + 1
 end
def uptoSmall : (H : Type) → List (DataW H) → Bool := fun _ ds => decide (uptoBulkAll ds ≤ 1048576)
def OpenSpec.upto (s : _root_.Go.ChangeSpec) : _root_.Go.OpenSpec := { _root_.Go.OpenSpec.ofChange s with cond := some uptoSmall }

/-- 'laws.FnExactServerOk', WHERE WHAT IT READS IS OF BULK AT MOST 1048576: true; the input reads as it did. -/
def fnExactServerOkUptoRow : OpenClaim := { program := "ytkecboeaiipjhaadoor", sum := "e015f199e28c58ea8a61452f3cdb3162a37c745fb43eafd1b6f2f1de58c03bbd", func := "loop.example/plashet/laws.FnExactServerOk", spec := "fnExactServerOk", unfollowed := true, recurses := true, named := ["loop.example/plashet/impl.creators"], apart := false, laid := [("loop.example/plashet/impl.creators", laid_loop_example_plashet_impl_creators)], narrowed := true }
def FnExactServerOkUptoSaid : Prop := fnExactServerOkUptoRow.holds Tryd.pinned (OpenSpec.upto fnExactServerOkSpec)

/-- 'laws.FnExactServerHear', WHERE WHAT IT READS IS OF BULK AT MOST 1048576: true; the input reads as it did. -/
def fnExactServerHearUptoRow : OpenClaim := { program := "ytkecboeaiipjhaadoor", sum := "e015f199e28c58ea8a61452f3cdb3162a37c745fb43eafd1b6f2f1de58c03bbd", func := "loop.example/plashet/laws.FnExactServerHear", spec := "fnExactServerHear", unfollowed := true, recurses := true, named := ["loop.example/plashet/impl.creators"], apart := false, laid := [("loop.example/plashet/impl.creators", laid_loop_example_plashet_impl_creators)], narrowed := true }
def FnExactServerHearUptoSaid : Prop := fnExactServerHearUptoRow.holds Tryd.pinned (OpenSpec.upto fnExactServerHearSpec)

/-- 'laws.FnExactServerSync', WHERE WHAT IT READS IS OF BULK AT MOST 1048576: true; the input reads as it did. -/
def fnExactServerSyncUptoRow : OpenClaim := { program := "ytkecboeaiipjhaadoor", sum := "e015f199e28c58ea8a61452f3cdb3162a37c745fb43eafd1b6f2f1de58c03bbd", func := "loop.example/plashet/laws.FnExactServerSync", spec := "fnExactServerSync", unfollowed := true, recurses := true, named := ["loop.example/plashet/impl.creators"], apart := false, laid := [("loop.example/plashet/impl.creators", laid_loop_example_plashet_impl_creators)], narrowed := true }
def FnExactServerSyncUptoSaid : Prop := fnExactServerSyncUptoRow.holds Tryd.pinned (OpenSpec.upto fnExactServerSyncSpec)

/-- 'laws.FnExactServerFall', WHERE WHAT IT READS IS OF BULK AT MOST 1048576: true; the input reads as it did. -/
def fnExactServerFallUptoRow : OpenClaim := { program := "ytkecboeaiipjhaadoor", sum := "e015f199e28c58ea8a61452f3cdb3162a37c745fb43eafd1b6f2f1de58c03bbd", func := "loop.example/plashet/laws.FnExactServerFall", spec := "fnExactServerFall", unfollowed := true, recurses := true, named := ["loop.example/plashet/impl.creators"], apart := false, laid := [("loop.example/plashet/impl.creators", laid_loop_example_plashet_impl_creators)], narrowed := true }
def FnExactServerFallUptoSaid : Prop := fnExactServerFallUptoRow.holds Tryd.pinned (OpenSpec.upto fnExactServerFallSpec)

/-- 'laws.FnExactServerNews', WHERE WHAT IT READS IS OF BULK AT MOST 1048576: true; the input reads as it did. -/
def fnExactServerNewsUptoRow : OpenClaim := { program := "ytkecboeaiipjhaadoor", sum := "e015f199e28c58ea8a61452f3cdb3162a37c745fb43eafd1b6f2f1de58c03bbd", func := "loop.example/plashet/laws.FnExactServerNews", spec := "fnExactServerNews", unfollowed := true, recurses := true, named := ["loop.example/plashet/impl.creators"], apart := false, laid := [("loop.example/plashet/impl.creators", laid_loop_example_plashet_impl_creators)], narrowed := true }
def FnExactServerNewsUptoSaid : Prop := fnExactServerNewsUptoRow.holds Tryd.pinned (OpenSpec.upto fnExactServerNewsSpec)

end Rows
end Go.Proofs.YtkecboeaiipjhaaDoor
