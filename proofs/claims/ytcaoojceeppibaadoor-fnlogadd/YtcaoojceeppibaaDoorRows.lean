/-
  NARROWER THAN 'FOR EVERY INPUT', by the rows' own cells (each row's printed sentence says how): FnMadeWho: laid · FnWho: laid · FnTreeForm: laid · FnEntryForm: laid · FnLogAdd: laid · FnLogTwice: laid · FnLogSeq: laid · FnLogTree: laid · FnLogCut: laid · FnTreeMore: laid · FnLogGap: laid.
  DERIVED. THE GIVEN ROWS OF THIS SEAT. 11 by the template 'for every input the law returns true; each argument reads behind the call as it read before'; 0 by the template 'total and deterministic' (their statements: YtcaoojceeppibaaDoorTotals.lean).
  GIVEN WITH THE SEED: the statements are not yours to turn. If you find one false, say at which input.
  Laid BY PROGRAM, IN A SANDBOX (cutbox-rows.mjs): the forced cells as the released guide's own fill.sh prints them over the translation a7b5d7c0b04dac02… (all of the seat's roots in one cut). By AI agents, Wed Nov 11 2026. No macro, syntax, notation, axiom, sorry.
-/
import Derived.Test.YtcaoojceeppibaaDoorChecked
import GoSem.Claim
import GoSem.ClaimJoined
import GoSem.ClaimMapViews
import Derived.JoinedTies
import Derived.KernelRfl
namespace Go.Proofs.YtcaoojceeppibaaDoor
/- THE CELL 'sum', in the pinned program and in every row, IS THE sha256 OF THE DUMP (.gsa) THAT YtcaoojceeppibaaDoorProg.lean LOADS. Nothing in Lean hashes anything: it is a label: what it is worth is what the hold of that sum in a sandbox is worth. -/
noncomputable def Tryd.pinned : Pinned := { name := "ytcaoojceeppibaadoor", sum := "a7b5d7c0b04dac02cc42604fcfa31af2aa4bc769406ad0dd7d99dd4e071d9bd5", checked := Tryd.checked }
namespace Rows
def none {H : Type} : Left H := { results := [], args := [] }

/- WHAT THE LISTED PACKAGE-LEVEL VARIABLES READ AS WHEN THE CALL BEGINS. Each datum BY PROGRAM (the guide's laid-datum.mjs) off the statement by which the dump's own 'gosem.cut.vars' lays the variable. In a bare row this is a premise. The card (YtcaoojceeppibaaDoorCards.lean) ties it to the program's text. -/
def laid_loop_example_plashet_impl_creators {H : Type} : DataW H := .agg [.lit (.int .i64 (-1)), .lit (.int .i64 0), .lit (.int .i64 0), .lit (.int .i64 0), .lit (.int .i64 (-1)), .lit (.int .i64 (-1)), .lit (.int .i64 (-1)), .lit (.int .i64 (-1)), .lit (.int .i64 (-1)), .lit (.int .i64 (-1)), .lit (.int .i64 (-1)), .lit (.int .i64 1), .lit (.int .i64 1), .lit (.int .i64 1), .lit (.int .i64 1), .lit (.int .i64 1), .lit (.int .i64 1), .lit (.int .i64 (-1)), .lit (.int .i64 (-1)), .lit (.int .i64 (-1)), .lit (.int .i64 (-1)), .lit (.int .i64 2), .lit (.int .i64 2), .lit (.int .i64 2), .lit (.int .i64 2), .lit (.int .i64 2), .lit (.int .i64 2), .lit (.int .i64 (-1)), .lit (.int .i64 (-1)), .lit (.int .i64 (-1)), .lit (.int .i64 (-1)), .lit (.int .i64 3), .lit (.int .i64 3), .lit (.int .i64 3), .lit (.int .i64 3), .lit (.int .i64 3), .lit (.int .i64 3)]

/-- 'laws.FnMadeWho': WHATEVER THE INPUT: true; the input reads as it did. -/
def fnMadeWhoSpec : ChangeSpec := { name := "fnMadeWho", vars := ["loop.example/plashet/impl.creators"], fn := fun _ => fun
  | [d1, d2, g1] => { results := [.lit (.bool true)], args := [d1, d2], vars := [g1] }
  | _ => none }
def fnMadeWhoRow : OpenClaim := { program := "ytcaoojceeppibaadoor", sum := "a7b5d7c0b04dac02cc42604fcfa31af2aa4bc769406ad0dd7d99dd4e071d9bd5", func := "loop.example/plashet/laws.FnMadeWho", spec := "fnMadeWho", named := ["loop.example/plashet/impl.creators"], apart := false, laid := [("loop.example/plashet/impl.creators", laid_loop_example_plashet_impl_creators)] }
def FnMadeWhoSaid : Prop := fnMadeWhoRow.holds Tryd.pinned (OpenSpec.ofChange fnMadeWhoSpec)

/-- ITS FALSE NEIGHBOUR: 'it returns false'. Refute it at one input. -/
def fnMadeWhoWrong : ChangeSpec := { name := "fnMadeWho", vars := ["loop.example/plashet/impl.creators"], fn := fun _ => fun
  | [d1, d2, g1] => { results := [.lit (.bool false)], args := [d1, d2], vars := [g1] }
  | _ => none }
def FnMadeWhoWrongFalsely : Prop := fnMadeWhoRow.holds Tryd.pinned (OpenSpec.ofChange fnMadeWhoWrong)

/-- 'laws.FnWho': WHATEVER THE INPUT: true; the input reads as it did. -/
def fnWhoSpec : ChangeSpec := { name := "fnWho", vars := ["loop.example/plashet/impl.creators"], fn := fun _ => fun
  | [d, g1] => { results := [.lit (.bool true)], args := [d], vars := [g1] }
  | _ => none }
def fnWhoRow : OpenClaim := { program := "ytcaoojceeppibaadoor", sum := "a7b5d7c0b04dac02cc42604fcfa31af2aa4bc769406ad0dd7d99dd4e071d9bd5", func := "loop.example/plashet/laws.FnWho", spec := "fnWho", named := ["loop.example/plashet/impl.creators"], apart := false, laid := [("loop.example/plashet/impl.creators", laid_loop_example_plashet_impl_creators)] }
def FnWhoSaid : Prop := fnWhoRow.holds Tryd.pinned (OpenSpec.ofChange fnWhoSpec)

/-- ITS FALSE NEIGHBOUR: 'it returns false'. Refute it at one input. -/
def fnWhoWrong : ChangeSpec := { name := "fnWho", vars := ["loop.example/plashet/impl.creators"], fn := fun _ => fun
  | [d, g1] => { results := [.lit (.bool false)], args := [d], vars := [g1] }
  | _ => none }
def FnWhoWrongFalsely : Prop := fnWhoRow.holds Tryd.pinned (OpenSpec.ofChange fnWhoWrong)

/-- 'laws.FnTreeForm': WHATEVER THE INPUT: true; the input reads as it did. -/
def fnTreeFormSpec : ChangeSpec := { name := "fnTreeForm", vars := ["loop.example/plashet/impl.creators"], fn := fun _ => fun
  | [d1, d2, g1] => { results := [.lit (.bool true)], args := [d1, d2], vars := [g1] }
  | _ => none }
def fnTreeFormRow : OpenClaim := { program := "ytcaoojceeppibaadoor", sum := "a7b5d7c0b04dac02cc42604fcfa31af2aa4bc769406ad0dd7d99dd4e071d9bd5", func := "loop.example/plashet/laws.FnTreeForm", spec := "fnTreeForm", unfollowed := true, recurses := true, named := ["loop.example/plashet/impl.creators"], apart := false, laid := [("loop.example/plashet/impl.creators", laid_loop_example_plashet_impl_creators)] }
def FnTreeFormSaid : Prop := fnTreeFormRow.holds Tryd.pinned (OpenSpec.ofChange fnTreeFormSpec)

/-- ITS FALSE NEIGHBOUR: 'it returns false'. Refute it at one input. -/
def fnTreeFormWrong : ChangeSpec := { name := "fnTreeForm", vars := ["loop.example/plashet/impl.creators"], fn := fun _ => fun
  | [d1, d2, g1] => { results := [.lit (.bool false)], args := [d1, d2], vars := [g1] }
  | _ => none }
def FnTreeFormWrongFalsely : Prop := fnTreeFormRow.holds Tryd.pinned (OpenSpec.ofChange fnTreeFormWrong)

/-- 'laws.FnEntryForm': WHATEVER THE INPUT: true; the input reads as it did. -/
def fnEntryFormSpec : ChangeSpec := { name := "fnEntryForm", vars := ["loop.example/plashet/impl.creators"], fn := fun _ => fun
  | [d1, d2, g1] => { results := [.lit (.bool true)], args := [d1, d2], vars := [g1] }
  | _ => none }
def fnEntryFormRow : OpenClaim := { program := "ytcaoojceeppibaadoor", sum := "a7b5d7c0b04dac02cc42604fcfa31af2aa4bc769406ad0dd7d99dd4e071d9bd5", func := "loop.example/plashet/laws.FnEntryForm", spec := "fnEntryForm", unfollowed := true, recurses := true, named := ["loop.example/plashet/impl.creators"], apart := false, laid := [("loop.example/plashet/impl.creators", laid_loop_example_plashet_impl_creators)] }
def FnEntryFormSaid : Prop := fnEntryFormRow.holds Tryd.pinned (OpenSpec.ofChange fnEntryFormSpec)

/-- ITS FALSE NEIGHBOUR: 'it returns false'. Refute it at one input. -/
def fnEntryFormWrong : ChangeSpec := { name := "fnEntryForm", vars := ["loop.example/plashet/impl.creators"], fn := fun _ => fun
  | [d1, d2, g1] => { results := [.lit (.bool false)], args := [d1, d2], vars := [g1] }
  | _ => none }
def FnEntryFormWrongFalsely : Prop := fnEntryFormRow.holds Tryd.pinned (OpenSpec.ofChange fnEntryFormWrong)

/-- 'laws.FnLogAdd': WHATEVER THE INPUT: true; the input reads as it did. -/
def fnLogAddSpec : ChangeSpec := { name := "fnLogAdd", vars := ["loop.example/plashet/impl.creators"], fn := fun _ => fun
  | [d, g1] => { results := [.lit (.bool true)], args := [d], vars := [g1] }
  | _ => none }
def fnLogAddRow : OpenClaim := { program := "ytcaoojceeppibaadoor", sum := "a7b5d7c0b04dac02cc42604fcfa31af2aa4bc769406ad0dd7d99dd4e071d9bd5", func := "loop.example/plashet/laws.FnLogAdd", spec := "fnLogAdd", unfollowed := true, recurses := true, named := ["loop.example/plashet/impl.creators"], apart := false, laid := [("loop.example/plashet/impl.creators", laid_loop_example_plashet_impl_creators)] }
def FnLogAddSaid : Prop := fnLogAddRow.holds Tryd.pinned (OpenSpec.ofChange fnLogAddSpec)

/-- ITS FALSE NEIGHBOUR: 'it returns false'. Refute it at one input. -/
def fnLogAddWrong : ChangeSpec := { name := "fnLogAdd", vars := ["loop.example/plashet/impl.creators"], fn := fun _ => fun
  | [d, g1] => { results := [.lit (.bool false)], args := [d], vars := [g1] }
  | _ => none }
def FnLogAddWrongFalsely : Prop := fnLogAddRow.holds Tryd.pinned (OpenSpec.ofChange fnLogAddWrong)

/-- 'laws.FnLogTwice': WHATEVER THE INPUT: true; the input reads as it did. -/
def fnLogTwiceSpec : ChangeSpec := { name := "fnLogTwice", vars := ["loop.example/plashet/impl.creators"], fn := fun _ => fun
  | [d, g1] => { results := [.lit (.bool true)], args := [d], vars := [g1] }
  | _ => none }
def fnLogTwiceRow : OpenClaim := { program := "ytcaoojceeppibaadoor", sum := "a7b5d7c0b04dac02cc42604fcfa31af2aa4bc769406ad0dd7d99dd4e071d9bd5", func := "loop.example/plashet/laws.FnLogTwice", spec := "fnLogTwice", unfollowed := true, recurses := true, named := ["loop.example/plashet/impl.creators"], apart := false, laid := [("loop.example/plashet/impl.creators", laid_loop_example_plashet_impl_creators)] }
def FnLogTwiceSaid : Prop := fnLogTwiceRow.holds Tryd.pinned (OpenSpec.ofChange fnLogTwiceSpec)

/-- ITS FALSE NEIGHBOUR: 'it returns false'. Refute it at one input. -/
def fnLogTwiceWrong : ChangeSpec := { name := "fnLogTwice", vars := ["loop.example/plashet/impl.creators"], fn := fun _ => fun
  | [d, g1] => { results := [.lit (.bool false)], args := [d], vars := [g1] }
  | _ => none }
def FnLogTwiceWrongFalsely : Prop := fnLogTwiceRow.holds Tryd.pinned (OpenSpec.ofChange fnLogTwiceWrong)

/-- 'laws.FnLogSeq': WHATEVER THE INPUT: true; the input reads as it did. -/
def fnLogSeqSpec : ChangeSpec := { name := "fnLogSeq", vars := ["loop.example/plashet/impl.creators"], fn := fun _ => fun
  | [d, g1] => { results := [.lit (.bool true)], args := [d], vars := [g1] }
  | _ => none }
def fnLogSeqRow : OpenClaim := { program := "ytcaoojceeppibaadoor", sum := "a7b5d7c0b04dac02cc42604fcfa31af2aa4bc769406ad0dd7d99dd4e071d9bd5", func := "loop.example/plashet/laws.FnLogSeq", spec := "fnLogSeq", unfollowed := true, recurses := true, named := ["loop.example/plashet/impl.creators"], apart := false, laid := [("loop.example/plashet/impl.creators", laid_loop_example_plashet_impl_creators)] }
def FnLogSeqSaid : Prop := fnLogSeqRow.holds Tryd.pinned (OpenSpec.ofChange fnLogSeqSpec)

/-- ITS FALSE NEIGHBOUR: 'it returns false'. Refute it at one input. -/
def fnLogSeqWrong : ChangeSpec := { name := "fnLogSeq", vars := ["loop.example/plashet/impl.creators"], fn := fun _ => fun
  | [d, g1] => { results := [.lit (.bool false)], args := [d], vars := [g1] }
  | _ => none }
def FnLogSeqWrongFalsely : Prop := fnLogSeqRow.holds Tryd.pinned (OpenSpec.ofChange fnLogSeqWrong)

/-- 'laws.FnLogTree': WHATEVER THE INPUT: true; the input reads as it did. -/
def fnLogTreeSpec : ChangeSpec := { name := "fnLogTree", vars := ["loop.example/plashet/impl.creators"], fn := fun _ => fun
  | [d, g1] => { results := [.lit (.bool true)], args := [d], vars := [g1] }
  | _ => none }
def fnLogTreeRow : OpenClaim := { program := "ytcaoojceeppibaadoor", sum := "a7b5d7c0b04dac02cc42604fcfa31af2aa4bc769406ad0dd7d99dd4e071d9bd5", func := "loop.example/plashet/laws.FnLogTree", spec := "fnLogTree", unfollowed := true, recurses := true, named := ["loop.example/plashet/impl.creators"], apart := false, laid := [("loop.example/plashet/impl.creators", laid_loop_example_plashet_impl_creators)] }
def FnLogTreeSaid : Prop := fnLogTreeRow.holds Tryd.pinned (OpenSpec.ofChange fnLogTreeSpec)

/-- ITS FALSE NEIGHBOUR: 'it returns false'. Refute it at one input. -/
def fnLogTreeWrong : ChangeSpec := { name := "fnLogTree", vars := ["loop.example/plashet/impl.creators"], fn := fun _ => fun
  | [d, g1] => { results := [.lit (.bool false)], args := [d], vars := [g1] }
  | _ => none }
def FnLogTreeWrongFalsely : Prop := fnLogTreeRow.holds Tryd.pinned (OpenSpec.ofChange fnLogTreeWrong)

/-- 'laws.FnLogCut': WHATEVER THE INPUT: true; the input reads as it did. -/
def fnLogCutSpec : ChangeSpec := { name := "fnLogCut", vars := ["loop.example/plashet/impl.creators"], fn := fun _ => fun
  | [d1, d2, g1] => { results := [.lit (.bool true)], args := [d1, d2], vars := [g1] }
  | _ => none }
def fnLogCutRow : OpenClaim := { program := "ytcaoojceeppibaadoor", sum := "a7b5d7c0b04dac02cc42604fcfa31af2aa4bc769406ad0dd7d99dd4e071d9bd5", func := "loop.example/plashet/laws.FnLogCut", spec := "fnLogCut", unfollowed := true, recurses := true, named := ["loop.example/plashet/impl.creators"], apart := false, laid := [("loop.example/plashet/impl.creators", laid_loop_example_plashet_impl_creators)] }
def FnLogCutSaid : Prop := fnLogCutRow.holds Tryd.pinned (OpenSpec.ofChange fnLogCutSpec)

/-- ITS FALSE NEIGHBOUR: 'it returns false'. Refute it at one input. -/
def fnLogCutWrong : ChangeSpec := { name := "fnLogCut", vars := ["loop.example/plashet/impl.creators"], fn := fun _ => fun
  | [d1, d2, g1] => { results := [.lit (.bool false)], args := [d1, d2], vars := [g1] }
  | _ => none }
def FnLogCutWrongFalsely : Prop := fnLogCutRow.holds Tryd.pinned (OpenSpec.ofChange fnLogCutWrong)

/-- 'laws.FnTreeMore': WHATEVER THE INPUT: true; the input reads as it did. -/
def fnTreeMoreSpec : ChangeSpec := { name := "fnTreeMore", vars := ["loop.example/plashet/impl.creators"], fn := fun _ => fun
  | [d, g1] => { results := [.lit (.bool true)], args := [d], vars := [g1] }
  | _ => none }
def fnTreeMoreRow : OpenClaim := { program := "ytcaoojceeppibaadoor", sum := "a7b5d7c0b04dac02cc42604fcfa31af2aa4bc769406ad0dd7d99dd4e071d9bd5", func := "loop.example/plashet/laws.FnTreeMore", spec := "fnTreeMore", unfollowed := true, recurses := true, named := ["loop.example/plashet/impl.creators"], apart := false, laid := [("loop.example/plashet/impl.creators", laid_loop_example_plashet_impl_creators)] }
def FnTreeMoreSaid : Prop := fnTreeMoreRow.holds Tryd.pinned (OpenSpec.ofChange fnTreeMoreSpec)

/-- ITS FALSE NEIGHBOUR: 'it returns false'. Refute it at one input. -/
def fnTreeMoreWrong : ChangeSpec := { name := "fnTreeMore", vars := ["loop.example/plashet/impl.creators"], fn := fun _ => fun
  | [d, g1] => { results := [.lit (.bool false)], args := [d], vars := [g1] }
  | _ => none }
def FnTreeMoreWrongFalsely : Prop := fnTreeMoreRow.holds Tryd.pinned (OpenSpec.ofChange fnTreeMoreWrong)

/-- 'laws.FnLogGap': WHATEVER THE INPUT: true; the input reads as it did. -/
def fnLogGapSpec : ChangeSpec := { name := "fnLogGap", vars := ["loop.example/plashet/impl.creators"], fn := fun _ => fun
  | [d, g1] => { results := [.lit (.bool true)], args := [d], vars := [g1] }
  | _ => none }
def fnLogGapRow : OpenClaim := { program := "ytcaoojceeppibaadoor", sum := "a7b5d7c0b04dac02cc42604fcfa31af2aa4bc769406ad0dd7d99dd4e071d9bd5", func := "loop.example/plashet/laws.FnLogGap", spec := "fnLogGap", unfollowed := true, recurses := true, named := ["loop.example/plashet/impl.creators"], apart := false, laid := [("loop.example/plashet/impl.creators", laid_loop_example_plashet_impl_creators)] }
def FnLogGapSaid : Prop := fnLogGapRow.holds Tryd.pinned (OpenSpec.ofChange fnLogGapSpec)

/-- ITS FALSE NEIGHBOUR: 'it returns false'. Refute it at one input. -/
def fnLogGapWrong : ChangeSpec := { name := "fnLogGap", vars := ["loop.example/plashet/impl.creators"], fn := fun _ => fun
  | [d, g1] => { results := [.lit (.bool false)], args := [d], vars := [g1] }
  | _ => none }
def FnLogGapWrongFalsely : Prop := fnLogGapRow.holds Tryd.pinned (OpenSpec.ofChange fnLogGapWrong)

/- THE SECOND FORM. 'bulk': how many values and letters a reading holds, each counted each time it is reached (what is shared counts as often as it is met; a slice's spare places count too). A statement '..UptoSaid' is the law's where the arguments, and the package variables that the reading takes, are together of bulk at most 1048576: NARROWER than '..Said'. Prove '..Said' where nothing that the law and all that it calls make is longer than what came in: it says more and counts as full. Else prove '..UptoSaid'. A law counts once. -/
mutual
def uptoBulk {H : Type} : DataW H → Nat
  | .lit (.string bytes) => bytes.length + 1
  | .lit _ => 1
  | .nil => 1
  | .ptr d => uptoBulk d + 1
  | .slice elems spare => uptoBulkAll elems + uptoBulkAll spare + 1
  | .agg parts => uptoBulkAll parts + 1
  | .iface _ d => uptoBulk d + 1
  | .map entries => uptoBulkEntries entries + 1
  | .held _ => 1
def uptoBulkAll {H : Type} : List (DataW H) → Nat
  | [] => 0
  | d :: r => uptoBulk d + uptoBulkAll r
def uptoBulkEntries {H : Type} : List (Lit × DataW H) → Nat
  | [] => 0
  | x :: r => uptoBulkEntry x + uptoBulkEntries r
def uptoBulkEntry {H : Type} : Lit × DataW H → Nat
  | (.string bytes, d) => bytes.length + uptoBulk d + 1
  | (_, d) => uptoBulk d + 1
 end
def uptoSmall : (H : Type) → List (DataW H) → Bool := fun _ ds => decide (uptoBulkAll ds ≤ 1048576)
def OpenSpec.upto (s : _root_.Go.ChangeSpec) : _root_.Go.OpenSpec := { _root_.Go.OpenSpec.ofChange s with cond := some uptoSmall }

/-- 'laws.FnMadeWho', WHERE WHAT IT READS IS OF BULK AT MOST 1048576: true; the input reads as it did. -/
def fnMadeWhoUptoRow : OpenClaim := { program := "ytcaoojceeppibaadoor", sum := "a7b5d7c0b04dac02cc42604fcfa31af2aa4bc769406ad0dd7d99dd4e071d9bd5", func := "loop.example/plashet/laws.FnMadeWho", spec := "fnMadeWho", named := ["loop.example/plashet/impl.creators"], apart := false, laid := [("loop.example/plashet/impl.creators", laid_loop_example_plashet_impl_creators)], narrowed := true }
def FnMadeWhoUptoSaid : Prop := fnMadeWhoUptoRow.holds Tryd.pinned (OpenSpec.upto fnMadeWhoSpec)

/-- 'laws.FnWho', WHERE WHAT IT READS IS OF BULK AT MOST 1048576: true; the input reads as it did. -/
def fnWhoUptoRow : OpenClaim := { program := "ytcaoojceeppibaadoor", sum := "a7b5d7c0b04dac02cc42604fcfa31af2aa4bc769406ad0dd7d99dd4e071d9bd5", func := "loop.example/plashet/laws.FnWho", spec := "fnWho", named := ["loop.example/plashet/impl.creators"], apart := false, laid := [("loop.example/plashet/impl.creators", laid_loop_example_plashet_impl_creators)], narrowed := true }
def FnWhoUptoSaid : Prop := fnWhoUptoRow.holds Tryd.pinned (OpenSpec.upto fnWhoSpec)

/-- 'laws.FnTreeForm', WHERE WHAT IT READS IS OF BULK AT MOST 1048576: true; the input reads as it did. -/
def fnTreeFormUptoRow : OpenClaim := { program := "ytcaoojceeppibaadoor", sum := "a7b5d7c0b04dac02cc42604fcfa31af2aa4bc769406ad0dd7d99dd4e071d9bd5", func := "loop.example/plashet/laws.FnTreeForm", spec := "fnTreeForm", unfollowed := true, recurses := true, named := ["loop.example/plashet/impl.creators"], apart := false, laid := [("loop.example/plashet/impl.creators", laid_loop_example_plashet_impl_creators)], narrowed := true }
def FnTreeFormUptoSaid : Prop := fnTreeFormUptoRow.holds Tryd.pinned (OpenSpec.upto fnTreeFormSpec)

/-- 'laws.FnEntryForm', WHERE WHAT IT READS IS OF BULK AT MOST 1048576: true; the input reads as it did. -/
def fnEntryFormUptoRow : OpenClaim := { program := "ytcaoojceeppibaadoor", sum := "a7b5d7c0b04dac02cc42604fcfa31af2aa4bc769406ad0dd7d99dd4e071d9bd5", func := "loop.example/plashet/laws.FnEntryForm", spec := "fnEntryForm", unfollowed := true, recurses := true, named := ["loop.example/plashet/impl.creators"], apart := false, laid := [("loop.example/plashet/impl.creators", laid_loop_example_plashet_impl_creators)], narrowed := true }
def FnEntryFormUptoSaid : Prop := fnEntryFormUptoRow.holds Tryd.pinned (OpenSpec.upto fnEntryFormSpec)

/-- 'laws.FnLogAdd', WHERE WHAT IT READS IS OF BULK AT MOST 1048576: true; the input reads as it did. -/
def fnLogAddUptoRow : OpenClaim := { program := "ytcaoojceeppibaadoor", sum := "a7b5d7c0b04dac02cc42604fcfa31af2aa4bc769406ad0dd7d99dd4e071d9bd5", func := "loop.example/plashet/laws.FnLogAdd", spec := "fnLogAdd", unfollowed := true, recurses := true, named := ["loop.example/plashet/impl.creators"], apart := false, laid := [("loop.example/plashet/impl.creators", laid_loop_example_plashet_impl_creators)], narrowed := true }
def FnLogAddUptoSaid : Prop := fnLogAddUptoRow.holds Tryd.pinned (OpenSpec.upto fnLogAddSpec)

/-- 'laws.FnLogTwice', WHERE WHAT IT READS IS OF BULK AT MOST 1048576: true; the input reads as it did. -/
def fnLogTwiceUptoRow : OpenClaim := { program := "ytcaoojceeppibaadoor", sum := "a7b5d7c0b04dac02cc42604fcfa31af2aa4bc769406ad0dd7d99dd4e071d9bd5", func := "loop.example/plashet/laws.FnLogTwice", spec := "fnLogTwice", unfollowed := true, recurses := true, named := ["loop.example/plashet/impl.creators"], apart := false, laid := [("loop.example/plashet/impl.creators", laid_loop_example_plashet_impl_creators)], narrowed := true }
def FnLogTwiceUptoSaid : Prop := fnLogTwiceUptoRow.holds Tryd.pinned (OpenSpec.upto fnLogTwiceSpec)

/-- 'laws.FnLogSeq', WHERE WHAT IT READS IS OF BULK AT MOST 1048576: true; the input reads as it did. -/
def fnLogSeqUptoRow : OpenClaim := { program := "ytcaoojceeppibaadoor", sum := "a7b5d7c0b04dac02cc42604fcfa31af2aa4bc769406ad0dd7d99dd4e071d9bd5", func := "loop.example/plashet/laws.FnLogSeq", spec := "fnLogSeq", unfollowed := true, recurses := true, named := ["loop.example/plashet/impl.creators"], apart := false, laid := [("loop.example/plashet/impl.creators", laid_loop_example_plashet_impl_creators)], narrowed := true }
def FnLogSeqUptoSaid : Prop := fnLogSeqUptoRow.holds Tryd.pinned (OpenSpec.upto fnLogSeqSpec)

/-- 'laws.FnLogTree', WHERE WHAT IT READS IS OF BULK AT MOST 1048576: true; the input reads as it did. -/
def fnLogTreeUptoRow : OpenClaim := { program := "ytcaoojceeppibaadoor", sum := "a7b5d7c0b04dac02cc42604fcfa31af2aa4bc769406ad0dd7d99dd4e071d9bd5", func := "loop.example/plashet/laws.FnLogTree", spec := "fnLogTree", unfollowed := true, recurses := true, named := ["loop.example/plashet/impl.creators"], apart := false, laid := [("loop.example/plashet/impl.creators", laid_loop_example_plashet_impl_creators)], narrowed := true }
def FnLogTreeUptoSaid : Prop := fnLogTreeUptoRow.holds Tryd.pinned (OpenSpec.upto fnLogTreeSpec)

/-- 'laws.FnLogCut', WHERE WHAT IT READS IS OF BULK AT MOST 1048576: true; the input reads as it did. -/
def fnLogCutUptoRow : OpenClaim := { program := "ytcaoojceeppibaadoor", sum := "a7b5d7c0b04dac02cc42604fcfa31af2aa4bc769406ad0dd7d99dd4e071d9bd5", func := "loop.example/plashet/laws.FnLogCut", spec := "fnLogCut", unfollowed := true, recurses := true, named := ["loop.example/plashet/impl.creators"], apart := false, laid := [("loop.example/plashet/impl.creators", laid_loop_example_plashet_impl_creators)], narrowed := true }
def FnLogCutUptoSaid : Prop := fnLogCutUptoRow.holds Tryd.pinned (OpenSpec.upto fnLogCutSpec)

/-- 'laws.FnTreeMore', WHERE WHAT IT READS IS OF BULK AT MOST 1048576: true; the input reads as it did. -/
def fnTreeMoreUptoRow : OpenClaim := { program := "ytcaoojceeppibaadoor", sum := "a7b5d7c0b04dac02cc42604fcfa31af2aa4bc769406ad0dd7d99dd4e071d9bd5", func := "loop.example/plashet/laws.FnTreeMore", spec := "fnTreeMore", unfollowed := true, recurses := true, named := ["loop.example/plashet/impl.creators"], apart := false, laid := [("loop.example/plashet/impl.creators", laid_loop_example_plashet_impl_creators)], narrowed := true }
def FnTreeMoreUptoSaid : Prop := fnTreeMoreUptoRow.holds Tryd.pinned (OpenSpec.upto fnTreeMoreSpec)

/-- 'laws.FnLogGap', WHERE WHAT IT READS IS OF BULK AT MOST 1048576: true; the input reads as it did. -/
def fnLogGapUptoRow : OpenClaim := { program := "ytcaoojceeppibaadoor", sum := "a7b5d7c0b04dac02cc42604fcfa31af2aa4bc769406ad0dd7d99dd4e071d9bd5", func := "loop.example/plashet/laws.FnLogGap", spec := "fnLogGap", unfollowed := true, recurses := true, named := ["loop.example/plashet/impl.creators"], apart := false, laid := [("loop.example/plashet/impl.creators", laid_loop_example_plashet_impl_creators)], narrowed := true }
def FnLogGapUptoSaid : Prop := fnLogGapUptoRow.holds Tryd.pinned (OpenSpec.upto fnLogGapSpec)

end Rows
end Go.Proofs.YtcaoojceeppibaaDoor
