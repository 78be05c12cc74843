/-
  DERIVED. GIVEN WITH THE SEED: THE CARDS: each row of YtcaoojceeppibaaDoorRows.lean that lists a variable, with what it lists TIED to the program's text (the seventh form; the later family's looks); each row that meets fmt, with fmt's text TOLD by the authors' own Lean function (tested against real Go, not proved from fmt's source: count such statements apart). THE CARD IS WHAT COUNTS. Prove the row's statement (the work); the ties are given (YtcaoojceeppibaaDoorTie.lean); close each card by the builder's one call (the guide's Derived/Test/ToyasCard.lean, 'card_holds'). Laid BY PROGRAM, IN A SANDBOX (cutbox-door.mjs). By AI agents, Wed Nov 11 2026. No macro, syntax, notation, axiom, sorry.
-/
import Derived.Test.YtcaoojceeppibaaDoorRows
import GoSem.ClaimSeven
namespace Go.Proofs.YtcaoojceeppibaaDoor
namespace Rows

/-- THE TIED CARD OF 'laws.FnMadeWho'. -/
def fnMadeWhoCard : Claim7 := { stood := { row := fnMadeWhoRow, standIns := [], harness := (true, "60de1edf1674064b284bcfe36f2691d8fd48a7066d9319431858bc785dd07265"), looks := true }, kinds := [], alts := [], laidByText := true, laidKinds := [.data], laidTests := true, laidLooks := .later }
def FnMadeWhoCardSaid : Prop := Claim7.holds Tryd.pinned (.plain (OpenSpec.ofChange fnMadeWhoSpec)) fnMadeWhoCard

/-- THE TIED CARD OF 'laws.FnWho'. -/
def fnWhoCard : Claim7 := { stood := { row := fnWhoRow, standIns := [], harness := (true, "60de1edf1674064b284bcfe36f2691d8fd48a7066d9319431858bc785dd07265"), looks := true }, kinds := [], alts := [], laidByText := true, laidKinds := [.data], laidTests := true, laidLooks := .later }
def FnWhoCardSaid : Prop := Claim7.holds Tryd.pinned (.plain (OpenSpec.ofChange fnWhoSpec)) fnWhoCard

/-- THE TIED CARD OF 'laws.FnTreeForm'. -/
def fnTreeFormCard : Claim7 := { stood := { row := fnTreeFormRow, standIns := [], harness := (true, "60de1edf1674064b284bcfe36f2691d8fd48a7066d9319431858bc785dd07265"), looks := true }, kinds := [], alts := [], laidByText := true, laidKinds := [.data], laidTests := true, laidLooks := .later }
def FnTreeFormCardSaid : Prop := Claim7.holds Tryd.pinned (.plain (OpenSpec.ofChange fnTreeFormSpec)) fnTreeFormCard

/-- THE TIED CARD OF 'laws.FnEntryForm'. -/
def fnEntryFormCard : Claim7 := { stood := { row := fnEntryFormRow, standIns := [], harness := (true, "60de1edf1674064b284bcfe36f2691d8fd48a7066d9319431858bc785dd07265"), looks := true }, kinds := [], alts := [], laidByText := true, laidKinds := [.data], laidTests := true, laidLooks := .later }
def FnEntryFormCardSaid : Prop := Claim7.holds Tryd.pinned (.plain (OpenSpec.ofChange fnEntryFormSpec)) fnEntryFormCard

/-- THE TIED CARD OF 'laws.FnLogAdd'. -/
def fnLogAddCard : Claim7 := { stood := { row := fnLogAddRow, standIns := [], harness := (true, "60de1edf1674064b284bcfe36f2691d8fd48a7066d9319431858bc785dd07265"), looks := true }, kinds := [], alts := [], laidByText := true, laidKinds := [.data], laidTests := true, laidLooks := .later }
def FnLogAddCardSaid : Prop := Claim7.holds Tryd.pinned (.plain (OpenSpec.ofChange fnLogAddSpec)) fnLogAddCard

/-- THE TIED CARD OF 'laws.FnLogTwice'. -/
def fnLogTwiceCard : Claim7 := { stood := { row := fnLogTwiceRow, standIns := [], harness := (true, "60de1edf1674064b284bcfe36f2691d8fd48a7066d9319431858bc785dd07265"), looks := true }, kinds := [], alts := [], laidByText := true, laidKinds := [.data], laidTests := true, laidLooks := .later }
def FnLogTwiceCardSaid : Prop := Claim7.holds Tryd.pinned (.plain (OpenSpec.ofChange fnLogTwiceSpec)) fnLogTwiceCard

/-- THE TIED CARD OF 'laws.FnLogSeq'. -/
def fnLogSeqCard : Claim7 := { stood := { row := fnLogSeqRow, standIns := [], harness := (true, "60de1edf1674064b284bcfe36f2691d8fd48a7066d9319431858bc785dd07265"), looks := true }, kinds := [], alts := [], laidByText := true, laidKinds := [.data], laidTests := true, laidLooks := .later }
def FnLogSeqCardSaid : Prop := Claim7.holds Tryd.pinned (.plain (OpenSpec.ofChange fnLogSeqSpec)) fnLogSeqCard

/-- THE TIED CARD OF 'laws.FnLogTree'. -/
def fnLogTreeCard : Claim7 := { stood := { row := fnLogTreeRow, standIns := [], harness := (true, "60de1edf1674064b284bcfe36f2691d8fd48a7066d9319431858bc785dd07265"), looks := true }, kinds := [], alts := [], laidByText := true, laidKinds := [.data], laidTests := true, laidLooks := .later }
def FnLogTreeCardSaid : Prop := Claim7.holds Tryd.pinned (.plain (OpenSpec.ofChange fnLogTreeSpec)) fnLogTreeCard

/-- THE TIED CARD OF 'laws.FnLogCut'. -/
def fnLogCutCard : Claim7 := { stood := { row := fnLogCutRow, standIns := [], harness := (true, "60de1edf1674064b284bcfe36f2691d8fd48a7066d9319431858bc785dd07265"), looks := true }, kinds := [], alts := [], laidByText := true, laidKinds := [.data], laidTests := true, laidLooks := .later }
def FnLogCutCardSaid : Prop := Claim7.holds Tryd.pinned (.plain (OpenSpec.ofChange fnLogCutSpec)) fnLogCutCard

/-- THE TIED CARD OF 'laws.FnTreeMore'. -/
def fnTreeMoreCard : Claim7 := { stood := { row := fnTreeMoreRow, standIns := [], harness := (true, "60de1edf1674064b284bcfe36f2691d8fd48a7066d9319431858bc785dd07265"), looks := true }, kinds := [], alts := [], laidByText := true, laidKinds := [.data], laidTests := true, laidLooks := .later }
def FnTreeMoreCardSaid : Prop := Claim7.holds Tryd.pinned (.plain (OpenSpec.ofChange fnTreeMoreSpec)) fnTreeMoreCard

/-- THE TIED CARD OF 'laws.FnLogGap'. -/
def fnLogGapCard : Claim7 := { stood := { row := fnLogGapRow, standIns := [], harness := (true, "60de1edf1674064b284bcfe36f2691d8fd48a7066d9319431858bc785dd07265"), looks := true }, kinds := [], alts := [], laidByText := true, laidKinds := [.data], laidTests := true, laidLooks := .later }
def FnLogGapCardSaid : Prop := Claim7.holds Tryd.pinned (.plain (OpenSpec.ofChange fnLogGapSpec)) fnLogGapCard

/-- THE SECOND FORM's CARD OF 'laws.FnMadeWho'. -/
def fnMadeWhoUptoCard : Claim7 := { stood := { row := fnMadeWhoUptoRow, standIns := [], harness := (true, "60de1edf1674064b284bcfe36f2691d8fd48a7066d9319431858bc785dd07265"), looks := true }, kinds := [], alts := [], laidByText := true, laidKinds := [.data], laidTests := true, laidLooks := .later }
def FnMadeWhoUptoCardSaid : Prop := Claim7.holds Tryd.pinned (.plain (OpenSpec.upto fnMadeWhoSpec)) fnMadeWhoUptoCard

/-- THE SECOND FORM's CARD OF 'laws.FnWho'. -/
def fnWhoUptoCard : Claim7 := { stood := { row := fnWhoUptoRow, standIns := [], harness := (true, "60de1edf1674064b284bcfe36f2691d8fd48a7066d9319431858bc785dd07265"), looks := true }, kinds := [], alts := [], laidByText := true, laidKinds := [.data], laidTests := true, laidLooks := .later }
def FnWhoUptoCardSaid : Prop := Claim7.holds Tryd.pinned (.plain (OpenSpec.upto fnWhoSpec)) fnWhoUptoCard

/-- THE SECOND FORM's CARD OF 'laws.FnTreeForm'. -/
def fnTreeFormUptoCard : Claim7 := { stood := { row := fnTreeFormUptoRow, standIns := [], harness := (true, "60de1edf1674064b284bcfe36f2691d8fd48a7066d9319431858bc785dd07265"), looks := true }, kinds := [], alts := [], laidByText := true, laidKinds := [.data], laidTests := true, laidLooks := .later }
def FnTreeFormUptoCardSaid : Prop := Claim7.holds Tryd.pinned (.plain (OpenSpec.upto fnTreeFormSpec)) fnTreeFormUptoCard

/-- THE SECOND FORM's CARD OF 'laws.FnEntryForm'. -/
def fnEntryFormUptoCard : Claim7 := { stood := { row := fnEntryFormUptoRow, standIns := [], harness := (true, "60de1edf1674064b284bcfe36f2691d8fd48a7066d9319431858bc785dd07265"), looks := true }, kinds := [], alts := [], laidByText := true, laidKinds := [.data], laidTests := true, laidLooks := .later }
def FnEntryFormUptoCardSaid : Prop := Claim7.holds Tryd.pinned (.plain (OpenSpec.upto fnEntryFormSpec)) fnEntryFormUptoCard

/-- THE SECOND FORM's CARD OF 'laws.FnLogAdd'. -/
def fnLogAddUptoCard : Claim7 := { stood := { row := fnLogAddUptoRow, standIns := [], harness := (true, "60de1edf1674064b284bcfe36f2691d8fd48a7066d9319431858bc785dd07265"), looks := true }, kinds := [], alts := [], laidByText := true, laidKinds := [.data], laidTests := true, laidLooks := .later }
def FnLogAddUptoCardSaid : Prop := Claim7.holds Tryd.pinned (.plain (OpenSpec.upto fnLogAddSpec)) fnLogAddUptoCard

/-- THE SECOND FORM's CARD OF 'laws.FnLogTwice'. -/
def fnLogTwiceUptoCard : Claim7 := { stood := { row := fnLogTwiceUptoRow, standIns := [], harness := (true, "60de1edf1674064b284bcfe36f2691d8fd48a7066d9319431858bc785dd07265"), looks := true }, kinds := [], alts := [], laidByText := true, laidKinds := [.data], laidTests := true, laidLooks := .later }
def FnLogTwiceUptoCardSaid : Prop := Claim7.holds Tryd.pinned (.plain (OpenSpec.upto fnLogTwiceSpec)) fnLogTwiceUptoCard

/-- THE SECOND FORM's CARD OF 'laws.FnLogSeq'. -/
def fnLogSeqUptoCard : Claim7 := { stood := { row := fnLogSeqUptoRow, standIns := [], harness := (true, "60de1edf1674064b284bcfe36f2691d8fd48a7066d9319431858bc785dd07265"), looks := true }, kinds := [], alts := [], laidByText := true, laidKinds := [.data], laidTests := true, laidLooks := .later }
def FnLogSeqUptoCardSaid : Prop := Claim7.holds Tryd.pinned (.plain (OpenSpec.upto fnLogSeqSpec)) fnLogSeqUptoCard

/-- THE SECOND FORM's CARD OF 'laws.FnLogTree'. -/
def fnLogTreeUptoCard : Claim7 := { stood := { row := fnLogTreeUptoRow, standIns := [], harness := (true, "60de1edf1674064b284bcfe36f2691d8fd48a7066d9319431858bc785dd07265"), looks := true }, kinds := [], alts := [], laidByText := true, laidKinds := [.data], laidTests := true, laidLooks := .later }
def FnLogTreeUptoCardSaid : Prop := Claim7.holds Tryd.pinned (.plain (OpenSpec.upto fnLogTreeSpec)) fnLogTreeUptoCard

/-- THE SECOND FORM's CARD OF 'laws.FnLogCut'. -/
def fnLogCutUptoCard : Claim7 := { stood := { row := fnLogCutUptoRow, standIns := [], harness := (true, "60de1edf1674064b284bcfe36f2691d8fd48a7066d9319431858bc785dd07265"), looks := true }, kinds := [], alts := [], laidByText := true, laidKinds := [.data], laidTests := true, laidLooks := .later }
def FnLogCutUptoCardSaid : Prop := Claim7.holds Tryd.pinned (.plain (OpenSpec.upto fnLogCutSpec)) fnLogCutUptoCard

/-- THE SECOND FORM's CARD OF 'laws.FnTreeMore'. -/
def fnTreeMoreUptoCard : Claim7 := { stood := { row := fnTreeMoreUptoRow, standIns := [], harness := (true, "60de1edf1674064b284bcfe36f2691d8fd48a7066d9319431858bc785dd07265"), looks := true }, kinds := [], alts := [], laidByText := true, laidKinds := [.data], laidTests := true, laidLooks := .later }
def FnTreeMoreUptoCardSaid : Prop := Claim7.holds Tryd.pinned (.plain (OpenSpec.upto fnTreeMoreSpec)) fnTreeMoreUptoCard

/-- THE SECOND FORM's CARD OF 'laws.FnLogGap'. -/
def fnLogGapUptoCard : Claim7 := { stood := { row := fnLogGapUptoRow, standIns := [], harness := (true, "60de1edf1674064b284bcfe36f2691d8fd48a7066d9319431858bc785dd07265"), looks := true }, kinds := [], alts := [], laidByText := true, laidKinds := [.data], laidTests := true, laidLooks := .later }
def FnLogGapUptoCardSaid : Prop := Claim7.holds Tryd.pinned (.plain (OpenSpec.upto fnLogGapSpec)) fnLogGapUptoCard
end Rows
end Go.Proofs.YtcaoojceeppibaaDoor
