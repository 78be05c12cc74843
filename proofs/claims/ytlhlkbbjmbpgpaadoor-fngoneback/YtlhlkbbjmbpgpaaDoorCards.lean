/-
  DERIVED. GIVEN WITH THE SEED: THE CARDS: each row of YtlhlkbbjmbpgpaaDoorRows.lean that lists a variable, with what it lists TIED to the program's text (the seventh form; the later family's looks); each row that meets fmt, with fmt's text TOLD by the authors' own Lean function (tested against real Go, not proved from fmt's source: count such statements apart). THE CARD IS WHAT COUNTS. Prove the row's statement (the work); the ties are given (YtlhlkbbjmbpgpaaDoorTie.lean); close each card by the builder's one call (the guide's Derived/Test/ToyasCard.lean, 'card_holds'). Laid BY PROGRAM, IN A SANDBOX (cutbox-door.mjs). By AI agents, Wed Nov 11 2026. No macro, syntax, notation, axiom, sorry.
-/
import Derived.Test.YtlhlkbbjmbpgpaaDoorRows
import GoSem.ClaimSeven
namespace Go.Proofs.YtlhlkbbjmbpgpaaDoor
namespace Rows

/-- THE TIED CARD OF 'laws.FnWhere'. -/
def fnWhereCard : Claim7 := { stood := { row := fnWhereRow, standIns := [], harness := (true, "2b21f95d8dde1a541dc292d736d75af597c40383317674eadffe100a61d928da"), looks := true }, kinds := [], alts := [], laidByText := true, laidKinds := [.data], laidTests := true, laidLooks := .later }
def FnWhereCardSaid : Prop := Claim7.holds Tryd.pinned (.plain (OpenSpec.ofChange fnWhereSpec)) fnWhereCard

/-- THE TIED CARD OF 'laws.FnWhereText'. -/
def fnWhereTextCard : Claim7 := { stood := { row := fnWhereTextRow, standIns := [], harness := (true, "2b21f95d8dde1a541dc292d736d75af597c40383317674eadffe100a61d928da"), looks := true }, kinds := [], alts := [], laidByText := true, laidKinds := [.data], laidTests := true, laidLooks := .later }
def FnWhereTextCardSaid : Prop := Claim7.holds Tryd.pinned (.plain (OpenSpec.ofChange fnWhereTextSpec)) fnWhereTextCard

/-- THE TIED CARD OF 'laws.FnTextOnly'. -/
def fnTextOnlyCard : Claim7 := { stood := { row := fnTextOnlyRow, standIns := [], harness := (true, "2b21f95d8dde1a541dc292d736d75af597c40383317674eadffe100a61d928da"), looks := true }, kinds := [], alts := [], laidByText := true, laidKinds := [.data], laidTests := true, laidLooks := .later }
def FnTextOnlyCardSaid : Prop := Claim7.holds Tryd.pinned (.plain (OpenSpec.ofChange fnTextOnlySpec)) fnTextOnlyCard

/-- THE TIED CARD OF 'laws.FnTextTwo'. -/
def fnTextTwoCard : Claim7 := { stood := { row := fnTextTwoRow, standIns := [], harness := (true, "2b21f95d8dde1a541dc292d736d75af597c40383317674eadffe100a61d928da"), looks := true }, kinds := [], alts := [], laidByText := true, laidKinds := [.data], laidTests := true, laidLooks := .later }
def FnTextTwoCardSaid : Prop := Claim7.holds Tryd.pinned (.plain (OpenSpec.ofChange fnTextTwoSpec)) fnTextTwoCard

/-- THE TIED CARD OF 'laws.FnDoWhere'. -/
def fnDoWhereCard : Claim7 := { stood := { row := fnDoWhereRow, standIns := [], harness := (true, "2b21f95d8dde1a541dc292d736d75af597c40383317674eadffe100a61d928da"), looks := true }, kinds := [], alts := [], laidByText := true, laidKinds := [.data], laidTests := true, laidLooks := .later }
def FnDoWhereCardSaid : Prop := Claim7.holds Tryd.pinned (.plain (OpenSpec.ofChange fnDoWhereSpec)) fnDoWhereCard

/-- THE TIED CARD OF 'laws.FnDoTwice'. -/
def fnDoTwiceCard : Claim7 := { stood := { row := fnDoTwiceRow, standIns := [], harness := (true, "2b21f95d8dde1a541dc292d736d75af597c40383317674eadffe100a61d928da"), looks := true }, kinds := [], alts := [], laidByText := true, laidKinds := [.data], laidTests := true, laidLooks := .later }
def FnDoTwiceCardSaid : Prop := Claim7.holds Tryd.pinned (.plain (OpenSpec.ofChange fnDoTwiceSpec)) fnDoTwiceCard

/-- THE TIED CARD OF 'laws.FnMoveTwo'. -/
def fnMoveTwoCard : Claim7 := { stood := { row := fnMoveTwoRow, standIns := [], harness := (true, "2b21f95d8dde1a541dc292d736d75af597c40383317674eadffe100a61d928da"), looks := true }, kinds := [], alts := [], laidByText := true, laidKinds := [.data], laidTests := true, laidLooks := .later }
def FnMoveTwoCardSaid : Prop := Claim7.holds Tryd.pinned (.plain (OpenSpec.ofChange fnMoveTwoSpec)) fnMoveTwoCard

/-- THE TIED CARD OF 'laws.FnMakeMove'. -/
def fnMakeMoveCard : Claim7 := { stood := { row := fnMakeMoveRow, standIns := [], harness := (true, "2b21f95d8dde1a541dc292d736d75af597c40383317674eadffe100a61d928da"), looks := true }, kinds := [], alts := [], laidByText := true, laidKinds := [.data], laidTests := true, laidLooks := .later }
def FnMakeMoveCardSaid : Prop := Claim7.holds Tryd.pinned (.plain (OpenSpec.ofChange fnMakeMoveSpec)) fnMakeMoveCard

/-- THE TIED CARD OF 'laws.FnMoveAll'. -/
def fnMoveAllCard : Claim7 := { stood := { row := fnMoveAllRow, standIns := [], harness := (true, "2b21f95d8dde1a541dc292d736d75af597c40383317674eadffe100a61d928da"), looks := true }, kinds := [], alts := [], laidByText := true, laidKinds := [.data], laidTests := true, laidLooks := .later }
def FnMoveAllCardSaid : Prop := Claim7.holds Tryd.pinned (.plain (OpenSpec.ofChange fnMoveAllSpec)) fnMoveAllCard

/-- THE TIED CARD OF 'laws.FnDoTexts'. -/
def fnDoTextsCard : Claim7 := { stood := { row := fnDoTextsRow, standIns := [], harness := (true, "2b21f95d8dde1a541dc292d736d75af597c40383317674eadffe100a61d928da"), looks := true }, kinds := [], alts := [], laidByText := true, laidKinds := [.data], laidTests := true, laidLooks := .later }
def FnDoTextsCardSaid : Prop := Claim7.holds Tryd.pinned (.plain (OpenSpec.ofChange fnDoTextsSpec)) fnDoTextsCard

/-- THE TIED CARD OF 'laws.FnTreeForm'. -/
def fnTreeFormCard : Claim7 := { stood := { row := fnTreeFormRow, standIns := [], harness := (true, "2b21f95d8dde1a541dc292d736d75af597c40383317674eadffe100a61d928da"), looks := true }, kinds := [], alts := [], laidByText := true, laidKinds := [.data], laidTests := true, laidLooks := .later }
def FnTreeFormCardSaid : Prop := Claim7.holds Tryd.pinned (.plain (OpenSpec.ofChange fnTreeFormSpec)) fnTreeFormCard

/-- THE TIED CARD OF 'laws.FnKeyIn'. -/
def fnKeyInCard : Claim7 := { stood := { row := fnKeyInRow, standIns := [], harness := (true, "2b21f95d8dde1a541dc292d736d75af597c40383317674eadffe100a61d928da"), looks := true }, kinds := [], alts := [], laidByText := true, laidKinds := [.data], laidTests := true, laidLooks := .later }
def FnKeyInCardSaid : Prop := Claim7.holds Tryd.pinned (.plain (OpenSpec.ofChange fnKeyInSpec)) fnKeyInCard

/-- THE TIED CARD OF 'laws.FnKeyOut'. -/
def fnKeyOutCard : Claim7 := { stood := { row := fnKeyOutRow, standIns := [], harness := (true, "2b21f95d8dde1a541dc292d736d75af597c40383317674eadffe100a61d928da"), looks := true }, kinds := [], alts := [], laidByText := true, laidKinds := [.data], laidTests := true, laidLooks := .later }
def FnKeyOutCardSaid : Prop := Claim7.holds Tryd.pinned (.plain (OpenSpec.ofChange fnKeyOutSpec)) fnKeyOutCard

/-- THE TIED CARD OF 'laws.FnKeyGone'. -/
def fnKeyGoneCard : Claim7 := { stood := { row := fnKeyGoneRow, standIns := [], harness := (true, "2b21f95d8dde1a541dc292d736d75af597c40383317674eadffe100a61d928da"), looks := true }, kinds := [], alts := [], laidByText := true, laidKinds := [.data], laidTests := true, laidLooks := .later }
def FnKeyGoneCardSaid : Prop := Claim7.holds Tryd.pinned (.plain (OpenSpec.ofChange fnKeyGoneSpec)) fnKeyGoneCard

/-- THE TIED CARD OF 'laws.FnInOut'. -/
def fnInOutCard : Claim7 := { stood := { row := fnInOutRow, standIns := [], harness := (true, "2b21f95d8dde1a541dc292d736d75af597c40383317674eadffe100a61d928da"), looks := true }, kinds := [], alts := [], laidByText := true, laidKinds := [.data], laidTests := true, laidLooks := .later }
def FnInOutCardSaid : Prop := Claim7.holds Tryd.pinned (.plain (OpenSpec.ofChange fnInOutSpec)) fnInOutCard

/-- THE TIED CARD OF 'laws.FnInDepth'. -/
def fnInDepthCard : Claim7 := { stood := { row := fnInDepthRow, standIns := [], harness := (true, "2b21f95d8dde1a541dc292d736d75af597c40383317674eadffe100a61d928da"), looks := true }, kinds := [], alts := [], laidByText := true, laidKinds := [.data], laidTests := true, laidLooks := .later }
def FnInDepthCardSaid : Prop := Claim7.holds Tryd.pinned (.plain (OpenSpec.ofChange fnInDepthSpec)) fnInDepthCard

/-- THE TIED CARD OF 'laws.FnOutIn'. -/
def fnOutInCard : Claim7 := { stood := { row := fnOutInRow, standIns := [], harness := (true, "2b21f95d8dde1a541dc292d736d75af597c40383317674eadffe100a61d928da"), looks := true }, kinds := [], alts := [], laidByText := true, laidKinds := [.data], laidTests := true, laidLooks := .later }
def FnOutInCardSaid : Prop := Claim7.holds Tryd.pinned (.plain (OpenSpec.ofChange fnOutInSpec)) fnOutInCard

/-- THE TIED CARD OF 'laws.FnGoneBack'. -/
def fnGoneBackCard : Claim7 := { stood := { row := fnGoneBackRow, standIns := [], harness := (true, "2b21f95d8dde1a541dc292d736d75af597c40383317674eadffe100a61d928da"), looks := true }, kinds := [], alts := [], laidByText := true, laidKinds := [.data], laidTests := true, laidLooks := .later }
def FnGoneBackCardSaid : Prop := Claim7.holds Tryd.pinned (.plain (OpenSpec.ofChange fnGoneBackSpec)) fnGoneBackCard

/-- THE SECOND FORM's CARD OF 'laws.FnWhere'. -/
def fnWhereUptoCard : Claim7 := { stood := { row := fnWhereUptoRow, standIns := [], harness := (true, "2b21f95d8dde1a541dc292d736d75af597c40383317674eadffe100a61d928da"), looks := true }, kinds := [], alts := [], laidByText := true, laidKinds := [.data], laidTests := true, laidLooks := .later }
def FnWhereUptoCardSaid : Prop := Claim7.holds Tryd.pinned (.plain (OpenSpec.upto fnWhereSpec)) fnWhereUptoCard

/-- THE SECOND FORM's CARD OF 'laws.FnWhereText'. -/
def fnWhereTextUptoCard : Claim7 := { stood := { row := fnWhereTextUptoRow, standIns := [], harness := (true, "2b21f95d8dde1a541dc292d736d75af597c40383317674eadffe100a61d928da"), looks := true }, kinds := [], alts := [], laidByText := true, laidKinds := [.data], laidTests := true, laidLooks := .later }
def FnWhereTextUptoCardSaid : Prop := Claim7.holds Tryd.pinned (.plain (OpenSpec.upto fnWhereTextSpec)) fnWhereTextUptoCard

/-- THE SECOND FORM's CARD OF 'laws.FnTextOnly'. -/
def fnTextOnlyUptoCard : Claim7 := { stood := { row := fnTextOnlyUptoRow, standIns := [], harness := (true, "2b21f95d8dde1a541dc292d736d75af597c40383317674eadffe100a61d928da"), looks := true }, kinds := [], alts := [], laidByText := true, laidKinds := [.data], laidTests := true, laidLooks := .later }
def FnTextOnlyUptoCardSaid : Prop := Claim7.holds Tryd.pinned (.plain (OpenSpec.upto fnTextOnlySpec)) fnTextOnlyUptoCard

/-- THE SECOND FORM's CARD OF 'laws.FnTextTwo'. -/
def fnTextTwoUptoCard : Claim7 := { stood := { row := fnTextTwoUptoRow, standIns := [], harness := (true, "2b21f95d8dde1a541dc292d736d75af597c40383317674eadffe100a61d928da"), looks := true }, kinds := [], alts := [], laidByText := true, laidKinds := [.data], laidTests := true, laidLooks := .later }
def FnTextTwoUptoCardSaid : Prop := Claim7.holds Tryd.pinned (.plain (OpenSpec.upto fnTextTwoSpec)) fnTextTwoUptoCard

/-- THE SECOND FORM's CARD OF 'laws.FnDoWhere'. -/
def fnDoWhereUptoCard : Claim7 := { stood := { row := fnDoWhereUptoRow, standIns := [], harness := (true, "2b21f95d8dde1a541dc292d736d75af597c40383317674eadffe100a61d928da"), looks := true }, kinds := [], alts := [], laidByText := true, laidKinds := [.data], laidTests := true, laidLooks := .later }
def FnDoWhereUptoCardSaid : Prop := Claim7.holds Tryd.pinned (.plain (OpenSpec.upto fnDoWhereSpec)) fnDoWhereUptoCard

/-- THE SECOND FORM's CARD OF 'laws.FnDoTwice'. -/
def fnDoTwiceUptoCard : Claim7 := { stood := { row := fnDoTwiceUptoRow, standIns := [], harness := (true, "2b21f95d8dde1a541dc292d736d75af597c40383317674eadffe100a61d928da"), looks := true }, kinds := [], alts := [], laidByText := true, laidKinds := [.data], laidTests := true, laidLooks := .later }
def FnDoTwiceUptoCardSaid : Prop := Claim7.holds Tryd.pinned (.plain (OpenSpec.upto fnDoTwiceSpec)) fnDoTwiceUptoCard

/-- THE SECOND FORM's CARD OF 'laws.FnMoveTwo'. -/
def fnMoveTwoUptoCard : Claim7 := { stood := { row := fnMoveTwoUptoRow, standIns := [], harness := (true, "2b21f95d8dde1a541dc292d736d75af597c40383317674eadffe100a61d928da"), looks := true }, kinds := [], alts := [], laidByText := true, laidKinds := [.data], laidTests := true, laidLooks := .later }
def FnMoveTwoUptoCardSaid : Prop := Claim7.holds Tryd.pinned (.plain (OpenSpec.upto fnMoveTwoSpec)) fnMoveTwoUptoCard

/-- THE SECOND FORM's CARD OF 'laws.FnMakeMove'. -/
def fnMakeMoveUptoCard : Claim7 := { stood := { row := fnMakeMoveUptoRow, standIns := [], harness := (true, "2b21f95d8dde1a541dc292d736d75af597c40383317674eadffe100a61d928da"), looks := true }, kinds := [], alts := [], laidByText := true, laidKinds := [.data], laidTests := true, laidLooks := .later }
def FnMakeMoveUptoCardSaid : Prop := Claim7.holds Tryd.pinned (.plain (OpenSpec.upto fnMakeMoveSpec)) fnMakeMoveUptoCard

/-- THE SECOND FORM's CARD OF 'laws.FnMoveAll'. -/
def fnMoveAllUptoCard : Claim7 := { stood := { row := fnMoveAllUptoRow, standIns := [], harness := (true, "2b21f95d8dde1a541dc292d736d75af597c40383317674eadffe100a61d928da"), looks := true }, kinds := [], alts := [], laidByText := true, laidKinds := [.data], laidTests := true, laidLooks := .later }
def FnMoveAllUptoCardSaid : Prop := Claim7.holds Tryd.pinned (.plain (OpenSpec.upto fnMoveAllSpec)) fnMoveAllUptoCard

/-- THE SECOND FORM's CARD OF 'laws.FnDoTexts'. -/
def fnDoTextsUptoCard : Claim7 := { stood := { row := fnDoTextsUptoRow, standIns := [], harness := (true, "2b21f95d8dde1a541dc292d736d75af597c40383317674eadffe100a61d928da"), looks := true }, kinds := [], alts := [], laidByText := true, laidKinds := [.data], laidTests := true, laidLooks := .later }
def FnDoTextsUptoCardSaid : Prop := Claim7.holds Tryd.pinned (.plain (OpenSpec.upto fnDoTextsSpec)) fnDoTextsUptoCard

/-- THE SECOND FORM's CARD OF 'laws.FnTreeForm'. -/
def fnTreeFormUptoCard : Claim7 := { stood := { row := fnTreeFormUptoRow, standIns := [], harness := (true, "2b21f95d8dde1a541dc292d736d75af597c40383317674eadffe100a61d928da"), looks := true }, kinds := [], alts := [], laidByText := true, laidKinds := [.data], laidTests := true, laidLooks := .later }
def FnTreeFormUptoCardSaid : Prop := Claim7.holds Tryd.pinned (.plain (OpenSpec.upto fnTreeFormSpec)) fnTreeFormUptoCard

/-- THE SECOND FORM's CARD OF 'laws.FnKeyIn'. -/
def fnKeyInUptoCard : Claim7 := { stood := { row := fnKeyInUptoRow, standIns := [], harness := (true, "2b21f95d8dde1a541dc292d736d75af597c40383317674eadffe100a61d928da"), looks := true }, kinds := [], alts := [], laidByText := true, laidKinds := [.data], laidTests := true, laidLooks := .later }
def FnKeyInUptoCardSaid : Prop := Claim7.holds Tryd.pinned (.plain (OpenSpec.upto fnKeyInSpec)) fnKeyInUptoCard

/-- THE SECOND FORM's CARD OF 'laws.FnKeyOut'. -/
def fnKeyOutUptoCard : Claim7 := { stood := { row := fnKeyOutUptoRow, standIns := [], harness := (true, "2b21f95d8dde1a541dc292d736d75af597c40383317674eadffe100a61d928da"), looks := true }, kinds := [], alts := [], laidByText := true, laidKinds := [.data], laidTests := true, laidLooks := .later }
def FnKeyOutUptoCardSaid : Prop := Claim7.holds Tryd.pinned (.plain (OpenSpec.upto fnKeyOutSpec)) fnKeyOutUptoCard

/-- THE SECOND FORM's CARD OF 'laws.FnKeyGone'. -/
def fnKeyGoneUptoCard : Claim7 := { stood := { row := fnKeyGoneUptoRow, standIns := [], harness := (true, "2b21f95d8dde1a541dc292d736d75af597c40383317674eadffe100a61d928da"), looks := true }, kinds := [], alts := [], laidByText := true, laidKinds := [.data], laidTests := true, laidLooks := .later }
def FnKeyGoneUptoCardSaid : Prop := Claim7.holds Tryd.pinned (.plain (OpenSpec.upto fnKeyGoneSpec)) fnKeyGoneUptoCard

/-- THE SECOND FORM's CARD OF 'laws.FnInOut'. -/
def fnInOutUptoCard : Claim7 := { stood := { row := fnInOutUptoRow, standIns := [], harness := (true, "2b21f95d8dde1a541dc292d736d75af597c40383317674eadffe100a61d928da"), looks := true }, kinds := [], alts := [], laidByText := true, laidKinds := [.data], laidTests := true, laidLooks := .later }
def FnInOutUptoCardSaid : Prop := Claim7.holds Tryd.pinned (.plain (OpenSpec.upto fnInOutSpec)) fnInOutUptoCard

/-- THE SECOND FORM's CARD OF 'laws.FnInDepth'. -/
def fnInDepthUptoCard : Claim7 := { stood := { row := fnInDepthUptoRow, standIns := [], harness := (true, "2b21f95d8dde1a541dc292d736d75af597c40383317674eadffe100a61d928da"), looks := true }, kinds := [], alts := [], laidByText := true, laidKinds := [.data], laidTests := true, laidLooks := .later }
def FnInDepthUptoCardSaid : Prop := Claim7.holds Tryd.pinned (.plain (OpenSpec.upto fnInDepthSpec)) fnInDepthUptoCard

/-- THE SECOND FORM's CARD OF 'laws.FnOutIn'. -/
def fnOutInUptoCard : Claim7 := { stood := { row := fnOutInUptoRow, standIns := [], harness := (true, "2b21f95d8dde1a541dc292d736d75af597c40383317674eadffe100a61d928da"), looks := true }, kinds := [], alts := [], laidByText := true, laidKinds := [.data], laidTests := true, laidLooks := .later }
def FnOutInUptoCardSaid : Prop := Claim7.holds Tryd.pinned (.plain (OpenSpec.upto fnOutInSpec)) fnOutInUptoCard

/-- THE SECOND FORM's CARD OF 'laws.FnGoneBack'. -/
def fnGoneBackUptoCard : Claim7 := { stood := { row := fnGoneBackUptoRow, standIns := [], harness := (true, "2b21f95d8dde1a541dc292d736d75af597c40383317674eadffe100a61d928da"), looks := true }, kinds := [], alts := [], laidByText := true, laidKinds := [.data], laidTests := true, laidLooks := .later }
def FnGoneBackUptoCardSaid : Prop := Claim7.holds Tryd.pinned (.plain (OpenSpec.upto fnGoneBackSpec)) fnGoneBackUptoCard
end Rows
end Go.Proofs.YtlhlkbbjmbpgpaaDoor
