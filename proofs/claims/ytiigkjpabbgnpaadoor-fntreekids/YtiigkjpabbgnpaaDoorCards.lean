/-
  DERIVED. GIVEN WITH THE SEED: THE CARDS: each row of YtiigkjpabbgnpaaDoorRows.lean that lists a variable, with what it lists TIED to the program's text (the seventh form; the later family's looks); each row that meets fmt, with fmt's text TOLD by the authors' own Lean function (tested against real Go, not proved from fmt's source: count such statements apart). THE CARD IS WHAT COUNTS. Prove the row's statement (the work); the ties are given (YtiigkjpabbgnpaaDoorTie.lean); close each card by the builder's one call (the guide's Derived/Test/ToyasCard.lean, 'card_holds'). Laid BY PROGRAM, IN A SANDBOX (cutbox-door.mjs). By AI agents, Wed Nov 11 2026. No macro, syntax, notation, axiom, sorry.
-/
import Derived.Test.YtiigkjpabbgnpaaDoorRows
import GoSem.ClaimSeven
namespace Go.Proofs.YtiigkjpabbgnpaaDoor
namespace Rows

/-- THE TIED CARD OF 'laws.FnTreeForm'. -/
def fnTreeFormCard : Claim7 := { stood := { row := fnTreeFormRow, standIns := [], harness := (true, "f452672fcf52b78130b72493bc066baa952bf12f80cd26545b0f4ebd4144af0f"), looks := false }, kinds := [], alts := [], laidByText := true, laidKinds := [.data], laidTests := true, laidLooks := .later }
def FnTreeFormCardSaid : Prop := Claim7.holds Tryd.pinned (.plain (OpenSpec.ofChange fnTreeFormSpec)) fnTreeFormCard

/-- THE TIED CARD OF 'laws.FnTreeUp'. -/
def fnTreeUpCard : Claim7 := { stood := { row := fnTreeUpRow, standIns := [], harness := (true, "f452672fcf52b78130b72493bc066baa952bf12f80cd26545b0f4ebd4144af0f"), looks := false }, kinds := [], alts := [], laidByText := true, laidKinds := [.data], laidTests := true, laidLooks := .later }
def FnTreeUpCardSaid : Prop := Claim7.holds Tryd.pinned (.plain (OpenSpec.ofChange fnTreeUpSpec)) fnTreeUpCard

/-- THE TIED CARD OF 'laws.FnTreeKids'. -/
def fnTreeKidsCard : Claim7 := { stood := { row := fnTreeKidsRow, standIns := [], harness := (true, "f452672fcf52b78130b72493bc066baa952bf12f80cd26545b0f4ebd4144af0f"), looks := false }, kinds := [], alts := [], laidByText := true, laidKinds := [.data], laidTests := true, laidLooks := .later }
def FnTreeKidsCardSaid : Prop := Claim7.holds Tryd.pinned (.plain (OpenSpec.ofChange fnTreeKidsSpec)) fnTreeKidsCard

/-- THE TIED CARD OF 'laws.FnTreeBelow'. -/
def fnTreeBelowCard : Claim7 := { stood := { row := fnTreeBelowRow, standIns := [], harness := (true, "f452672fcf52b78130b72493bc066baa952bf12f80cd26545b0f4ebd4144af0f"), looks := false }, kinds := [], alts := [], laidByText := true, laidKinds := [.data], laidTests := true, laidLooks := .later }
def FnTreeBelowCardSaid : Prop := Claim7.holds Tryd.pinned (.plain (OpenSpec.ofChange fnTreeBelowSpec)) fnTreeBelowCard

/-- THE TIED CARD OF 'laws.FnAhead'. -/
def fnAheadCard : Claim7 := { stood := { row := fnAheadRow, standIns := [], harness := (true, "f452672fcf52b78130b72493bc066baa952bf12f80cd26545b0f4ebd4144af0f"), looks := false }, kinds := [], alts := [], laidByText := true, laidKinds := [.data], laidTests := true, laidLooks := .later }
def FnAheadCardSaid : Prop := Claim7.holds Tryd.pinned (.plain (OpenSpec.ofChange fnAheadSpec)) fnAheadCard

/-- THE TIED CARD OF 'laws.FnKidsAll'. -/
def fnKidsAllCard : Claim7 := { stood := { row := fnKidsAllRow, standIns := [], harness := (true, "f452672fcf52b78130b72493bc066baa952bf12f80cd26545b0f4ebd4144af0f"), looks := false }, kinds := [], alts := [], laidByText := true, laidKinds := [.data], laidTests := true, laidLooks := .later }
def FnKidsAllCardSaid : Prop := Claim7.holds Tryd.pinned (.plain (OpenSpec.ofChange fnKidsAllSpec)) fnKidsAllCard

/-- THE TIED CARD OF 'laws.FnTreeUnder'. -/
def fnTreeUnderCard : Claim7 := { stood := { row := fnTreeUnderRow, standIns := [], harness := (true, "f452672fcf52b78130b72493bc066baa952bf12f80cd26545b0f4ebd4144af0f"), looks := false }, kinds := [], alts := [], laidByText := true, laidKinds := [.data], laidTests := true, laidLooks := .later }
def FnTreeUnderCardSaid : Prop := Claim7.holds Tryd.pinned (.plain (OpenSpec.ofChange fnTreeUnderSpec)) fnTreeUnderCard

/-- THE TIED CARD OF 'laws.FnDeep'. -/
def fnDeepCard : Claim7 := { stood := { row := fnDeepRow, standIns := [], harness := (true, "f452672fcf52b78130b72493bc066baa952bf12f80cd26545b0f4ebd4144af0f"), looks := false }, kinds := [], alts := [], laidByText := true, laidKinds := [.data], laidTests := true, laidLooks := .later }
def FnDeepCardSaid : Prop := Claim7.holds Tryd.pinned (.plain (OpenSpec.ofChange fnDeepSpec)) fnDeepCard

/-- THE TIED CARD OF 'laws.FnUnderThree'. -/
def fnUnderThreeCard : Claim7 := { stood := { row := fnUnderThreeRow, standIns := [], harness := (true, "f452672fcf52b78130b72493bc066baa952bf12f80cd26545b0f4ebd4144af0f"), looks := false }, kinds := [], alts := [], laidByText := true, laidKinds := [.data], laidTests := true, laidLooks := .later }
def FnUnderThreeCardSaid : Prop := Claim7.holds Tryd.pinned (.plain (OpenSpec.ofChange fnUnderThreeSpec)) fnUnderThreeCard

/-- THE SECOND FORM's CARD OF 'laws.FnTreeForm'. -/
def fnTreeFormUptoCard : Claim7 := { stood := { row := fnTreeFormUptoRow, standIns := [], harness := (true, "f452672fcf52b78130b72493bc066baa952bf12f80cd26545b0f4ebd4144af0f"), looks := false }, kinds := [], alts := [], laidByText := true, laidKinds := [.data], laidTests := true, laidLooks := .later }
def FnTreeFormUptoCardSaid : Prop := Claim7.holds Tryd.pinned (.plain (OpenSpec.upto fnTreeFormSpec)) fnTreeFormUptoCard

/-- THE SECOND FORM's CARD OF 'laws.FnTreeUp'. -/
def fnTreeUpUptoCard : Claim7 := { stood := { row := fnTreeUpUptoRow, standIns := [], harness := (true, "f452672fcf52b78130b72493bc066baa952bf12f80cd26545b0f4ebd4144af0f"), looks := false }, kinds := [], alts := [], laidByText := true, laidKinds := [.data], laidTests := true, laidLooks := .later }
def FnTreeUpUptoCardSaid : Prop := Claim7.holds Tryd.pinned (.plain (OpenSpec.upto fnTreeUpSpec)) fnTreeUpUptoCard

/-- THE SECOND FORM's CARD OF 'laws.FnTreeKids'. -/
def fnTreeKidsUptoCard : Claim7 := { stood := { row := fnTreeKidsUptoRow, standIns := [], harness := (true, "f452672fcf52b78130b72493bc066baa952bf12f80cd26545b0f4ebd4144af0f"), looks := false }, kinds := [], alts := [], laidByText := true, laidKinds := [.data], laidTests := true, laidLooks := .later }
def FnTreeKidsUptoCardSaid : Prop := Claim7.holds Tryd.pinned (.plain (OpenSpec.upto fnTreeKidsSpec)) fnTreeKidsUptoCard

/-- THE SECOND FORM's CARD OF 'laws.FnTreeBelow'. -/
def fnTreeBelowUptoCard : Claim7 := { stood := { row := fnTreeBelowUptoRow, standIns := [], harness := (true, "f452672fcf52b78130b72493bc066baa952bf12f80cd26545b0f4ebd4144af0f"), looks := false }, kinds := [], alts := [], laidByText := true, laidKinds := [.data], laidTests := true, laidLooks := .later }
def FnTreeBelowUptoCardSaid : Prop := Claim7.holds Tryd.pinned (.plain (OpenSpec.upto fnTreeBelowSpec)) fnTreeBelowUptoCard

/-- THE SECOND FORM's CARD OF 'laws.FnAhead'. -/
def fnAheadUptoCard : Claim7 := { stood := { row := fnAheadUptoRow, standIns := [], harness := (true, "f452672fcf52b78130b72493bc066baa952bf12f80cd26545b0f4ebd4144af0f"), looks := false }, kinds := [], alts := [], laidByText := true, laidKinds := [.data], laidTests := true, laidLooks := .later }
def FnAheadUptoCardSaid : Prop := Claim7.holds Tryd.pinned (.plain (OpenSpec.upto fnAheadSpec)) fnAheadUptoCard

/-- THE SECOND FORM's CARD OF 'laws.FnKidsAll'. -/
def fnKidsAllUptoCard : Claim7 := { stood := { row := fnKidsAllUptoRow, standIns := [], harness := (true, "f452672fcf52b78130b72493bc066baa952bf12f80cd26545b0f4ebd4144af0f"), looks := false }, kinds := [], alts := [], laidByText := true, laidKinds := [.data], laidTests := true, laidLooks := .later }
def FnKidsAllUptoCardSaid : Prop := Claim7.holds Tryd.pinned (.plain (OpenSpec.upto fnKidsAllSpec)) fnKidsAllUptoCard

/-- THE SECOND FORM's CARD OF 'laws.FnTreeUnder'. -/
def fnTreeUnderUptoCard : Claim7 := { stood := { row := fnTreeUnderUptoRow, standIns := [], harness := (true, "f452672fcf52b78130b72493bc066baa952bf12f80cd26545b0f4ebd4144af0f"), looks := false }, kinds := [], alts := [], laidByText := true, laidKinds := [.data], laidTests := true, laidLooks := .later }
def FnTreeUnderUptoCardSaid : Prop := Claim7.holds Tryd.pinned (.plain (OpenSpec.upto fnTreeUnderSpec)) fnTreeUnderUptoCard

/-- THE SECOND FORM's CARD OF 'laws.FnDeep'. -/
def fnDeepUptoCard : Claim7 := { stood := { row := fnDeepUptoRow, standIns := [], harness := (true, "f452672fcf52b78130b72493bc066baa952bf12f80cd26545b0f4ebd4144af0f"), looks := false }, kinds := [], alts := [], laidByText := true, laidKinds := [.data], laidTests := true, laidLooks := .later }
def FnDeepUptoCardSaid : Prop := Claim7.holds Tryd.pinned (.plain (OpenSpec.upto fnDeepSpec)) fnDeepUptoCard

/-- THE SECOND FORM's CARD OF 'laws.FnUnderThree'. -/
def fnUnderThreeUptoCard : Claim7 := { stood := { row := fnUnderThreeUptoRow, standIns := [], harness := (true, "f452672fcf52b78130b72493bc066baa952bf12f80cd26545b0f4ebd4144af0f"), looks := false }, kinds := [], alts := [], laidByText := true, laidKinds := [.data], laidTests := true, laidLooks := .later }
def FnUnderThreeUptoCardSaid : Prop := Claim7.holds Tryd.pinned (.plain (OpenSpec.upto fnUnderThreeSpec)) fnUnderThreeUptoCard
end Rows
end Go.Proofs.YtiigkjpabbgnpaaDoor
