/-
  DERIVED. GIVEN WITH THE SEED: THE CARDS: each row of YtljaoaehblcdoaaDoorRows.lean that lists a variable, with what it lists TIED to the program's text (the seventh form; the later family's looks); each row that meets fmt, with fmt's text TOLD by the authors' own Lean function (tested against real Go, not proved from fmt's source: count such statements apart). THE CARD IS WHAT COUNTS. Prove the row's statement (the work); the ties are given (YtljaoaehblcdoaaDoorTie.lean); close each card by the builder's one call (the guide's Derived/Test/ToyasCard.lean, 'card_holds'). Laid BY PROGRAM, IN A SANDBOX (cutbox-door.mjs). By AI agents, Wed Nov 11 2026. No macro, syntax, notation, axiom, sorry.
-/
import Derived.Test.YtljaoaehblcdoaaDoorRows
import GoSem.ClaimSeven
namespace Go.Proofs.YtljaoaehblcdoaaDoor
namespace Rows

/-- THE TIED CARD OF 'laws.FnExactOpWhere'. -/
def fnExactOpWhereCard : Claim7 := { stood := { row := fnExactOpWhereRow, standIns := [], harness := (true, "d59d075149e464479a4ca0add8208b1d0c3568efbf0a4d5d04a49dd4993f628a"), looks := true }, kinds := [], alts := [], laidByText := true, laidKinds := [.data], laidTests := true, laidLooks := .later }
def FnExactOpWhereCardSaid : Prop := Claim7.holds Tryd.pinned (.plain (OpenSpec.ofChange fnExactOpWhereSpec)) fnExactOpWhereCard

/-- THE TIED CARD OF 'laws.FnExactOpDo'. -/
def fnExactOpDoCard : Claim7 := { stood := { row := fnExactOpDoRow, standIns := [], harness := (true, "d59d075149e464479a4ca0add8208b1d0c3568efbf0a4d5d04a49dd4993f628a"), looks := true }, kinds := [], alts := [], laidByText := true, laidKinds := [.data], laidTests := true, laidLooks := .later }
def FnExactOpDoCardSaid : Prop := Claim7.holds Tryd.pinned (.plain (OpenSpec.ofChange fnExactOpDoSpec)) fnExactOpDoCard

/-- THE TIED CARD OF 'laws.FnExactTreeUp'. -/
def fnExactTreeUpCard : Claim7 := { stood := { row := fnExactTreeUpRow, standIns := [], harness := (true, "d59d075149e464479a4ca0add8208b1d0c3568efbf0a4d5d04a49dd4993f628a"), looks := true }, kinds := [], alts := [], laidByText := true, laidKinds := [.data], laidTests := true, laidLooks := .later }
def FnExactTreeUpCardSaid : Prop := Claim7.holds Tryd.pinned (.plain (OpenSpec.ofChange fnExactTreeUpSpec)) fnExactTreeUpCard

/-- THE TIED CARD OF 'laws.FnExactTreeKids'. -/
def fnExactTreeKidsCard : Claim7 := { stood := { row := fnExactTreeKidsRow, standIns := [], harness := (true, "d59d075149e464479a4ca0add8208b1d0c3568efbf0a4d5d04a49dd4993f628a"), looks := true }, kinds := [], alts := [], laidByText := true, laidKinds := [.data], laidTests := true, laidLooks := .later }
def FnExactTreeKidsCardSaid : Prop := Claim7.holds Tryd.pinned (.plain (OpenSpec.ofChange fnExactTreeKidsSpec)) fnExactTreeKidsCard

/-- THE TIED CARD OF 'laws.FnExactTreeUnder'. -/
def fnExactTreeUnderCard : Claim7 := { stood := { row := fnExactTreeUnderRow, standIns := [], harness := (true, "d59d075149e464479a4ca0add8208b1d0c3568efbf0a4d5d04a49dd4993f628a"), looks := true }, kinds := [], alts := [], laidByText := true, laidKinds := [.data], laidTests := true, laidLooks := .later }
def FnExactTreeUnderCardSaid : Prop := Claim7.holds Tryd.pinned (.plain (OpenSpec.ofChange fnExactTreeUnderSpec)) fnExactTreeUnderCard

/-- THE TIED CARD OF 'laws.FnExactTreeAhead'. -/
def fnExactTreeAheadCard : Claim7 := { stood := { row := fnExactTreeAheadRow, standIns := [], harness := (true, "d59d075149e464479a4ca0add8208b1d0c3568efbf0a4d5d04a49dd4993f628a"), looks := true }, kinds := [], alts := [], laidByText := true, laidKinds := [.data], laidTests := true, laidLooks := .later }
def FnExactTreeAheadCardSaid : Prop := Claim7.holds Tryd.pinned (.plain (OpenSpec.ofChange fnExactTreeAheadSpec)) fnExactTreeAheadCard

/-- THE SECOND FORM's CARD OF 'laws.FnExactOpWhere'. -/
def fnExactOpWhereUptoCard : Claim7 := { stood := { row := fnExactOpWhereUptoRow, standIns := [], harness := (true, "d59d075149e464479a4ca0add8208b1d0c3568efbf0a4d5d04a49dd4993f628a"), looks := true }, kinds := [], alts := [], laidByText := true, laidKinds := [.data], laidTests := true, laidLooks := .later }
def FnExactOpWhereUptoCardSaid : Prop := Claim7.holds Tryd.pinned (.plain (OpenSpec.upto fnExactOpWhereSpec)) fnExactOpWhereUptoCard

/-- THE SECOND FORM's CARD OF 'laws.FnExactOpDo'. -/
def fnExactOpDoUptoCard : Claim7 := { stood := { row := fnExactOpDoUptoRow, standIns := [], harness := (true, "d59d075149e464479a4ca0add8208b1d0c3568efbf0a4d5d04a49dd4993f628a"), looks := true }, kinds := [], alts := [], laidByText := true, laidKinds := [.data], laidTests := true, laidLooks := .later }
def FnExactOpDoUptoCardSaid : Prop := Claim7.holds Tryd.pinned (.plain (OpenSpec.upto fnExactOpDoSpec)) fnExactOpDoUptoCard

/-- THE SECOND FORM's CARD OF 'laws.FnExactTreeUp'. -/
def fnExactTreeUpUptoCard : Claim7 := { stood := { row := fnExactTreeUpUptoRow, standIns := [], harness := (true, "d59d075149e464479a4ca0add8208b1d0c3568efbf0a4d5d04a49dd4993f628a"), looks := true }, kinds := [], alts := [], laidByText := true, laidKinds := [.data], laidTests := true, laidLooks := .later }
def FnExactTreeUpUptoCardSaid : Prop := Claim7.holds Tryd.pinned (.plain (OpenSpec.upto fnExactTreeUpSpec)) fnExactTreeUpUptoCard

/-- THE SECOND FORM's CARD OF 'laws.FnExactTreeKids'. -/
def fnExactTreeKidsUptoCard : Claim7 := { stood := { row := fnExactTreeKidsUptoRow, standIns := [], harness := (true, "d59d075149e464479a4ca0add8208b1d0c3568efbf0a4d5d04a49dd4993f628a"), looks := true }, kinds := [], alts := [], laidByText := true, laidKinds := [.data], laidTests := true, laidLooks := .later }
def FnExactTreeKidsUptoCardSaid : Prop := Claim7.holds Tryd.pinned (.plain (OpenSpec.upto fnExactTreeKidsSpec)) fnExactTreeKidsUptoCard

/-- THE SECOND FORM's CARD OF 'laws.FnExactTreeUnder'. -/
def fnExactTreeUnderUptoCard : Claim7 := { stood := { row := fnExactTreeUnderUptoRow, standIns := [], harness := (true, "d59d075149e464479a4ca0add8208b1d0c3568efbf0a4d5d04a49dd4993f628a"), looks := true }, kinds := [], alts := [], laidByText := true, laidKinds := [.data], laidTests := true, laidLooks := .later }
def FnExactTreeUnderUptoCardSaid : Prop := Claim7.holds Tryd.pinned (.plain (OpenSpec.upto fnExactTreeUnderSpec)) fnExactTreeUnderUptoCard

/-- THE SECOND FORM's CARD OF 'laws.FnExactTreeAhead'. -/
def fnExactTreeAheadUptoCard : Claim7 := { stood := { row := fnExactTreeAheadUptoRow, standIns := [], harness := (true, "d59d075149e464479a4ca0add8208b1d0c3568efbf0a4d5d04a49dd4993f628a"), looks := true }, kinds := [], alts := [], laidByText := true, laidKinds := [.data], laidTests := true, laidLooks := .later }
def FnExactTreeAheadUptoCardSaid : Prop := Claim7.holds Tryd.pinned (.plain (OpenSpec.upto fnExactTreeAheadSpec)) fnExactTreeAheadUptoCard
end Rows
end Go.Proofs.YtljaoaehblcdoaaDoor
