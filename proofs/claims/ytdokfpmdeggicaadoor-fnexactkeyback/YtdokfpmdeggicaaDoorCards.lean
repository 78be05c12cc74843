/-
  DERIVED. GIVEN WITH THE SEED: THE CARDS: each row of YtdokfpmdeggicaaDoorRows.lean that lists a variable, with what it lists TIED to the program's text (the seventh form; the later family's looks); each row that meets fmt, with fmt's text TOLD by the authors' own Lean function (tested against real Go, not proved from fmt's source: count such statements apart). THE CARD IS WHAT COUNTS. Prove the row's statement (the work); the ties are given (YtdokfpmdeggicaaDoorTie.lean); close each card by the builder's one call (the guide's Derived/Test/ToyasCard.lean, 'card_holds'). Laid BY PROGRAM, IN A SANDBOX (cutbox-door.mjs). By AI agents, Wed Nov 11 2026. No macro, syntax, notation, axiom, sorry.
-/
import Derived.Test.YtdokfpmdeggicaaDoorRows
import GoSem.ClaimSeven
namespace Go.Proofs.YtdokfpmdeggicaaDoor
namespace Rows

/-- THE TIED CARD OF 'laws.FnExactKeyBack'. -/
def fnExactKeyBackCard : Claim7 := { stood := { row := fnExactKeyBackRow, standIns := [], harness := (true, "b69c840ff65773676c8922001e19c2b53536d0f2d35cf089aa941b8c4a38e56f"), looks := true }, kinds := [], alts := [], laidByText := true, laidKinds := [.data], laidTests := true, laidLooks := .later }
def FnExactKeyBackCardSaid : Prop := Claim7.holds Tryd.pinned (.plain (OpenSpec.ofChange fnExactKeyBackSpec)) fnExactKeyBackCard

/-- THE TIED CARD OF 'laws.FnExactClientDo'. -/
def fnExactClientDoCard : Claim7 := { stood := { row := fnExactClientDoRow, standIns := [], harness := (true, "b69c840ff65773676c8922001e19c2b53536d0f2d35cf089aa941b8c4a38e56f"), looks := true }, kinds := [], alts := [], laidByText := true, laidKinds := [.data], laidTests := true, laidLooks := .later }
def FnExactClientDoCardSaid : Prop := Claim7.holds Tryd.pinned (.plain (OpenSpec.ofChange fnExactClientDoSpec)) fnExactClientDoCard

/-- THE TIED CARD OF 'laws.FnExactClientHear'. -/
def fnExactClientHearCard : Claim7 := { stood := { row := fnExactClientHearRow, standIns := [], harness := (true, "b69c840ff65773676c8922001e19c2b53536d0f2d35cf089aa941b8c4a38e56f"), looks := true }, kinds := [], alts := [], laidByText := true, laidKinds := [.data], laidTests := true, laidLooks := .later }
def FnExactClientHearCardSaid : Prop := Claim7.holds Tryd.pinned (.plain (OpenSpec.ofChange fnExactClientHearSpec)) fnExactClientHearCard

/-- THE SECOND FORM's CARD OF 'laws.FnExactKeyBack'. -/
def fnExactKeyBackUptoCard : Claim7 := { stood := { row := fnExactKeyBackUptoRow, standIns := [], harness := (true, "b69c840ff65773676c8922001e19c2b53536d0f2d35cf089aa941b8c4a38e56f"), looks := true }, kinds := [], alts := [], laidByText := true, laidKinds := [.data], laidTests := true, laidLooks := .later }
def FnExactKeyBackUptoCardSaid : Prop := Claim7.holds Tryd.pinned (.plain (OpenSpec.upto fnExactKeyBackSpec)) fnExactKeyBackUptoCard

/-- THE SECOND FORM's CARD OF 'laws.FnExactClientDo'. -/
def fnExactClientDoUptoCard : Claim7 := { stood := { row := fnExactClientDoUptoRow, standIns := [], harness := (true, "b69c840ff65773676c8922001e19c2b53536d0f2d35cf089aa941b8c4a38e56f"), looks := true }, kinds := [], alts := [], laidByText := true, laidKinds := [.data], laidTests := true, laidLooks := .later }
def FnExactClientDoUptoCardSaid : Prop := Claim7.holds Tryd.pinned (.plain (OpenSpec.upto fnExactClientDoSpec)) fnExactClientDoUptoCard

/-- THE SECOND FORM's CARD OF 'laws.FnExactClientHear'. -/
def fnExactClientHearUptoCard : Claim7 := { stood := { row := fnExactClientHearUptoRow, standIns := [], harness := (true, "b69c840ff65773676c8922001e19c2b53536d0f2d35cf089aa941b8c4a38e56f"), looks := true }, kinds := [], alts := [], laidByText := true, laidKinds := [.data], laidTests := true, laidLooks := .later }
def FnExactClientHearUptoCardSaid : Prop := Claim7.holds Tryd.pinned (.plain (OpenSpec.upto fnExactClientHearSpec)) fnExactClientHearUptoCard
end Rows
end Go.Proofs.YtdokfpmdeggicaaDoor
