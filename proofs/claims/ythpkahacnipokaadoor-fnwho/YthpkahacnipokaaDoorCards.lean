/-
  DERIVED. GIVEN WITH THE SEED: THE CARDS: each row of YthpkahacnipokaaDoorRows.lean that lists a variable, with what it lists TIED to the program's text (the seventh form; the later family's looks); each row that meets fmt, with fmt's text TOLD by the authors' own Lean function (tested against real Go, not proved from fmt's source: count such statements apart). THE CARD IS WHAT COUNTS. Prove the row's statement (the work); the ties are given (YthpkahacnipokaaDoorTie.lean); close each card by the builder's one call (the guide's Derived/Test/ToyasCard.lean, 'card_holds'). Laid BY PROGRAM, IN A SANDBOX (cutbox-door.mjs). By AI agents, Wed Nov 11 2026. No macro, syntax, notation, axiom, sorry.
-/
import Derived.Test.YthpkahacnipokaaDoorRows
import GoSem.ClaimSeven
namespace Go.Proofs.YthpkahacnipokaaDoor
namespace Rows

/-- THE TIED CARD OF 'laws.FnMadeWho'. -/
def fnMadeWhoCard : Claim7 := { stood := { row := fnMadeWhoRow, standIns := [], harness := (true, "22d5e4bbfc7727676dcb6d58e30f7c32292f9b5c59332b872dfe75778e484e70"), looks := false }, kinds := [], alts := [], laidByText := true, laidKinds := [.data], laidTests := true, laidLooks := .later }
def FnMadeWhoCardSaid : Prop := Claim7.holds Tryd.pinned (.plain (OpenSpec.ofChange fnMadeWhoSpec)) fnMadeWhoCard

/-- THE TIED CARD OF 'laws.FnWho'. -/
def fnWhoCard : Claim7 := { stood := { row := fnWhoRow, standIns := [], harness := (true, "22d5e4bbfc7727676dcb6d58e30f7c32292f9b5c59332b872dfe75778e484e70"), looks := false }, kinds := [], alts := [], laidByText := true, laidKinds := [.data], laidTests := true, laidLooks := .later }
def FnWhoCardSaid : Prop := Claim7.holds Tryd.pinned (.plain (OpenSpec.ofChange fnWhoSpec)) fnWhoCard

/-- THE TIED CARD OF 'laws.FnRowForm'. -/
def fnRowFormCard : Claim7 := { stood := { row := fnRowFormRow, standIns := [], harness := (true, "22d5e4bbfc7727676dcb6d58e30f7c32292f9b5c59332b872dfe75778e484e70"), looks := false }, kinds := [], alts := [], laidByText := true, laidKinds := [.data], laidTests := true, laidLooks := .later }
def FnRowFormCardSaid : Prop := Claim7.holds Tryd.pinned (.plain (OpenSpec.ofChange fnRowFormSpec)) fnRowFormCard

/-- THE TIED CARD OF 'laws.FnExactRowWho'. -/
def fnExactRowWhoCard : Claim7 := { stood := { row := fnExactRowWhoRow, standIns := [], harness := (true, "22d5e4bbfc7727676dcb6d58e30f7c32292f9b5c59332b872dfe75778e484e70"), looks := false }, kinds := [], alts := [], laidByText := true, laidKinds := [.data], laidTests := true, laidLooks := .later }
def FnExactRowWhoCardSaid : Prop := Claim7.holds Tryd.pinned (.plain (OpenSpec.ofChange fnExactRowWhoSpec)) fnExactRowWhoCard

/-- THE TIED CARD OF 'laws.FnExactRowOk'. -/
def fnExactRowOkCard : Claim7 := { stood := { row := fnExactRowOkRow, standIns := [], harness := (true, "22d5e4bbfc7727676dcb6d58e30f7c32292f9b5c59332b872dfe75778e484e70"), looks := false }, kinds := [], alts := [], laidByText := true, laidKinds := [.data], laidTests := true, laidLooks := .later }
def FnExactRowOkCardSaid : Prop := Claim7.holds Tryd.pinned (.plain (OpenSpec.ofChange fnExactRowOkSpec)) fnExactRowOkCard

/-- THE SECOND FORM's CARD OF 'laws.FnMadeWho'. -/
def fnMadeWhoUptoCard : Claim7 := { stood := { row := fnMadeWhoUptoRow, standIns := [], harness := (true, "22d5e4bbfc7727676dcb6d58e30f7c32292f9b5c59332b872dfe75778e484e70"), looks := false }, kinds := [], alts := [], laidByText := true, laidKinds := [.data], laidTests := true, laidLooks := .later }
def FnMadeWhoUptoCardSaid : Prop := Claim7.holds Tryd.pinned (.plain (OpenSpec.upto fnMadeWhoSpec)) fnMadeWhoUptoCard

/-- THE SECOND FORM's CARD OF 'laws.FnWho'. -/
def fnWhoUptoCard : Claim7 := { stood := { row := fnWhoUptoRow, standIns := [], harness := (true, "22d5e4bbfc7727676dcb6d58e30f7c32292f9b5c59332b872dfe75778e484e70"), looks := false }, kinds := [], alts := [], laidByText := true, laidKinds := [.data], laidTests := true, laidLooks := .later }
def FnWhoUptoCardSaid : Prop := Claim7.holds Tryd.pinned (.plain (OpenSpec.upto fnWhoSpec)) fnWhoUptoCard

/-- THE SECOND FORM's CARD OF 'laws.FnRowForm'. -/
def fnRowFormUptoCard : Claim7 := { stood := { row := fnRowFormUptoRow, standIns := [], harness := (true, "22d5e4bbfc7727676dcb6d58e30f7c32292f9b5c59332b872dfe75778e484e70"), looks := false }, kinds := [], alts := [], laidByText := true, laidKinds := [.data], laidTests := true, laidLooks := .later }
def FnRowFormUptoCardSaid : Prop := Claim7.holds Tryd.pinned (.plain (OpenSpec.upto fnRowFormSpec)) fnRowFormUptoCard

/-- THE SECOND FORM's CARD OF 'laws.FnExactRowWho'. -/
def fnExactRowWhoUptoCard : Claim7 := { stood := { row := fnExactRowWhoUptoRow, standIns := [], harness := (true, "22d5e4bbfc7727676dcb6d58e30f7c32292f9b5c59332b872dfe75778e484e70"), looks := false }, kinds := [], alts := [], laidByText := true, laidKinds := [.data], laidTests := true, laidLooks := .later }
def FnExactRowWhoUptoCardSaid : Prop := Claim7.holds Tryd.pinned (.plain (OpenSpec.upto fnExactRowWhoSpec)) fnExactRowWhoUptoCard

/-- THE SECOND FORM's CARD OF 'laws.FnExactRowOk'. -/
def fnExactRowOkUptoCard : Claim7 := { stood := { row := fnExactRowOkUptoRow, standIns := [], harness := (true, "22d5e4bbfc7727676dcb6d58e30f7c32292f9b5c59332b872dfe75778e484e70"), looks := false }, kinds := [], alts := [], laidByText := true, laidKinds := [.data], laidTests := true, laidLooks := .later }
def FnExactRowOkUptoCardSaid : Prop := Claim7.holds Tryd.pinned (.plain (OpenSpec.upto fnExactRowOkSpec)) fnExactRowOkUptoCard
end Rows
end Go.Proofs.YthpkahacnipokaaDoor
