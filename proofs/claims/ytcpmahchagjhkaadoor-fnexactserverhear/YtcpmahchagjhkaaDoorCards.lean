/-
  DERIVED. GIVEN WITH THE SEED: THE CARDS: each row of YtcpmahchagjhkaaDoorRows.lean that lists a variable, with what it lists TIED to the program's text (the seventh form; the later family's looks); each row that meets fmt, with fmt's text TOLD by the authors' own Lean function (tested against real Go, not proved from fmt's source: count such statements apart). THE CARD IS WHAT COUNTS. Prove the row's statement (the work); the ties are given (YtcpmahchagjhkaaDoorTie.lean); close each card by the builder's one call (the guide's Derived/Test/ToyasCard.lean, 'card_holds'). Laid BY PROGRAM, IN A SANDBOX (cutbox-door.mjs). By AI agents, Wed Nov 11 2026. No macro, syntax, notation, axiom, sorry.
-/
import Derived.Test.YtcpmahchagjhkaaDoorRows
import GoSem.ClaimSeven
namespace Go.Proofs.YtcpmahchagjhkaaDoor
namespace Rows

/-- THE TIED CARD OF 'laws.FnExactClientOk'. -/
def fnExactClientOkCard : Claim7 := { stood := { row := fnExactClientOkRow, standIns := [], harness := (true, "aabe53cdd73305656fb4fa81ce9b607c9f68ecfac0a4983832cf715fdbee3939"), looks := true }, kinds := [], alts := [], laidByText := true, laidKinds := [.data], laidTests := true, laidLooks := .later }
def FnExactClientOkCardSaid : Prop := Claim7.holds Tryd.pinned (.plain (OpenSpec.ofChange fnExactClientOkSpec)) fnExactClientOkCard

/-- THE TIED CARD OF 'laws.FnExactClientDo'. -/
def fnExactClientDoCard : Claim7 := { stood := { row := fnExactClientDoRow, standIns := [], harness := (true, "aabe53cdd73305656fb4fa81ce9b607c9f68ecfac0a4983832cf715fdbee3939"), looks := true }, kinds := [], alts := [], laidByText := true, laidKinds := [.data], laidTests := true, laidLooks := .later }
def FnExactClientDoCardSaid : Prop := Claim7.holds Tryd.pinned (.plain (OpenSpec.ofChange fnExactClientDoSpec)) fnExactClientDoCard

/-- THE TIED CARD OF 'laws.FnExactClientShow'. -/
def fnExactClientShowCard : Claim7 := { stood := { row := fnExactClientShowRow, standIns := [], harness := (true, "aabe53cdd73305656fb4fa81ce9b607c9f68ecfac0a4983832cf715fdbee3939"), looks := true }, kinds := [], alts := [], laidByText := true, laidKinds := [.data], laidTests := true, laidLooks := .later }
def FnExactClientShowCardSaid : Prop := Claim7.holds Tryd.pinned (.plain (OpenSpec.ofChange fnExactClientShowSpec)) fnExactClientShowCard

/-- THE TIED CARD OF 'laws.FnExactClientHear'. -/
def fnExactClientHearCard : Claim7 := { stood := { row := fnExactClientHearRow, standIns := [], harness := (true, "aabe53cdd73305656fb4fa81ce9b607c9f68ecfac0a4983832cf715fdbee3939"), looks := true }, kinds := [], alts := [], laidByText := true, laidKinds := [.data], laidTests := true, laidLooks := .later }
def FnExactClientHearCardSaid : Prop := Claim7.holds Tryd.pinned (.plain (OpenSpec.ofChange fnExactClientHearSpec)) fnExactClientHearCard

/-- THE TIED CARD OF 'laws.FnExactServerHear'. -/
def fnExactServerHearCard : Claim7 := { stood := { row := fnExactServerHearRow, standIns := [], harness := (true, "aabe53cdd73305656fb4fa81ce9b607c9f68ecfac0a4983832cf715fdbee3939"), looks := true }, kinds := [], alts := [], laidByText := true, laidKinds := [.data], laidTests := true, laidLooks := .later }
def FnExactServerHearCardSaid : Prop := Claim7.holds Tryd.pinned (.plain (OpenSpec.ofChange fnExactServerHearSpec)) fnExactServerHearCard

/-- THE SECOND FORM's CARD OF 'laws.FnExactClientOk'. -/
def fnExactClientOkUptoCard : Claim7 := { stood := { row := fnExactClientOkUptoRow, standIns := [], harness := (true, "aabe53cdd73305656fb4fa81ce9b607c9f68ecfac0a4983832cf715fdbee3939"), looks := true }, kinds := [], alts := [], laidByText := true, laidKinds := [.data], laidTests := true, laidLooks := .later }
def FnExactClientOkUptoCardSaid : Prop := Claim7.holds Tryd.pinned (.plain (OpenSpec.upto fnExactClientOkSpec)) fnExactClientOkUptoCard

/-- THE SECOND FORM's CARD OF 'laws.FnExactClientDo'. -/
def fnExactClientDoUptoCard : Claim7 := { stood := { row := fnExactClientDoUptoRow, standIns := [], harness := (true, "aabe53cdd73305656fb4fa81ce9b607c9f68ecfac0a4983832cf715fdbee3939"), looks := true }, kinds := [], alts := [], laidByText := true, laidKinds := [.data], laidTests := true, laidLooks := .later }
def FnExactClientDoUptoCardSaid : Prop := Claim7.holds Tryd.pinned (.plain (OpenSpec.upto fnExactClientDoSpec)) fnExactClientDoUptoCard

/-- THE SECOND FORM's CARD OF 'laws.FnExactClientShow'. -/
def fnExactClientShowUptoCard : Claim7 := { stood := { row := fnExactClientShowUptoRow, standIns := [], harness := (true, "aabe53cdd73305656fb4fa81ce9b607c9f68ecfac0a4983832cf715fdbee3939"), looks := true }, kinds := [], alts := [], laidByText := true, laidKinds := [.data], laidTests := true, laidLooks := .later }
def FnExactClientShowUptoCardSaid : Prop := Claim7.holds Tryd.pinned (.plain (OpenSpec.upto fnExactClientShowSpec)) fnExactClientShowUptoCard

/-- THE SECOND FORM's CARD OF 'laws.FnExactClientHear'. -/
def fnExactClientHearUptoCard : Claim7 := { stood := { row := fnExactClientHearUptoRow, standIns := [], harness := (true, "aabe53cdd73305656fb4fa81ce9b607c9f68ecfac0a4983832cf715fdbee3939"), looks := true }, kinds := [], alts := [], laidByText := true, laidKinds := [.data], laidTests := true, laidLooks := .later }
def FnExactClientHearUptoCardSaid : Prop := Claim7.holds Tryd.pinned (.plain (OpenSpec.upto fnExactClientHearSpec)) fnExactClientHearUptoCard

/-- THE SECOND FORM's CARD OF 'laws.FnExactServerHear'. -/
def fnExactServerHearUptoCard : Claim7 := { stood := { row := fnExactServerHearUptoRow, standIns := [], harness := (true, "aabe53cdd73305656fb4fa81ce9b607c9f68ecfac0a4983832cf715fdbee3939"), looks := true }, kinds := [], alts := [], laidByText := true, laidKinds := [.data], laidTests := true, laidLooks := .later }
def FnExactServerHearUptoCardSaid : Prop := Claim7.holds Tryd.pinned (.plain (OpenSpec.upto fnExactServerHearSpec)) fnExactServerHearUptoCard
end Rows
end Go.Proofs.YtcpmahchagjhkaaDoor
