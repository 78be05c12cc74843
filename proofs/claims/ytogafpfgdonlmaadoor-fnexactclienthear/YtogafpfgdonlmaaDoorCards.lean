/-
  DERIVED. GIVEN WITH THE SEED: THE CARDS: each row of YtogafpfgdonlmaaDoorRows.lean that lists a variable, with what it lists TIED to the program's text (the seventh form; the later family's looks); each row that meets fmt, with fmt's text TOLD by the authors' own Lean function (tested against real Go, not proved from fmt's source: count such statements apart). THE CARD IS WHAT COUNTS. Prove the row's statement (the work); the ties are given (YtogafpfgdonlmaaDoorTie.lean); close each card by the builder's one call (the guide's Derived/Test/ToyasCard.lean, 'card_holds'). Laid BY PROGRAM, IN A SANDBOX (cutbox-door.mjs). By AI agents, Wed Nov 11 2026. No macro, syntax, notation, axiom, sorry.
-/
import Derived.Test.YtogafpfgdonlmaaDoorRows
import GoSem.ClaimSeven
namespace Go.Proofs.YtogafpfgdonlmaaDoor
namespace Rows

/-- THE TIED CARD OF 'laws.FnExactClientDo'. -/
def fnExactClientDoCard : Claim7 := { stood := { row := fnExactClientDoRow, standIns := [], harness := (true, "d729fd586919be761722e154c0462fb085c207af8cf2f348ed532e278ec9c031"), looks := true }, kinds := [], alts := [], laidByText := true, laidKinds := [.data], laidTests := true, laidLooks := .later }
def FnExactClientDoCardSaid : Prop := Claim7.holds Tryd.pinned (.plain (OpenSpec.ofChange fnExactClientDoSpec)) fnExactClientDoCard

/-- THE TIED CARD OF 'laws.FnExactClientHear'. -/
def fnExactClientHearCard : Claim7 := { stood := { row := fnExactClientHearRow, standIns := [], harness := (true, "d729fd586919be761722e154c0462fb085c207af8cf2f348ed532e278ec9c031"), looks := true }, kinds := [], alts := [], laidByText := true, laidKinds := [.data], laidTests := true, laidLooks := .later }
def FnExactClientHearCardSaid : Prop := Claim7.holds Tryd.pinned (.plain (OpenSpec.ofChange fnExactClientHearSpec)) fnExactClientHearCard

/-- THE SECOND FORM's CARD OF 'laws.FnExactClientDo'. -/
def fnExactClientDoUptoCard : Claim7 := { stood := { row := fnExactClientDoUptoRow, standIns := [], harness := (true, "d729fd586919be761722e154c0462fb085c207af8cf2f348ed532e278ec9c031"), looks := true }, kinds := [], alts := [], laidByText := true, laidKinds := [.data], laidTests := true, laidLooks := .later }
def FnExactClientDoUptoCardSaid : Prop := Claim7.holds Tryd.pinned (.plain (OpenSpec.upto fnExactClientDoSpec)) fnExactClientDoUptoCard

/-- THE SECOND FORM's CARD OF 'laws.FnExactClientHear'. -/
def fnExactClientHearUptoCard : Claim7 := { stood := { row := fnExactClientHearUptoRow, standIns := [], harness := (true, "d729fd586919be761722e154c0462fb085c207af8cf2f348ed532e278ec9c031"), looks := true }, kinds := [], alts := [], laidByText := true, laidKinds := [.data], laidTests := true, laidLooks := .later }
def FnExactClientHearUptoCardSaid : Prop := Claim7.holds Tryd.pinned (.plain (OpenSpec.upto fnExactClientHearSpec)) fnExactClientHearUptoCard
end Rows
end Go.Proofs.YtogafpfgdonlmaaDoor
