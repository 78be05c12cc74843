/-
  DERIVED. GIVEN WITH THE SEED: THE CARDS: each row of YtkecboeaiipjhaaDoorRows.lean that lists a variable, with what it lists TIED to the program's text (the seventh form; the later family's looks); each row that meets fmt, with fmt's text TOLD by the authors' own Lean function (tested against real Go, not proved from fmt's source: count such statements apart). THE CARD IS WHAT COUNTS. Prove the row's statement (the work); the ties are given (YtkecboeaiipjhaaDoorTie.lean); close each card by the builder's one call (the guide's Derived/Test/ToyasCard.lean, 'card_holds'). Laid BY PROGRAM, IN A SANDBOX (cutbox-door.mjs). By AI agents, Wed Nov 11 2026. No macro, syntax, notation, axiom, sorry.
-/
import Derived.Test.YtkecboeaiipjhaaDoorRows
import GoSem.ClaimSeven
namespace Go.Proofs.YtkecboeaiipjhaaDoor
namespace Rows

/-- THE TIED CARD OF 'laws.FnExactServerOk'. -/
def fnExactServerOkCard : Claim7 := { stood := { row := fnExactServerOkRow, standIns := [], harness := (true, "85bc8da89193683224b84db5bab7915c0dace760d19c946cdb2150d14705afb0"), looks := false }, kinds := [], alts := [], laidByText := true, laidKinds := [.data], laidTests := true, laidLooks := .later }
def FnExactServerOkCardSaid : Prop := Claim7.holds Tryd.pinned (.plain (OpenSpec.ofChange fnExactServerOkSpec)) fnExactServerOkCard

/-- THE TIED CARD OF 'laws.FnExactServerHear'. -/
def fnExactServerHearCard : Claim7 := { stood := { row := fnExactServerHearRow, standIns := [], harness := (true, "85bc8da89193683224b84db5bab7915c0dace760d19c946cdb2150d14705afb0"), looks := false }, kinds := [], alts := [], laidByText := true, laidKinds := [.data], laidTests := true, laidLooks := .later }
def FnExactServerHearCardSaid : Prop := Claim7.holds Tryd.pinned (.plain (OpenSpec.ofChange fnExactServerHearSpec)) fnExactServerHearCard

/-- THE TIED CARD OF 'laws.FnExactServerSync'. -/
def fnExactServerSyncCard : Claim7 := { stood := { row := fnExactServerSyncRow, standIns := [], harness := (true, "85bc8da89193683224b84db5bab7915c0dace760d19c946cdb2150d14705afb0"), looks := false }, kinds := [], alts := [], laidByText := true, laidKinds := [.data], laidTests := true, laidLooks := .later }
def FnExactServerSyncCardSaid : Prop := Claim7.holds Tryd.pinned (.plain (OpenSpec.ofChange fnExactServerSyncSpec)) fnExactServerSyncCard

/-- THE TIED CARD OF 'laws.FnExactServerFall'. -/
def fnExactServerFallCard : Claim7 := { stood := { row := fnExactServerFallRow, standIns := [], harness := (true, "85bc8da89193683224b84db5bab7915c0dace760d19c946cdb2150d14705afb0"), looks := false }, kinds := [], alts := [], laidByText := true, laidKinds := [.data], laidTests := true, laidLooks := .later }
def FnExactServerFallCardSaid : Prop := Claim7.holds Tryd.pinned (.plain (OpenSpec.ofChange fnExactServerFallSpec)) fnExactServerFallCard

/-- THE TIED CARD OF 'laws.FnExactServerNews'. -/
def fnExactServerNewsCard : Claim7 := { stood := { row := fnExactServerNewsRow, standIns := [], harness := (true, "85bc8da89193683224b84db5bab7915c0dace760d19c946cdb2150d14705afb0"), looks := false }, kinds := [], alts := [], laidByText := true, laidKinds := [.data], laidTests := true, laidLooks := .later }
def FnExactServerNewsCardSaid : Prop := Claim7.holds Tryd.pinned (.plain (OpenSpec.ofChange fnExactServerNewsSpec)) fnExactServerNewsCard

/-- THE SECOND FORM's CARD OF 'laws.FnExactServerOk'. -/
def fnExactServerOkUptoCard : Claim7 := { stood := { row := fnExactServerOkUptoRow, standIns := [], harness := (true, "85bc8da89193683224b84db5bab7915c0dace760d19c946cdb2150d14705afb0"), looks := false }, kinds := [], alts := [], laidByText := true, laidKinds := [.data], laidTests := true, laidLooks := .later }
def FnExactServerOkUptoCardSaid : Prop := Claim7.holds Tryd.pinned (.plain (OpenSpec.upto fnExactServerOkSpec)) fnExactServerOkUptoCard

/-- THE SECOND FORM's CARD OF 'laws.FnExactServerHear'. -/
def fnExactServerHearUptoCard : Claim7 := { stood := { row := fnExactServerHearUptoRow, standIns := [], harness := (true, "85bc8da89193683224b84db5bab7915c0dace760d19c946cdb2150d14705afb0"), looks := false }, kinds := [], alts := [], laidByText := true, laidKinds := [.data], laidTests := true, laidLooks := .later }
def FnExactServerHearUptoCardSaid : Prop := Claim7.holds Tryd.pinned (.plain (OpenSpec.upto fnExactServerHearSpec)) fnExactServerHearUptoCard

/-- THE SECOND FORM's CARD OF 'laws.FnExactServerSync'. -/
def fnExactServerSyncUptoCard : Claim7 := { stood := { row := fnExactServerSyncUptoRow, standIns := [], harness := (true, "85bc8da89193683224b84db5bab7915c0dace760d19c946cdb2150d14705afb0"), looks := false }, kinds := [], alts := [], laidByText := true, laidKinds := [.data], laidTests := true, laidLooks := .later }
def FnExactServerSyncUptoCardSaid : Prop := Claim7.holds Tryd.pinned (.plain (OpenSpec.upto fnExactServerSyncSpec)) fnExactServerSyncUptoCard

/-- THE SECOND FORM's CARD OF 'laws.FnExactServerFall'. -/
def fnExactServerFallUptoCard : Claim7 := { stood := { row := fnExactServerFallUptoRow, standIns := [], harness := (true, "85bc8da89193683224b84db5bab7915c0dace760d19c946cdb2150d14705afb0"), looks := false }, kinds := [], alts := [], laidByText := true, laidKinds := [.data], laidTests := true, laidLooks := .later }
def FnExactServerFallUptoCardSaid : Prop := Claim7.holds Tryd.pinned (.plain (OpenSpec.upto fnExactServerFallSpec)) fnExactServerFallUptoCard

/-- THE SECOND FORM's CARD OF 'laws.FnExactServerNews'. -/
def fnExactServerNewsUptoCard : Claim7 := { stood := { row := fnExactServerNewsUptoRow, standIns := [], harness := (true, "85bc8da89193683224b84db5bab7915c0dace760d19c946cdb2150d14705afb0"), looks := false }, kinds := [], alts := [], laidByText := true, laidKinds := [.data], laidTests := true, laidLooks := .later }
def FnExactServerNewsUptoCardSaid : Prop := Claim7.holds Tryd.pinned (.plain (OpenSpec.upto fnExactServerNewsSpec)) fnExactServerNewsUptoCard
end Rows
end Go.Proofs.YtkecboeaiipjhaaDoor
