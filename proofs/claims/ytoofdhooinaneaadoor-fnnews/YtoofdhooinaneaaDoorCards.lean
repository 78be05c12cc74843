/-
  DERIVED. GIVEN WITH THE SEED: THE CARDS: each row of YtoofdhooinaneaaDoorRows.lean that lists a variable, with what it lists TIED to the program's text (the seventh form; the later family's looks); each row that meets fmt, with fmt's text TOLD by the authors' own Lean function (tested against real Go, not proved from fmt's source: count such statements apart). THE CARD IS WHAT COUNTS. Prove the row's statement (the work); the ties are given (YtoofdhooinaneaaDoorTie.lean); close each card by the builder's one call (the guide's Derived/Test/ToyasCard.lean, 'card_holds'). Laid BY PROGRAM, IN A SANDBOX (cutbox-door.mjs). By AI agents, Wed Nov 11 2026. No macro, syntax, notation, axiom, sorry.
-/
import Derived.Test.YtoofdhooinaneaaDoorRows
import GoSem.ClaimSeven
namespace Go.Proofs.YtoofdhooinaneaaDoor
namespace Rows

/-- THE TIED CARD OF 'laws.FnClientNew'. -/
def fnClientNewCard : Claim7 := { stood := { row := fnClientNewRow, standIns := [], harness := (true, "2143be3ee72cf812d0f42cd2f0a877e1d9bbda40246e5fce06c6f004306a9b41"), looks := true }, kinds := [], alts := [], laidByText := true, laidKinds := [.data], laidTests := true, laidLooks := .later }
def FnClientNewCardSaid : Prop := Claim7.holds Tryd.pinned (.plain (OpenSpec.ofChange fnClientNewSpec)) fnClientNewCard

/-- THE TIED CARD OF 'laws.FnHearAll'. -/
def fnHearAllCard : Claim7 := { stood := { row := fnHearAllRow, standIns := [], harness := (true, "2143be3ee72cf812d0f42cd2f0a877e1d9bbda40246e5fce06c6f004306a9b41"), looks := true }, kinds := [], alts := [], laidByText := true, laidKinds := [.data], laidTests := true, laidLooks := .later }
def FnHearAllCardSaid : Prop := Claim7.holds Tryd.pinned (.plain (OpenSpec.ofChange fnHearAllSpec)) fnHearAllCard

/-- THE TIED CARD OF 'laws.FnNews'. -/
def fnNewsCard : Claim7 := { stood := { row := fnNewsRow, standIns := [], harness := (true, "2143be3ee72cf812d0f42cd2f0a877e1d9bbda40246e5fce06c6f004306a9b41"), looks := true }, kinds := [], alts := [], laidByText := true, laidKinds := [.data], laidTests := true, laidLooks := .later }
def FnNewsCardSaid : Prop := Claim7.holds Tryd.pinned (.plain (OpenSpec.ofChange fnNewsSpec)) fnNewsCard

/-- THE TIED CARD OF 'laws.FnHearTwo'. -/
def fnHearTwoCard : Claim7 := { stood := { row := fnHearTwoRow, standIns := [], harness := (true, "2143be3ee72cf812d0f42cd2f0a877e1d9bbda40246e5fce06c6f004306a9b41"), looks := true }, kinds := [], alts := [], laidByText := true, laidKinds := [.data], laidTests := true, laidLooks := .later }
def FnHearTwoCardSaid : Prop := Claim7.holds Tryd.pinned (.plain (OpenSpec.ofChange fnHearTwoSpec)) fnHearTwoCard

/-- THE TIED CARD OF 'laws.FnHearAgain'. -/
def fnHearAgainCard : Claim7 := { stood := { row := fnHearAgainRow, standIns := [], harness := (true, "2143be3ee72cf812d0f42cd2f0a877e1d9bbda40246e5fce06c6f004306a9b41"), looks := true }, kinds := [], alts := [], laidByText := true, laidKinds := [.data], laidTests := true, laidLooks := .later }
def FnHearAgainCardSaid : Prop := Claim7.holds Tryd.pinned (.plain (OpenSpec.ofChange fnHearAgainSpec)) fnHearAgainCard

/-- THE SECOND FORM's CARD OF 'laws.FnClientNew'. -/
def fnClientNewUptoCard : Claim7 := { stood := { row := fnClientNewUptoRow, standIns := [], harness := (true, "2143be3ee72cf812d0f42cd2f0a877e1d9bbda40246e5fce06c6f004306a9b41"), looks := true }, kinds := [], alts := [], laidByText := true, laidKinds := [.data], laidTests := true, laidLooks := .later }
def FnClientNewUptoCardSaid : Prop := Claim7.holds Tryd.pinned (.plain (OpenSpec.upto fnClientNewSpec)) fnClientNewUptoCard

/-- THE SECOND FORM's CARD OF 'laws.FnHearAll'. -/
def fnHearAllUptoCard : Claim7 := { stood := { row := fnHearAllUptoRow, standIns := [], harness := (true, "2143be3ee72cf812d0f42cd2f0a877e1d9bbda40246e5fce06c6f004306a9b41"), looks := true }, kinds := [], alts := [], laidByText := true, laidKinds := [.data], laidTests := true, laidLooks := .later }
def FnHearAllUptoCardSaid : Prop := Claim7.holds Tryd.pinned (.plain (OpenSpec.upto fnHearAllSpec)) fnHearAllUptoCard

/-- THE SECOND FORM's CARD OF 'laws.FnNews'. -/
def fnNewsUptoCard : Claim7 := { stood := { row := fnNewsUptoRow, standIns := [], harness := (true, "2143be3ee72cf812d0f42cd2f0a877e1d9bbda40246e5fce06c6f004306a9b41"), looks := true }, kinds := [], alts := [], laidByText := true, laidKinds := [.data], laidTests := true, laidLooks := .later }
def FnNewsUptoCardSaid : Prop := Claim7.holds Tryd.pinned (.plain (OpenSpec.upto fnNewsSpec)) fnNewsUptoCard

/-- THE SECOND FORM's CARD OF 'laws.FnHearTwo'. -/
def fnHearTwoUptoCard : Claim7 := { stood := { row := fnHearTwoUptoRow, standIns := [], harness := (true, "2143be3ee72cf812d0f42cd2f0a877e1d9bbda40246e5fce06c6f004306a9b41"), looks := true }, kinds := [], alts := [], laidByText := true, laidKinds := [.data], laidTests := true, laidLooks := .later }
def FnHearTwoUptoCardSaid : Prop := Claim7.holds Tryd.pinned (.plain (OpenSpec.upto fnHearTwoSpec)) fnHearTwoUptoCard

/-- THE SECOND FORM's CARD OF 'laws.FnHearAgain'. -/
def fnHearAgainUptoCard : Claim7 := { stood := { row := fnHearAgainUptoRow, standIns := [], harness := (true, "2143be3ee72cf812d0f42cd2f0a877e1d9bbda40246e5fce06c6f004306a9b41"), looks := true }, kinds := [], alts := [], laidByText := true, laidKinds := [.data], laidTests := true, laidLooks := .later }
def FnHearAgainUptoCardSaid : Prop := Claim7.holds Tryd.pinned (.plain (OpenSpec.upto fnHearAgainSpec)) fnHearAgainUptoCard
end Rows
end Go.Proofs.YtoofdhooinaneaaDoor
