/-
  DERIVED. GIVEN WITH THE SEED: THE CARDS: each row of YtclhjgcapalniaaDoorRows.lean that lists a variable, with what it lists TIED to the program's text (the seventh form; the later family's looks); each row that meets fmt, with fmt's text TOLD by the authors' own Lean function (tested against real Go, not proved from fmt's source: count such statements apart). THE CARD IS WHAT COUNTS. Prove the row's statement (the work); the ties are given (YtclhjgcapalniaaDoorTie.lean); close each card by the builder's one call (the guide's Derived/Test/ToyasCard.lean, 'card_holds'). Laid BY PROGRAM, IN A SANDBOX (cutbox-door.mjs). By AI agents, Wed Nov 11 2026. No macro, syntax, notation, axiom, sorry.
-/
import Derived.Test.YtclhjgcapalniaaDoorRows
import GoSem.ClaimSeven
namespace Go.Proofs.YtclhjgcapalniaaDoor
namespace Rows

/-- THE TIED CARD OF 'laws.FnKeyIn'. -/
def fnKeyInCard : Claim7 := { stood := { row := fnKeyInRow, standIns := [], harness := (true, "b379b06c6ef62271a4f0b2f236b632feaa7b0142d83e88c2d767fc0ee69385ec"), looks := true }, kinds := [], alts := [], laidByText := true, laidKinds := [.data], laidTests := true, laidLooks := .later }
def FnKeyInCardSaid : Prop := Claim7.holds Tryd.pinned (.plain (OpenSpec.ofChange fnKeyInSpec)) fnKeyInCard

/-- THE TIED CARD OF 'laws.FnTreeForm'. -/
def fnTreeFormCard : Claim7 := { stood := { row := fnTreeFormRow, standIns := [], harness := (true, "b379b06c6ef62271a4f0b2f236b632feaa7b0142d83e88c2d767fc0ee69385ec"), looks := true }, kinds := [], alts := [], laidByText := true, laidKinds := [.data], laidTests := true, laidLooks := .later }
def FnTreeFormCardSaid : Prop := Claim7.holds Tryd.pinned (.plain (OpenSpec.ofChange fnTreeFormSpec)) fnTreeFormCard

/-- THE TIED CARD OF 'laws.FnHearAll'. -/
def fnHearAllCard : Claim7 := { stood := { row := fnHearAllRow, standIns := [], harness := (true, "b379b06c6ef62271a4f0b2f236b632feaa7b0142d83e88c2d767fc0ee69385ec"), looks := true }, kinds := [], alts := [], laidByText := true, laidKinds := [.data], laidTests := true, laidLooks := .later }
def FnHearAllCardSaid : Prop := Claim7.holds Tryd.pinned (.plain (OpenSpec.ofChange fnHearAllSpec)) fnHearAllCard

/-- THE TIED CARD OF 'laws.FnClientMade'. -/
def fnClientMadeCard : Claim7 := { stood := { row := fnClientMadeRow, standIns := [], harness := (true, "b379b06c6ef62271a4f0b2f236b632feaa7b0142d83e88c2d767fc0ee69385ec"), looks := true }, kinds := [], alts := [], laidByText := true, laidKinds := [.data], laidTests := true, laidLooks := .later }
def FnClientMadeCardSaid : Prop := Claim7.holds Tryd.pinned (.plain (OpenSpec.ofChange fnClientMadeSpec)) fnClientMadeCard

/-- THE TIED CARD OF 'laws.FnClientForm'. -/
def fnClientFormCard : Claim7 := { stood := { row := fnClientFormRow, standIns := [], harness := (true, "b379b06c6ef62271a4f0b2f236b632feaa7b0142d83e88c2d767fc0ee69385ec"), looks := true }, kinds := [], alts := [], laidByText := true, laidKinds := [.data], laidTests := true, laidLooks := .later }
def FnClientFormCardSaid : Prop := Claim7.holds Tryd.pinned (.plain (OpenSpec.ofChange fnClientFormSpec)) fnClientFormCard

/-- THE SECOND FORM's CARD OF 'laws.FnKeyIn'. -/
def fnKeyInUptoCard : Claim7 := { stood := { row := fnKeyInUptoRow, standIns := [], harness := (true, "b379b06c6ef62271a4f0b2f236b632feaa7b0142d83e88c2d767fc0ee69385ec"), looks := true }, kinds := [], alts := [], laidByText := true, laidKinds := [.data], laidTests := true, laidLooks := .later }
def FnKeyInUptoCardSaid : Prop := Claim7.holds Tryd.pinned (.plain (OpenSpec.upto fnKeyInSpec)) fnKeyInUptoCard

/-- THE SECOND FORM's CARD OF 'laws.FnTreeForm'. -/
def fnTreeFormUptoCard : Claim7 := { stood := { row := fnTreeFormUptoRow, standIns := [], harness := (true, "b379b06c6ef62271a4f0b2f236b632feaa7b0142d83e88c2d767fc0ee69385ec"), looks := true }, kinds := [], alts := [], laidByText := true, laidKinds := [.data], laidTests := true, laidLooks := .later }
def FnTreeFormUptoCardSaid : Prop := Claim7.holds Tryd.pinned (.plain (OpenSpec.upto fnTreeFormSpec)) fnTreeFormUptoCard

/-- THE SECOND FORM's CARD OF 'laws.FnHearAll'. -/
def fnHearAllUptoCard : Claim7 := { stood := { row := fnHearAllUptoRow, standIns := [], harness := (true, "b379b06c6ef62271a4f0b2f236b632feaa7b0142d83e88c2d767fc0ee69385ec"), looks := true }, kinds := [], alts := [], laidByText := true, laidKinds := [.data], laidTests := true, laidLooks := .later }
def FnHearAllUptoCardSaid : Prop := Claim7.holds Tryd.pinned (.plain (OpenSpec.upto fnHearAllSpec)) fnHearAllUptoCard

/-- THE SECOND FORM's CARD OF 'laws.FnClientMade'. -/
def fnClientMadeUptoCard : Claim7 := { stood := { row := fnClientMadeUptoRow, standIns := [], harness := (true, "b379b06c6ef62271a4f0b2f236b632feaa7b0142d83e88c2d767fc0ee69385ec"), looks := true }, kinds := [], alts := [], laidByText := true, laidKinds := [.data], laidTests := true, laidLooks := .later }
def FnClientMadeUptoCardSaid : Prop := Claim7.holds Tryd.pinned (.plain (OpenSpec.upto fnClientMadeSpec)) fnClientMadeUptoCard

/-- THE SECOND FORM's CARD OF 'laws.FnClientForm'. -/
def fnClientFormUptoCard : Claim7 := { stood := { row := fnClientFormUptoRow, standIns := [], harness := (true, "b379b06c6ef62271a4f0b2f236b632feaa7b0142d83e88c2d767fc0ee69385ec"), looks := true }, kinds := [], alts := [], laidByText := true, laidKinds := [.data], laidTests := true, laidLooks := .later }
def FnClientFormUptoCardSaid : Prop := Claim7.holds Tryd.pinned (.plain (OpenSpec.upto fnClientFormSpec)) fnClientFormUptoCard
end Rows
end Go.Proofs.YtclhjgcapalniaaDoor
