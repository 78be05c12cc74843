/-
  DERIVED. GIVEN WITH THE SEED: THE CARDS: each row of YtklefdhjfadhpaaDoorRows.lean that lists a variable, with what it lists TIED to the program's text (the seventh form; the later family's looks); each row that meets fmt, with fmt's text TOLD by the authors' own Lean function (tested against real Go, not proved from fmt's source: count such statements apart). THE CARD IS WHAT COUNTS. Prove the row's statement (the work); the ties are given (YtklefdhjfadhpaaDoorTie.lean); close each card by the builder's one call (the guide's Derived/Test/ToyasCard.lean, 'card_holds'). Laid BY PROGRAM, IN A SANDBOX (cutbox-door.mjs). By AI agents, Wed Nov 11 2026. No macro, syntax, notation, axiom, sorry.
-/
import Derived.Test.YtklefdhjfadhpaaDoorRows
import GoSem.ClaimSeven
namespace Go.Proofs.YtklefdhjfadhpaaDoor
namespace Rows

/-- THE TIED CARD OF 'laws.FnKeyIn'. -/
def fnKeyInCard : Claim7 := { stood := { row := fnKeyInRow, standIns := [], harness := (true, "2c5f4138c9b891dfa370cd7a6f958f8beaeedef7bd7f2649ea807f8d2e263a0f"), looks := true }, kinds := [], alts := [], laidByText := true, laidKinds := [.data], laidTests := true, laidLooks := .later }
def FnKeyInCardSaid : Prop := Claim7.holds Tryd.pinned (.plain (OpenSpec.ofChange fnKeyInSpec)) fnKeyInCard

/-- THE TIED CARD OF 'laws.FnTreeForm'. -/
def fnTreeFormCard : Claim7 := { stood := { row := fnTreeFormRow, standIns := [], harness := (true, "2c5f4138c9b891dfa370cd7a6f958f8beaeedef7bd7f2649ea807f8d2e263a0f"), looks := true }, kinds := [], alts := [], laidByText := true, laidKinds := [.data], laidTests := true, laidLooks := .later }
def FnTreeFormCardSaid : Prop := Claim7.holds Tryd.pinned (.plain (OpenSpec.ofChange fnTreeFormSpec)) fnTreeFormCard

/-- THE TIED CARD OF 'laws.FnKeyBack'. -/
def fnKeyBackCard : Claim7 := { stood := { row := fnKeyBackRow, standIns := [], harness := (true, "2c5f4138c9b891dfa370cd7a6f958f8beaeedef7bd7f2649ea807f8d2e263a0f"), looks := true }, kinds := [], alts := [], laidByText := true, laidKinds := [.data], laidTests := true, laidLooks := .later }
def FnKeyBackCardSaid : Prop := Claim7.holds Tryd.pinned (.plain (OpenSpec.ofChange fnKeyBackSpec)) fnKeyBackCard

/-- THE TIED CARD OF 'laws.FnBackNot'. -/
def fnBackNotCard : Claim7 := { stood := { row := fnBackNotRow, standIns := [], harness := (true, "2c5f4138c9b891dfa370cd7a6f958f8beaeedef7bd7f2649ea807f8d2e263a0f"), looks := true }, kinds := [], alts := [], laidByText := true, laidKinds := [.data], laidTests := true, laidLooks := .later }
def FnBackNotCardSaid : Prop := Claim7.holds Tryd.pinned (.plain (OpenSpec.ofChange fnBackNotSpec)) fnBackNotCard

/-- THE TIED CARD OF 'laws.FnBackTwice'. -/
def fnBackTwiceCard : Claim7 := { stood := { row := fnBackTwiceRow, standIns := [], harness := (true, "2c5f4138c9b891dfa370cd7a6f958f8beaeedef7bd7f2649ea807f8d2e263a0f"), looks := true }, kinds := [], alts := [], laidByText := true, laidKinds := [.data], laidTests := true, laidLooks := .later }
def FnBackTwiceCardSaid : Prop := Claim7.holds Tryd.pinned (.plain (OpenSpec.ofChange fnBackTwiceSpec)) fnBackTwiceCard

/-- THE TIED CARD OF 'laws.FnHearAll'. -/
def fnHearAllCard : Claim7 := { stood := { row := fnHearAllRow, standIns := [], harness := (true, "2c5f4138c9b891dfa370cd7a6f958f8beaeedef7bd7f2649ea807f8d2e263a0f"), looks := true }, kinds := [], alts := [], laidByText := true, laidKinds := [.data], laidTests := true, laidLooks := .later }
def FnHearAllCardSaid : Prop := Claim7.holds Tryd.pinned (.plain (OpenSpec.ofChange fnHearAllSpec)) fnHearAllCard

/-- THE TIED CARD OF 'laws.FnClientMade'. -/
def fnClientMadeCard : Claim7 := { stood := { row := fnClientMadeRow, standIns := [], harness := (true, "2c5f4138c9b891dfa370cd7a6f958f8beaeedef7bd7f2649ea807f8d2e263a0f"), looks := true }, kinds := [], alts := [], laidByText := true, laidKinds := [.data], laidTests := true, laidLooks := .later }
def FnClientMadeCardSaid : Prop := Claim7.holds Tryd.pinned (.plain (OpenSpec.ofChange fnClientMadeSpec)) fnClientMadeCard

/-- THE TIED CARD OF 'laws.FnClientForm'. -/
def fnClientFormCard : Claim7 := { stood := { row := fnClientFormRow, standIns := [], harness := (true, "2c5f4138c9b891dfa370cd7a6f958f8beaeedef7bd7f2649ea807f8d2e263a0f"), looks := true }, kinds := [], alts := [], laidByText := true, laidKinds := [.data], laidTests := true, laidLooks := .later }
def FnClientFormCardSaid : Prop := Claim7.holds Tryd.pinned (.plain (OpenSpec.ofChange fnClientFormSpec)) fnClientFormCard

/-- THE SECOND FORM's CARD OF 'laws.FnKeyIn'. -/
def fnKeyInUptoCard : Claim7 := { stood := { row := fnKeyInUptoRow, standIns := [], harness := (true, "2c5f4138c9b891dfa370cd7a6f958f8beaeedef7bd7f2649ea807f8d2e263a0f"), looks := true }, kinds := [], alts := [], laidByText := true, laidKinds := [.data], laidTests := true, laidLooks := .later }
def FnKeyInUptoCardSaid : Prop := Claim7.holds Tryd.pinned (.plain (OpenSpec.upto fnKeyInSpec)) fnKeyInUptoCard

/-- THE SECOND FORM's CARD OF 'laws.FnTreeForm'. -/
def fnTreeFormUptoCard : Claim7 := { stood := { row := fnTreeFormUptoRow, standIns := [], harness := (true, "2c5f4138c9b891dfa370cd7a6f958f8beaeedef7bd7f2649ea807f8d2e263a0f"), looks := true }, kinds := [], alts := [], laidByText := true, laidKinds := [.data], laidTests := true, laidLooks := .later }
def FnTreeFormUptoCardSaid : Prop := Claim7.holds Tryd.pinned (.plain (OpenSpec.upto fnTreeFormSpec)) fnTreeFormUptoCard

/-- THE SECOND FORM's CARD OF 'laws.FnKeyBack'. -/
def fnKeyBackUptoCard : Claim7 := { stood := { row := fnKeyBackUptoRow, standIns := [], harness := (true, "2c5f4138c9b891dfa370cd7a6f958f8beaeedef7bd7f2649ea807f8d2e263a0f"), looks := true }, kinds := [], alts := [], laidByText := true, laidKinds := [.data], laidTests := true, laidLooks := .later }
def FnKeyBackUptoCardSaid : Prop := Claim7.holds Tryd.pinned (.plain (OpenSpec.upto fnKeyBackSpec)) fnKeyBackUptoCard

/-- THE SECOND FORM's CARD OF 'laws.FnBackNot'. -/
def fnBackNotUptoCard : Claim7 := { stood := { row := fnBackNotUptoRow, standIns := [], harness := (true, "2c5f4138c9b891dfa370cd7a6f958f8beaeedef7bd7f2649ea807f8d2e263a0f"), looks := true }, kinds := [], alts := [], laidByText := true, laidKinds := [.data], laidTests := true, laidLooks := .later }
def FnBackNotUptoCardSaid : Prop := Claim7.holds Tryd.pinned (.plain (OpenSpec.upto fnBackNotSpec)) fnBackNotUptoCard

/-- THE SECOND FORM's CARD OF 'laws.FnBackTwice'. -/
def fnBackTwiceUptoCard : Claim7 := { stood := { row := fnBackTwiceUptoRow, standIns := [], harness := (true, "2c5f4138c9b891dfa370cd7a6f958f8beaeedef7bd7f2649ea807f8d2e263a0f"), looks := true }, kinds := [], alts := [], laidByText := true, laidKinds := [.data], laidTests := true, laidLooks := .later }
def FnBackTwiceUptoCardSaid : Prop := Claim7.holds Tryd.pinned (.plain (OpenSpec.upto fnBackTwiceSpec)) fnBackTwiceUptoCard

/-- THE SECOND FORM's CARD OF 'laws.FnHearAll'. -/
def fnHearAllUptoCard : Claim7 := { stood := { row := fnHearAllUptoRow, standIns := [], harness := (true, "2c5f4138c9b891dfa370cd7a6f958f8beaeedef7bd7f2649ea807f8d2e263a0f"), looks := true }, kinds := [], alts := [], laidByText := true, laidKinds := [.data], laidTests := true, laidLooks := .later }
def FnHearAllUptoCardSaid : Prop := Claim7.holds Tryd.pinned (.plain (OpenSpec.upto fnHearAllSpec)) fnHearAllUptoCard

/-- THE SECOND FORM's CARD OF 'laws.FnClientMade'. -/
def fnClientMadeUptoCard : Claim7 := { stood := { row := fnClientMadeUptoRow, standIns := [], harness := (true, "2c5f4138c9b891dfa370cd7a6f958f8beaeedef7bd7f2649ea807f8d2e263a0f"), looks := true }, kinds := [], alts := [], laidByText := true, laidKinds := [.data], laidTests := true, laidLooks := .later }
def FnClientMadeUptoCardSaid : Prop := Claim7.holds Tryd.pinned (.plain (OpenSpec.upto fnClientMadeSpec)) fnClientMadeUptoCard

/-- THE SECOND FORM's CARD OF 'laws.FnClientForm'. -/
def fnClientFormUptoCard : Claim7 := { stood := { row := fnClientFormUptoRow, standIns := [], harness := (true, "2c5f4138c9b891dfa370cd7a6f958f8beaeedef7bd7f2649ea807f8d2e263a0f"), looks := true }, kinds := [], alts := [], laidByText := true, laidKinds := [.data], laidTests := true, laidLooks := .later }
def FnClientFormUptoCardSaid : Prop := Claim7.holds Tryd.pinned (.plain (OpenSpec.upto fnClientFormSpec)) fnClientFormUptoCard
end Rows
end Go.Proofs.YtklefdhjfadhpaaDoor
