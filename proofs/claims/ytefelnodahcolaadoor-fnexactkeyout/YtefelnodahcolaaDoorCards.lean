/-
  DERIVED. GIVEN WITH THE SEED: THE CARDS: each row of YtefelnodahcolaaDoorRows.lean that lists a variable, with what it lists TIED to the program's text (the seventh form; the later family's looks); each row that meets fmt, with fmt's text TOLD by the authors' own Lean function (tested against real Go, not proved from fmt's source: count such statements apart). THE CARD IS WHAT COUNTS. Prove the row's statement (the work); the ties are given (YtefelnodahcolaaDoorTie.lean); close each card by the builder's one call (the guide's Derived/Test/ToyasCard.lean, 'card_holds'). Laid BY PROGRAM, IN A SANDBOX (cutbox-door.mjs). By AI agents, Wed Nov 11 2026. No macro, syntax, notation, axiom, sorry.
-/
import Derived.Test.YtefelnodahcolaaDoorRows
import GoSem.ClaimSeven
namespace Go.Proofs.YtefelnodahcolaaDoor
namespace Rows

/-- THE TIED CARD OF 'laws.FnExactKeyIn'. -/
def fnExactKeyInCard : Claim7 := { stood := { row := fnExactKeyInRow, standIns := [], harness := (true, "355b1e5b8c94463be88ee3b6a2f5e7110f1c7d082b9eeb624f87bc814acacc89"), looks := true }, kinds := [], alts := [], laidByText := true, laidKinds := [.data], laidTests := true, laidLooks := .later }
def FnExactKeyInCardSaid : Prop := Claim7.holds Tryd.pinned (.plain (OpenSpec.ofChange fnExactKeyInSpec)) fnExactKeyInCard

/-- THE TIED CARD OF 'laws.FnExactKeyOut'. -/
def fnExactKeyOutCard : Claim7 := { stood := { row := fnExactKeyOutRow, standIns := [], harness := (true, "355b1e5b8c94463be88ee3b6a2f5e7110f1c7d082b9eeb624f87bc814acacc89"), looks := true }, kinds := [], alts := [], laidByText := true, laidKinds := [.data], laidTests := true, laidLooks := .later }
def FnExactKeyOutCardSaid : Prop := Claim7.holds Tryd.pinned (.plain (OpenSpec.ofChange fnExactKeyOutSpec)) fnExactKeyOutCard

/-- THE TIED CARD OF 'laws.FnExactKeyGone'. -/
def fnExactKeyGoneCard : Claim7 := { stood := { row := fnExactKeyGoneRow, standIns := [], harness := (true, "355b1e5b8c94463be88ee3b6a2f5e7110f1c7d082b9eeb624f87bc814acacc89"), looks := true }, kinds := [], alts := [], laidByText := true, laidKinds := [.data], laidTests := true, laidLooks := .later }
def FnExactKeyGoneCardSaid : Prop := Claim7.holds Tryd.pinned (.plain (OpenSpec.ofChange fnExactKeyGoneSpec)) fnExactKeyGoneCard

/-- THE TIED CARD OF 'laws.FnExactKeyBack'. -/
def fnExactKeyBackCard : Claim7 := { stood := { row := fnExactKeyBackRow, standIns := [], harness := (true, "355b1e5b8c94463be88ee3b6a2f5e7110f1c7d082b9eeb624f87bc814acacc89"), looks := true }, kinds := [], alts := [], laidByText := true, laidKinds := [.data], laidTests := true, laidLooks := .later }
def FnExactKeyBackCardSaid : Prop := Claim7.holds Tryd.pinned (.plain (OpenSpec.ofChange fnExactKeyBackSpec)) fnExactKeyBackCard

/-- THE SECOND FORM's CARD OF 'laws.FnExactKeyIn'. -/
def fnExactKeyInUptoCard : Claim7 := { stood := { row := fnExactKeyInUptoRow, standIns := [], harness := (true, "355b1e5b8c94463be88ee3b6a2f5e7110f1c7d082b9eeb624f87bc814acacc89"), looks := true }, kinds := [], alts := [], laidByText := true, laidKinds := [.data], laidTests := true, laidLooks := .later }
def FnExactKeyInUptoCardSaid : Prop := Claim7.holds Tryd.pinned (.plain (OpenSpec.upto fnExactKeyInSpec)) fnExactKeyInUptoCard

/-- THE SECOND FORM's CARD OF 'laws.FnExactKeyOut'. -/
def fnExactKeyOutUptoCard : Claim7 := { stood := { row := fnExactKeyOutUptoRow, standIns := [], harness := (true, "355b1e5b8c94463be88ee3b6a2f5e7110f1c7d082b9eeb624f87bc814acacc89"), looks := true }, kinds := [], alts := [], laidByText := true, laidKinds := [.data], laidTests := true, laidLooks := .later }
def FnExactKeyOutUptoCardSaid : Prop := Claim7.holds Tryd.pinned (.plain (OpenSpec.upto fnExactKeyOutSpec)) fnExactKeyOutUptoCard

/-- THE SECOND FORM's CARD OF 'laws.FnExactKeyGone'. -/
def fnExactKeyGoneUptoCard : Claim7 := { stood := { row := fnExactKeyGoneUptoRow, standIns := [], harness := (true, "355b1e5b8c94463be88ee3b6a2f5e7110f1c7d082b9eeb624f87bc814acacc89"), looks := true }, kinds := [], alts := [], laidByText := true, laidKinds := [.data], laidTests := true, laidLooks := .later }
def FnExactKeyGoneUptoCardSaid : Prop := Claim7.holds Tryd.pinned (.plain (OpenSpec.upto fnExactKeyGoneSpec)) fnExactKeyGoneUptoCard

/-- THE SECOND FORM's CARD OF 'laws.FnExactKeyBack'. -/
def fnExactKeyBackUptoCard : Claim7 := { stood := { row := fnExactKeyBackUptoRow, standIns := [], harness := (true, "355b1e5b8c94463be88ee3b6a2f5e7110f1c7d082b9eeb624f87bc814acacc89"), looks := true }, kinds := [], alts := [], laidByText := true, laidKinds := [.data], laidTests := true, laidLooks := .later }
def FnExactKeyBackUptoCardSaid : Prop := Claim7.holds Tryd.pinned (.plain (OpenSpec.upto fnExactKeyBackSpec)) fnExactKeyBackUptoCard
end Rows
end Go.Proofs.YtefelnodahcolaaDoor
