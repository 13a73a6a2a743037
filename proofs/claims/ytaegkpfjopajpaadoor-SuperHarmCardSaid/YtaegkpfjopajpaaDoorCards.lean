/-
  DERIVED. GIVEN WITH THE SEED: THE CARDS: each row of YtaegkpfjopajpaaDoorRows.lean that lists a variable, with what it lists TIED to the program's text (the seventh form; the later family's looks); each row that meets fmt, with fmt's text TOLD by the authors' own Lean function (tested against real Go, not proved from fmt's source: count such statements apart). THE CARD IS WHAT COUNTS. Prove the row's statement (the work); the ties are given (YtaegkpfjopajpaaDoorTie.lean); close each card by the builder's one call (the guide's Derived/Test/ToyasCard.lean, 'card_holds'). Laid BY PROGRAM, IN A SANDBOX (cutbox-door.mjs). By AI agents, Wed Nov 11 2026. No macro, syntax, notation, axiom, sorry.
-/
import Derived.Test.YtaegkpfjopajpaaDoorRows
import GoSem.ClaimSeven
namespace Go.Proofs.YtaegkpfjopajpaaDoor
namespace Rows

/-- THE TIED CARD OF 'breakwaterlaw05.SuperTells'. -/
def superTellsCard : Claim7 := { stood := { row := superTellsRow, standIns := [], harness := (true, "3cb45ea245c34bde2fcc8e65605bbc01081f3f8c8232fc1b05926c495b85c050"), looks := false }, kinds := [], alts := [], laidByText := true, laidKinds := [.data], laidTests := true, laidLooks := .later }
def SuperTellsCardSaid : Prop := Claim7.holds Tryd.pinned (.plain (OpenSpec.ofChange superTellsSpec)) superTellsCard

/-- THE TIED CARD OF 'breakwaterlaw05.SuperFormat'. -/
def superFormatCard : Claim7 := { stood := { row := superFormatRow, standIns := [], harness := (true, "3cb45ea245c34bde2fcc8e65605bbc01081f3f8c8232fc1b05926c495b85c050"), looks := false }, kinds := [], alts := [], laidByText := true, laidKinds := [.data], laidTests := true, laidLooks := .later }
def SuperFormatCardSaid : Prop := Claim7.holds Tryd.pinned (.plain (OpenSpec.ofChange superFormatSpec)) superFormatCard

/-- THE TIED CARD OF 'breakwaterlaw05.SuperBack'. -/
def superBackCard : Claim7 := { stood := { row := superBackRow, standIns := [], harness := (true, "3cb45ea245c34bde2fcc8e65605bbc01081f3f8c8232fc1b05926c495b85c050"), looks := false }, kinds := [], alts := [], laidByText := true, laidKinds := [.data], laidTests := true, laidLooks := .later }
def SuperBackCardSaid : Prop := Claim7.holds Tryd.pinned (.plain (OpenSpec.ofChange superBackSpec)) superBackCard

/-- THE TIED CARD OF 'breakwaterlaw05.SuperHarm'. -/
def superHarmCard : Claim7 := { stood := { row := superHarmRow, standIns := [], harness := (true, "3cb45ea245c34bde2fcc8e65605bbc01081f3f8c8232fc1b05926c495b85c050"), looks := false }, kinds := [], alts := [], laidByText := true, laidKinds := [.data], laidTests := true, laidLooks := .later }
def SuperHarmCardSaid : Prop := Claim7.holds Tryd.pinned (.plain (OpenSpec.ofChange superHarmSpec)) superHarmCard

/-- THE SECOND FORM's CARD OF 'breakwaterlaw05.SuperTells'. -/
def superTellsUptoCard : Claim7 := { stood := { row := superTellsUptoRow, standIns := [], harness := (true, "3cb45ea245c34bde2fcc8e65605bbc01081f3f8c8232fc1b05926c495b85c050"), looks := false }, kinds := [], alts := [], laidByText := true, laidKinds := [.data], laidTests := true, laidLooks := .later }
def SuperTellsUptoCardSaid : Prop := Claim7.holds Tryd.pinned (.plain (OpenSpec.upto superTellsSpec)) superTellsUptoCard

/-- THE SECOND FORM's CARD OF 'breakwaterlaw05.SuperFormat'. -/
def superFormatUptoCard : Claim7 := { stood := { row := superFormatUptoRow, standIns := [], harness := (true, "3cb45ea245c34bde2fcc8e65605bbc01081f3f8c8232fc1b05926c495b85c050"), looks := false }, kinds := [], alts := [], laidByText := true, laidKinds := [.data], laidTests := true, laidLooks := .later }
def SuperFormatUptoCardSaid : Prop := Claim7.holds Tryd.pinned (.plain (OpenSpec.upto superFormatSpec)) superFormatUptoCard

/-- THE SECOND FORM's CARD OF 'breakwaterlaw05.SuperBack'. -/
def superBackUptoCard : Claim7 := { stood := { row := superBackUptoRow, standIns := [], harness := (true, "3cb45ea245c34bde2fcc8e65605bbc01081f3f8c8232fc1b05926c495b85c050"), looks := false }, kinds := [], alts := [], laidByText := true, laidKinds := [.data], laidTests := true, laidLooks := .later }
def SuperBackUptoCardSaid : Prop := Claim7.holds Tryd.pinned (.plain (OpenSpec.upto superBackSpec)) superBackUptoCard

/-- THE SECOND FORM's CARD OF 'breakwaterlaw05.SuperHarm'. -/
def superHarmUptoCard : Claim7 := { stood := { row := superHarmUptoRow, standIns := [], harness := (true, "3cb45ea245c34bde2fcc8e65605bbc01081f3f8c8232fc1b05926c495b85c050"), looks := false }, kinds := [], alts := [], laidByText := true, laidKinds := [.data], laidTests := true, laidLooks := .later }
def SuperHarmUptoCardSaid : Prop := Claim7.holds Tryd.pinned (.plain (OpenSpec.upto superHarmSpec)) superHarmUptoCard
end Rows
end Go.Proofs.YtaegkpfjopajpaaDoor
