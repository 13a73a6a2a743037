/-
  DERIVED. GIVEN WITH THE SEED: THE CARDS: each row of YtneioippiionjaaDoorRows.lean that lists a variable, with what it lists TIED to the program's text (the seventh form; the later family's looks); each row that meets fmt, with fmt's text TOLD by the authors' own Lean function (tested against real Go, not proved from fmt's source: count such statements apart). THE CARD IS WHAT COUNTS. Prove the row's statement (the work); the ties are given (YtneioippiionjaaDoorTie.lean); close each card by the builder's one call (the guide's Derived/Test/ToyasCard.lean, 'card_holds'). Laid BY PROGRAM, IN A SANDBOX (cutbox-door.mjs). By AI agents, Wed Nov 11 2026. No macro, syntax, notation, axiom, sorry.
-/
import Derived.Test.YtneioippiionjaaDoorRows
import GoSem.ClaimSeven
namespace Go.Proofs.YtneioippiionjaaDoor
namespace Rows

/-- THE TIED CARD OF 'breakwaterlaw07.BeatAlive'. -/
def beatAliveCard : Claim7 := { stood := { row := beatAliveRow, standIns := [], harness := (true, "1a2a087acac38c139b718ecf9da16be58d9ebb15f3318b59ad9d4535046fa1d6"), looks := false }, kinds := [], alts := [], laidByText := true, laidKinds := [.data], laidTests := true, laidLooks := .later }
def BeatAliveCardSaid : Prop := Claim7.holds Tryd.pinned (.plain (OpenSpec.ofChange beatAliveSpec)) beatAliveCard

/-- THE TIED CARD OF 'breakwaterlaw07.BeatOver'. -/
def beatOverCard : Claim7 := { stood := { row := beatOverRow, standIns := [], harness := (true, "1a2a087acac38c139b718ecf9da16be58d9ebb15f3318b59ad9d4535046fa1d6"), looks := false }, kinds := [], alts := [], laidByText := true, laidKinds := [.data], laidTests := true, laidLooks := .later }
def BeatOverCardSaid : Prop := Claim7.holds Tryd.pinned (.plain (OpenSpec.ofChange beatOverSpec)) beatOverCard

/-- THE SECOND FORM's CARD OF 'breakwaterlaw07.BeatAlive'. -/
def beatAliveUptoCard : Claim7 := { stood := { row := beatAliveUptoRow, standIns := [], harness := (true, "1a2a087acac38c139b718ecf9da16be58d9ebb15f3318b59ad9d4535046fa1d6"), looks := false }, kinds := [], alts := [], laidByText := true, laidKinds := [.data], laidTests := true, laidLooks := .later }
def BeatAliveUptoCardSaid : Prop := Claim7.holds Tryd.pinned (.plain (OpenSpec.upto beatAliveSpec)) beatAliveUptoCard

/-- THE SECOND FORM's CARD OF 'breakwaterlaw07.BeatOver'. -/
def beatOverUptoCard : Claim7 := { stood := { row := beatOverUptoRow, standIns := [], harness := (true, "1a2a087acac38c139b718ecf9da16be58d9ebb15f3318b59ad9d4535046fa1d6"), looks := false }, kinds := [], alts := [], laidByText := true, laidKinds := [.data], laidTests := true, laidLooks := .later }
def BeatOverUptoCardSaid : Prop := Claim7.holds Tryd.pinned (.plain (OpenSpec.upto beatOverSpec)) beatOverUptoCard
end Rows
end Go.Proofs.YtneioippiionjaaDoor
