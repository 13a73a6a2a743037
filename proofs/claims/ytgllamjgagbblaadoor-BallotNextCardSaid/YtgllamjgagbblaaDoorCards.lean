/-
  DERIVED. GIVEN WITH THE SEED: THE CARDS: each row of YtgllamjgagbblaaDoorRows.lean that lists a variable, with what it lists TIED to the program's text (the seventh form; the later family's looks); each row that meets fmt, with fmt's text TOLD by the authors' own Lean function (tested against real Go, not proved from fmt's source: count such statements apart). THE CARD IS WHAT COUNTS. Prove the row's statement (the work); the ties are given (YtgllamjgagbblaaDoorTie.lean); close each card by the builder's one call (the guide's Derived/Test/ToyasCard.lean, 'card_holds'). Laid BY PROGRAM, IN A SANDBOX (cutbox-door.mjs). By AI agents, Wed Nov 11 2026. No macro, syntax, notation, axiom, sorry.
-/
import Derived.Test.YtgllamjgagbblaaDoorRows
import GoSem.ClaimSeven
namespace Go.Proofs.YtgllamjgagbblaaDoor
namespace Rows

/-- THE TIED CARD OF 'breakwaterlaw08.BallotReads'. -/
def ballotReadsCard : Claim7 := { stood := { row := ballotReadsRow, standIns := [], harness := (true, "9b282f679404cd788f6332000a6e008f09f8cd817f4e2dd17798d1668e2a916c"), looks := false }, kinds := [], alts := [], laidByText := true, laidKinds := [.data], laidTests := true, laidLooks := .later }
def BallotReadsCardSaid : Prop := Claim7.holds Tryd.pinned (.plain (OpenSpec.ofChange ballotReadsSpec)) ballotReadsCard

/-- THE TIED CARD OF 'breakwaterlaw08.BallotBack'. -/
def ballotBackCard : Claim7 := { stood := { row := ballotBackRow, standIns := [], harness := (true, "9b282f679404cd788f6332000a6e008f09f8cd817f4e2dd17798d1668e2a916c"), looks := false }, kinds := [], alts := [], laidByText := true, laidKinds := [.data], laidTests := true, laidLooks := .later }
def BallotBackCardSaid : Prop := Claim7.holds Tryd.pinned (.plain (OpenSpec.ofChange ballotBackSpec)) ballotBackCard

/-- THE TIED CARD OF 'breakwaterlaw08.BallotNext'. -/
def ballotNextCard : Claim7 := { stood := { row := ballotNextRow, standIns := [], harness := (true, "9b282f679404cd788f6332000a6e008f09f8cd817f4e2dd17798d1668e2a916c"), looks := false }, kinds := [], alts := [], laidByText := true, laidKinds := [.data], laidTests := true, laidLooks := .later }
def BallotNextCardSaid : Prop := Claim7.holds Tryd.pinned (.plain (OpenSpec.ofChange ballotNextSpec)) ballotNextCard

/-- THE SECOND FORM's CARD OF 'breakwaterlaw08.BallotReads'. -/
def ballotReadsUptoCard : Claim7 := { stood := { row := ballotReadsUptoRow, standIns := [], harness := (true, "9b282f679404cd788f6332000a6e008f09f8cd817f4e2dd17798d1668e2a916c"), looks := false }, kinds := [], alts := [], laidByText := true, laidKinds := [.data], laidTests := true, laidLooks := .later }
def BallotReadsUptoCardSaid : Prop := Claim7.holds Tryd.pinned (.plain (OpenSpec.upto ballotReadsSpec)) ballotReadsUptoCard

/-- THE SECOND FORM's CARD OF 'breakwaterlaw08.BallotBack'. -/
def ballotBackUptoCard : Claim7 := { stood := { row := ballotBackUptoRow, standIns := [], harness := (true, "9b282f679404cd788f6332000a6e008f09f8cd817f4e2dd17798d1668e2a916c"), looks := false }, kinds := [], alts := [], laidByText := true, laidKinds := [.data], laidTests := true, laidLooks := .later }
def BallotBackUptoCardSaid : Prop := Claim7.holds Tryd.pinned (.plain (OpenSpec.upto ballotBackSpec)) ballotBackUptoCard

/-- THE SECOND FORM's CARD OF 'breakwaterlaw08.BallotNext'. -/
def ballotNextUptoCard : Claim7 := { stood := { row := ballotNextUptoRow, standIns := [], harness := (true, "9b282f679404cd788f6332000a6e008f09f8cd817f4e2dd17798d1668e2a916c"), looks := false }, kinds := [], alts := [], laidByText := true, laidKinds := [.data], laidTests := true, laidLooks := .later }
def BallotNextUptoCardSaid : Prop := Claim7.holds Tryd.pinned (.plain (OpenSpec.upto ballotNextSpec)) ballotNextUptoCard
end Rows
end Go.Proofs.YtgllamjgagbblaaDoor
