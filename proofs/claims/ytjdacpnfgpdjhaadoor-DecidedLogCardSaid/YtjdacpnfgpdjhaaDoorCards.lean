/-
  DERIVED. GIVEN WITH THE SEED: THE CARDS: each row of YtjdacpnfgpdjhaaDoorRows.lean that lists a variable, with what it lists TIED to the program's text (the seventh form; the later family's looks); each row that meets fmt, with fmt's text TOLD by the authors' own Lean function (tested against real Go, not proved from fmt's source: count such statements apart). THE CARD IS WHAT COUNTS. Prove the row's statement (the work); the ties are given (YtjdacpnfgpdjhaaDoorTie.lean); close each card by the builder's one call (the guide's Derived/Test/ToyasCard.lean, 'card_holds'). Laid BY PROGRAM, IN A SANDBOX (cutbox-door.mjs). By AI agents, Wed Nov 11 2026. No macro, syntax, notation, axiom, sorry.
-/
import Derived.Test.YtjdacpnfgpdjhaaDoorRows
import GoSem.ClaimSeven
namespace Go.Proofs.YtjdacpnfgpdjhaaDoor
namespace Rows

/-- THE TIED CARD OF 'breakwaterlaw12.DecidedTells'. -/
def decidedTellsCard : Claim7 := { stood := { row := decidedTellsRow, standIns := [], harness := (true, "c35ad92adf93973a01dae9bd60b3c8860a819458c75ec0b51465b5a62d52920c"), looks := false }, kinds := [], alts := [], laidByText := true, laidKinds := [.data], laidTests := true, laidLooks := .later }
def DecidedTellsCardSaid : Prop := Claim7.holds Tryd.pinned (.plain (OpenSpec.ofChange decidedTellsSpec)) decidedTellsCard

/-- THE TIED CARD OF 'breakwaterlaw12.DecidedLog'. -/
def decidedLogCard : Claim7 := { stood := { row := decidedLogRow, standIns := [], harness := (true, "c35ad92adf93973a01dae9bd60b3c8860a819458c75ec0b51465b5a62d52920c"), looks := false }, kinds := [], alts := [], laidByText := true, laidKinds := [.data], laidTests := true, laidLooks := .later }
def DecidedLogCardSaid : Prop := Claim7.holds Tryd.pinned (.plain (OpenSpec.ofChange decidedLogSpec)) decidedLogCard

/-- THE TIED CARD OF 'breakwaterlaw12.DecidedBack'. -/
def decidedBackCard : Claim7 := { stood := { row := decidedBackRow, standIns := [], harness := (true, "c35ad92adf93973a01dae9bd60b3c8860a819458c75ec0b51465b5a62d52920c"), looks := false }, kinds := [], alts := [], laidByText := true, laidKinds := [.data], laidTests := true, laidLooks := .later }
def DecidedBackCardSaid : Prop := Claim7.holds Tryd.pinned (.plain (OpenSpec.ofChange decidedBackSpec)) decidedBackCard

/-- THE TIED CARD OF 'breakwaterlaw12.DecidedFront'. -/
def decidedFrontCard : Claim7 := { stood := { row := decidedFrontRow, standIns := [], harness := (true, "c35ad92adf93973a01dae9bd60b3c8860a819458c75ec0b51465b5a62d52920c"), looks := false }, kinds := [], alts := [], laidByText := true, laidKinds := [.data], laidTests := true, laidLooks := .later }
def DecidedFrontCardSaid : Prop := Claim7.holds Tryd.pinned (.plain (OpenSpec.ofChange decidedFrontSpec)) decidedFrontCard

/-- THE SECOND FORM's CARD OF 'breakwaterlaw12.DecidedTells'. -/
def decidedTellsUptoCard : Claim7 := { stood := { row := decidedTellsUptoRow, standIns := [], harness := (true, "c35ad92adf93973a01dae9bd60b3c8860a819458c75ec0b51465b5a62d52920c"), looks := false }, kinds := [], alts := [], laidByText := true, laidKinds := [.data], laidTests := true, laidLooks := .later }
def DecidedTellsUptoCardSaid : Prop := Claim7.holds Tryd.pinned (.plain (OpenSpec.upto decidedTellsSpec)) decidedTellsUptoCard

/-- THE SECOND FORM's CARD OF 'breakwaterlaw12.DecidedLog'. -/
def decidedLogUptoCard : Claim7 := { stood := { row := decidedLogUptoRow, standIns := [], harness := (true, "c35ad92adf93973a01dae9bd60b3c8860a819458c75ec0b51465b5a62d52920c"), looks := false }, kinds := [], alts := [], laidByText := true, laidKinds := [.data], laidTests := true, laidLooks := .later }
def DecidedLogUptoCardSaid : Prop := Claim7.holds Tryd.pinned (.plain (OpenSpec.upto decidedLogSpec)) decidedLogUptoCard

/-- THE SECOND FORM's CARD OF 'breakwaterlaw12.DecidedBack'. -/
def decidedBackUptoCard : Claim7 := { stood := { row := decidedBackUptoRow, standIns := [], harness := (true, "c35ad92adf93973a01dae9bd60b3c8860a819458c75ec0b51465b5a62d52920c"), looks := false }, kinds := [], alts := [], laidByText := true, laidKinds := [.data], laidTests := true, laidLooks := .later }
def DecidedBackUptoCardSaid : Prop := Claim7.holds Tryd.pinned (.plain (OpenSpec.upto decidedBackSpec)) decidedBackUptoCard

/-- THE SECOND FORM's CARD OF 'breakwaterlaw12.DecidedFront'. -/
def decidedFrontUptoCard : Claim7 := { stood := { row := decidedFrontUptoRow, standIns := [], harness := (true, "c35ad92adf93973a01dae9bd60b3c8860a819458c75ec0b51465b5a62d52920c"), looks := false }, kinds := [], alts := [], laidByText := true, laidKinds := [.data], laidTests := true, laidLooks := .later }
def DecidedFrontUptoCardSaid : Prop := Claim7.holds Tryd.pinned (.plain (OpenSpec.upto decidedFrontSpec)) decidedFrontUptoCard
end Rows
end Go.Proofs.YtjdacpnfgpdjhaaDoor
