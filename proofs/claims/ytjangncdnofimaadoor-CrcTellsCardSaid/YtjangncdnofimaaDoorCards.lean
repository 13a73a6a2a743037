/-
  DERIVED. GIVEN WITH THE SEED: THE CARDS: each row of YtjangncdnofimaaDoorRows.lean that lists a variable, with what it lists TIED to the program's text (the seventh form; the later family's looks); each row that meets fmt, with fmt's text TOLD by the authors' own Lean function (tested against real Go, not proved from fmt's source: count such statements apart). THE CARD IS WHAT COUNTS. Prove the row's statement (the work); the ties are given (YtjangncdnofimaaDoorTie.lean); close each card by the builder's one call (the guide's Derived/Test/ToyasCard.lean, 'card_holds'). Laid BY PROGRAM, IN A SANDBOX (cutbox-door.mjs). By AI agents, Wed Nov 11 2026. No macro, syntax, notation, axiom, sorry.
-/
import Derived.Test.YtjangncdnofimaaDoorRows
import GoSem.ClaimSeven
namespace Go.Proofs.YtjangncdnofimaaDoor
namespace Rows

/-- THE TIED CARD OF 'breakwaterlaw02.CrcTells'. -/
def crcTellsCard : Claim7 := { stood := { row := crcTellsRow, standIns := [], harness := (true, "89ec17bd0cc28bd11d5a86c1cd3e22fc14714ca3d19e35ce6f8efbe8033e2e44"), looks := false }, kinds := [], alts := [], laidByText := true, laidKinds := [.data], laidTests := true, laidLooks := .later }
def CrcTellsCardSaid : Prop := Claim7.holds Tryd.pinned (.plain (OpenSpec.ofChange crcTellsSpec)) crcTellsCard

/-- THE TIED CARD OF 'breakwaterlaw02.CrcBoth'. -/
def crcBothCard : Claim7 := { stood := { row := crcBothRow, standIns := [], harness := (true, "89ec17bd0cc28bd11d5a86c1cd3e22fc14714ca3d19e35ce6f8efbe8033e2e44"), looks := false }, kinds := [], alts := [], laidByText := true, laidKinds := [.data], laidTests := true, laidLooks := .later }
def CrcBothCardSaid : Prop := Claim7.holds Tryd.pinned (.plain (OpenSpec.ofChange crcBothSpec)) crcBothCard

/-- THE TIED CARD OF 'breakwaterlaw02.CrcBack'. -/
def crcBackCard : Claim7 := { stood := { row := crcBackRow, standIns := [], harness := (true, "89ec17bd0cc28bd11d5a86c1cd3e22fc14714ca3d19e35ce6f8efbe8033e2e44"), looks := false }, kinds := [], alts := [], laidByText := true, laidKinds := [.data], laidTests := true, laidLooks := .later }
def CrcBackCardSaid : Prop := Claim7.holds Tryd.pinned (.plain (OpenSpec.ofChange crcBackSpec)) crcBackCard

/-- THE TIED CARD OF 'breakwaterlaw02.CrcClose'. -/
def crcCloseCard : Claim7 := { stood := { row := crcCloseRow, standIns := [], harness := (true, "89ec17bd0cc28bd11d5a86c1cd3e22fc14714ca3d19e35ce6f8efbe8033e2e44"), looks := false }, kinds := [], alts := [], laidByText := true, laidKinds := [.data], laidTests := true, laidLooks := .later }
def CrcCloseCardSaid : Prop := Claim7.holds Tryd.pinned (.plain (OpenSpec.ofChange crcCloseSpec)) crcCloseCard

/-- THE TIED CARD OF 'breakwaterlaw02.CrcBurst'. -/
def crcBurstCard : Claim7 := { stood := { row := crcBurstRow, standIns := [], harness := (true, "89ec17bd0cc28bd11d5a86c1cd3e22fc14714ca3d19e35ce6f8efbe8033e2e44"), looks := false }, kinds := [], alts := [], laidByText := true, laidKinds := [.data], laidTests := true, laidLooks := .later }
def CrcBurstCardSaid : Prop := Claim7.holds Tryd.pinned (.plain (OpenSpec.ofChange crcBurstSpec)) crcBurstCard

/-- THE SECOND FORM's CARD OF 'breakwaterlaw02.CrcTells'. -/
def crcTellsUptoCard : Claim7 := { stood := { row := crcTellsUptoRow, standIns := [], harness := (true, "89ec17bd0cc28bd11d5a86c1cd3e22fc14714ca3d19e35ce6f8efbe8033e2e44"), looks := false }, kinds := [], alts := [], laidByText := true, laidKinds := [.data], laidTests := true, laidLooks := .later }
def CrcTellsUptoCardSaid : Prop := Claim7.holds Tryd.pinned (.plain (OpenSpec.upto crcTellsSpec)) crcTellsUptoCard

/-- THE SECOND FORM's CARD OF 'breakwaterlaw02.CrcBoth'. -/
def crcBothUptoCard : Claim7 := { stood := { row := crcBothUptoRow, standIns := [], harness := (true, "89ec17bd0cc28bd11d5a86c1cd3e22fc14714ca3d19e35ce6f8efbe8033e2e44"), looks := false }, kinds := [], alts := [], laidByText := true, laidKinds := [.data], laidTests := true, laidLooks := .later }
def CrcBothUptoCardSaid : Prop := Claim7.holds Tryd.pinned (.plain (OpenSpec.upto crcBothSpec)) crcBothUptoCard

/-- THE SECOND FORM's CARD OF 'breakwaterlaw02.CrcBack'. -/
def crcBackUptoCard : Claim7 := { stood := { row := crcBackUptoRow, standIns := [], harness := (true, "89ec17bd0cc28bd11d5a86c1cd3e22fc14714ca3d19e35ce6f8efbe8033e2e44"), looks := false }, kinds := [], alts := [], laidByText := true, laidKinds := [.data], laidTests := true, laidLooks := .later }
def CrcBackUptoCardSaid : Prop := Claim7.holds Tryd.pinned (.plain (OpenSpec.upto crcBackSpec)) crcBackUptoCard

/-- THE SECOND FORM's CARD OF 'breakwaterlaw02.CrcClose'. -/
def crcCloseUptoCard : Claim7 := { stood := { row := crcCloseUptoRow, standIns := [], harness := (true, "89ec17bd0cc28bd11d5a86c1cd3e22fc14714ca3d19e35ce6f8efbe8033e2e44"), looks := false }, kinds := [], alts := [], laidByText := true, laidKinds := [.data], laidTests := true, laidLooks := .later }
def CrcCloseUptoCardSaid : Prop := Claim7.holds Tryd.pinned (.plain (OpenSpec.upto crcCloseSpec)) crcCloseUptoCard

/-- THE SECOND FORM's CARD OF 'breakwaterlaw02.CrcBurst'. -/
def crcBurstUptoCard : Claim7 := { stood := { row := crcBurstUptoRow, standIns := [], harness := (true, "89ec17bd0cc28bd11d5a86c1cd3e22fc14714ca3d19e35ce6f8efbe8033e2e44"), looks := false }, kinds := [], alts := [], laidByText := true, laidKinds := [.data], laidTests := true, laidLooks := .later }
def CrcBurstUptoCardSaid : Prop := Claim7.holds Tryd.pinned (.plain (OpenSpec.upto crcBurstSpec)) crcBurstUptoCard
end Rows
end Go.Proofs.YtjangncdnofimaaDoor
