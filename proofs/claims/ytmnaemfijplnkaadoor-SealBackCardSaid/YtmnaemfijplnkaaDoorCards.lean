/-
  DERIVED. GIVEN WITH THE SEED: THE CARDS: each row of YtmnaemfijplnkaaDoorRows.lean that lists a variable, with what it lists TIED to the program's text (the seventh form; the later family's looks); each row that meets fmt, with fmt's text TOLD by the authors' own Lean function (tested against real Go, not proved from fmt's source: count such statements apart). THE CARD IS WHAT COUNTS. Prove the row's statement (the work); the ties are given (YtmnaemfijplnkaaDoorTie.lean); close each card by the builder's one call (the guide's Derived/Test/ToyasCard.lean, 'card_holds'). Laid BY PROGRAM, IN A SANDBOX (cutbox-door.mjs). By AI agents, Wed Nov 11 2026. No macro, syntax, notation, axiom, sorry.
-/
import Derived.Test.YtmnaemfijplnkaaDoorRows
import GoSem.ClaimSeven
namespace Go.Proofs.YtmnaemfijplnkaaDoor
namespace Rows

/-- THE TIED CARD OF 'breakwaterlaw03.SealTells'. -/
def sealTellsCard : Claim7 := { stood := { row := sealTellsRow, standIns := [], harness := (true, "13dc331e1975aa81921650795ae8cf8570dddbb58092df3655d18c083ec1526f"), looks := false }, kinds := [], alts := [], laidByText := true, laidKinds := [.data], laidTests := true, laidLooks := .later }
def SealTellsCardSaid : Prop := Claim7.holds Tryd.pinned (.plain (OpenSpec.ofChange sealTellsSpec)) sealTellsCard

/-- THE TIED CARD OF 'breakwaterlaw03.SealFields'. -/
def sealFieldsCard : Claim7 := { stood := { row := sealFieldsRow, standIns := [], harness := (true, "13dc331e1975aa81921650795ae8cf8570dddbb58092df3655d18c083ec1526f"), looks := false }, kinds := [], alts := [], laidByText := true, laidKinds := [.data], laidTests := true, laidLooks := .later }
def SealFieldsCardSaid : Prop := Claim7.holds Tryd.pinned (.plain (OpenSpec.ofChange sealFieldsSpec)) sealFieldsCard

/-- THE TIED CARD OF 'breakwaterlaw03.SealBack'. -/
def sealBackCard : Claim7 := { stood := { row := sealBackRow, standIns := [], harness := (true, "13dc331e1975aa81921650795ae8cf8570dddbb58092df3655d18c083ec1526f"), looks := false }, kinds := [], alts := [], laidByText := true, laidKinds := [.data], laidTests := true, laidLooks := .later }
def SealBackCardSaid : Prop := Claim7.holds Tryd.pinned (.plain (OpenSpec.ofChange sealBackSpec)) sealBackCard

/-- THE TIED CARD OF 'breakwaterlaw03.SealHarm'. -/
def sealHarmCard : Claim7 := { stood := { row := sealHarmRow, standIns := [], harness := (true, "13dc331e1975aa81921650795ae8cf8570dddbb58092df3655d18c083ec1526f"), looks := false }, kinds := [], alts := [], laidByText := true, laidKinds := [.data], laidTests := true, laidLooks := .later }
def SealHarmCardSaid : Prop := Claim7.holds Tryd.pinned (.plain (OpenSpec.ofChange sealHarmSpec)) sealHarmCard

/-- THE TIED CARD OF 'breakwaterlaw03.SealLong'. -/
def sealLongCard : Claim7 := { stood := { row := sealLongRow, standIns := [], harness := (true, "13dc331e1975aa81921650795ae8cf8570dddbb58092df3655d18c083ec1526f"), looks := false }, kinds := [], alts := [], laidByText := true, laidKinds := [.data], laidTests := true, laidLooks := .later }
def SealLongCardSaid : Prop := Claim7.holds Tryd.pinned (.plain (OpenSpec.ofChange sealLongSpec)) sealLongCard

/-- THE SECOND FORM's CARD OF 'breakwaterlaw03.SealTells'. -/
def sealTellsUptoCard : Claim7 := { stood := { row := sealTellsUptoRow, standIns := [], harness := (true, "13dc331e1975aa81921650795ae8cf8570dddbb58092df3655d18c083ec1526f"), looks := false }, kinds := [], alts := [], laidByText := true, laidKinds := [.data], laidTests := true, laidLooks := .later }
def SealTellsUptoCardSaid : Prop := Claim7.holds Tryd.pinned (.plain (OpenSpec.upto sealTellsSpec)) sealTellsUptoCard

/-- THE SECOND FORM's CARD OF 'breakwaterlaw03.SealFields'. -/
def sealFieldsUptoCard : Claim7 := { stood := { row := sealFieldsUptoRow, standIns := [], harness := (true, "13dc331e1975aa81921650795ae8cf8570dddbb58092df3655d18c083ec1526f"), looks := false }, kinds := [], alts := [], laidByText := true, laidKinds := [.data], laidTests := true, laidLooks := .later }
def SealFieldsUptoCardSaid : Prop := Claim7.holds Tryd.pinned (.plain (OpenSpec.upto sealFieldsSpec)) sealFieldsUptoCard

/-- THE SECOND FORM's CARD OF 'breakwaterlaw03.SealBack'. -/
def sealBackUptoCard : Claim7 := { stood := { row := sealBackUptoRow, standIns := [], harness := (true, "13dc331e1975aa81921650795ae8cf8570dddbb58092df3655d18c083ec1526f"), looks := false }, kinds := [], alts := [], laidByText := true, laidKinds := [.data], laidTests := true, laidLooks := .later }
def SealBackUptoCardSaid : Prop := Claim7.holds Tryd.pinned (.plain (OpenSpec.upto sealBackSpec)) sealBackUptoCard

/-- THE SECOND FORM's CARD OF 'breakwaterlaw03.SealHarm'. -/
def sealHarmUptoCard : Claim7 := { stood := { row := sealHarmUptoRow, standIns := [], harness := (true, "13dc331e1975aa81921650795ae8cf8570dddbb58092df3655d18c083ec1526f"), looks := false }, kinds := [], alts := [], laidByText := true, laidKinds := [.data], laidTests := true, laidLooks := .later }
def SealHarmUptoCardSaid : Prop := Claim7.holds Tryd.pinned (.plain (OpenSpec.upto sealHarmSpec)) sealHarmUptoCard

/-- THE SECOND FORM's CARD OF 'breakwaterlaw03.SealLong'. -/
def sealLongUptoCard : Claim7 := { stood := { row := sealLongUptoRow, standIns := [], harness := (true, "13dc331e1975aa81921650795ae8cf8570dddbb58092df3655d18c083ec1526f"), looks := false }, kinds := [], alts := [], laidByText := true, laidKinds := [.data], laidTests := true, laidLooks := .later }
def SealLongUptoCardSaid : Prop := Claim7.holds Tryd.pinned (.plain (OpenSpec.upto sealLongSpec)) sealLongUptoCard
end Rows
end Go.Proofs.YtmnaemfijplnkaaDoor
