/-
  NARROWER THAN 'FOR EVERY INPUT', by the rows' own cells (each row's printed sentence says how): CrcTells: laid · CrcBoth: laid · CrcBack: laid · CrcClose: laid · CrcBurst: laid.
  DERIVED. THE GIVEN ROWS OF THIS SEAT. 5 by the template 'for every input the law returns true; each argument reads behind the call as it read before'; 0 by the template 'total and deterministic' (their statements: YtjangncdnofimaaDoorTotals.lean).
  GIVEN WITH THE SEED: the statements are not yours to turn. If you find one false, say at which input.
  Laid BY PROGRAM, IN A SANDBOX (cutbox-rows.mjs): the forced cells as the released guide's own fill.sh prints them over the translation 02458a612d7786d6… (all of the seat's roots in one cut). By AI agents, Wed Nov 11 2026. No macro, syntax, notation, axiom, sorry.
-/
import Derived.Test.YtjangncdnofimaaDoorChecked
import GoSem.Claim
import GoSem.ClaimJoined
import GoSem.ClaimMapViews
import Derived.JoinedTies
import Derived.KernelRfl
namespace Go.Proofs.YtjangncdnofimaaDoor
/- THE CELL 'sum', in the pinned program and in every row, IS THE sha256 OF THE DUMP (.gsa) THAT YtjangncdnofimaaDoorProg.lean LOADS. Nothing in Lean hashes anything: it is a label: what it is worth is what the hold of that sum in a sandbox is worth. -/
noncomputable def Tryd.pinned : Pinned := { name := "ytjangncdnofimaadoor", sum := "02458a612d7786d6e4c6a9c5c8322642ce10af24cdaa76b1dd63e110a5dc9354", checked := Tryd.checked }
namespace Rows
def none {H : Type} : Left H := { results := [], args := [] }

/- WHAT THE LISTED PACKAGE-LEVEL VARIABLES READ AS WHEN THE CALL BEGINS. Each datum BY PROGRAM (the guide's laid-datum.mjs) off the statement by which the dump's own 'gosem.cut.vars' lays the variable. In a bare row this is a premise. The card (YtjangncdnofimaaDoorCards.lean) ties it to the program's text. -/
def laid_breakwater_crc_nibbles {H : Type} : DataW H := .agg [.lit (.int .u32 0), .lit (.int .u32 274646895), .lit (.int .u32 549293790), .lit (.int .u32 820201905), .lit (.int .u32 1098587580), .lit (.int .u32 1361435347), .lit (.int .u32 1640403810), .lit (.int .u32 1905808397), .lit (.int .u32 2197175160), .lit (.int .u32 2460548119), .lit (.int .u32 2722870694), .lit (.int .u32 2987750089), .lit (.int .u32 3280807620), .lit (.int .u32 3553878443), .lit (.int .u32 3811616794), .lit (.int .u32 4084100981)]

/-- 'breakwaterlaw02.CrcTells': WHATEVER THE INPUT: true; the input reads as it did. -/
def crcTellsSpec : ChangeSpec := { name := "crcTells", fn := fun _ => fun
  | [d1, d2, d3, d4] => { results := [.lit (.bool true)], args := [d1, d2, d3, d4] }
  | _ => none }
def crcTellsRow : OpenClaim := { program := "ytjangncdnofimaadoor", sum := "02458a612d7786d6e4c6a9c5c8322642ce10af24cdaa76b1dd63e110a5dc9354", func := "breakwater/breakwaterlaw02.CrcTells", spec := "crcTells", named := ["breakwater/crc.nibbles"], apart := false, laid := [("breakwater/crc.nibbles", laid_breakwater_crc_nibbles)] }
def CrcTellsSaid : Prop := crcTellsRow.holds Tryd.pinned (OpenSpec.ofChange crcTellsSpec)

/-- ITS FALSE NEIGHBOUR: 'it returns false'. Refute it at one input. -/
def crcTellsWrong : ChangeSpec := { name := "crcTells", fn := fun _ => fun
  | [d1, d2, d3, d4] => { results := [.lit (.bool false)], args := [d1, d2, d3, d4] }
  | _ => none }
def CrcTellsWrongFalsely : Prop := crcTellsRow.holds Tryd.pinned (OpenSpec.ofChange crcTellsWrong)

/-- 'breakwaterlaw02.CrcBoth': WHATEVER THE INPUT: true; the input reads as it did. -/
def crcBothSpec : ChangeSpec := { name := "crcBoth", fn := fun _ => fun
  | [d1, d2] => { results := [.lit (.bool true)], args := [d1, d2] }
  | _ => none }
def crcBothRow : OpenClaim := { program := "ytjangncdnofimaadoor", sum := "02458a612d7786d6e4c6a9c5c8322642ce10af24cdaa76b1dd63e110a5dc9354", func := "breakwater/breakwaterlaw02.CrcBoth", spec := "crcBoth", named := ["breakwater/crc.nibbles"], apart := false, laid := [("breakwater/crc.nibbles", laid_breakwater_crc_nibbles)] }
def CrcBothSaid : Prop := crcBothRow.holds Tryd.pinned (OpenSpec.ofChange crcBothSpec)

/-- ITS FALSE NEIGHBOUR: 'it returns false'. Refute it at one input. -/
def crcBothWrong : ChangeSpec := { name := "crcBoth", fn := fun _ => fun
  | [d1, d2] => { results := [.lit (.bool false)], args := [d1, d2] }
  | _ => none }
def CrcBothWrongFalsely : Prop := crcBothRow.holds Tryd.pinned (OpenSpec.ofChange crcBothWrong)

/-- 'breakwaterlaw02.CrcBack': WHATEVER THE INPUT: true; the input reads as it did. -/
def crcBackSpec : ChangeSpec := { name := "crcBack", fn := fun _ => fun
  | [d1, d2, d3] => { results := [.lit (.bool true)], args := [d1, d2, d3] }
  | _ => none }
def crcBackRow : OpenClaim := { program := "ytjangncdnofimaadoor", sum := "02458a612d7786d6e4c6a9c5c8322642ce10af24cdaa76b1dd63e110a5dc9354", func := "breakwater/breakwaterlaw02.CrcBack", spec := "crcBack", named := ["breakwater/crc.nibbles"], apart := false, laid := [("breakwater/crc.nibbles", laid_breakwater_crc_nibbles)] }
def CrcBackSaid : Prop := crcBackRow.holds Tryd.pinned (OpenSpec.ofChange crcBackSpec)

/-- ITS FALSE NEIGHBOUR: 'it returns false'. Refute it at one input. -/
def crcBackWrong : ChangeSpec := { name := "crcBack", fn := fun _ => fun
  | [d1, d2, d3] => { results := [.lit (.bool false)], args := [d1, d2, d3] }
  | _ => none }
def CrcBackWrongFalsely : Prop := crcBackRow.holds Tryd.pinned (OpenSpec.ofChange crcBackWrong)

/-- 'breakwaterlaw02.CrcClose': WHATEVER THE INPUT: true; the input reads as it did. -/
def crcCloseSpec : ChangeSpec := { name := "crcClose", fn := fun _ => fun
  | [d1, d2, d3] => { results := [.lit (.bool true)], args := [d1, d2, d3] }
  | _ => none }
def crcCloseRow : OpenClaim := { program := "ytjangncdnofimaadoor", sum := "02458a612d7786d6e4c6a9c5c8322642ce10af24cdaa76b1dd63e110a5dc9354", func := "breakwater/breakwaterlaw02.CrcClose", spec := "crcClose", named := ["breakwater/crc.nibbles"], apart := false, laid := [("breakwater/crc.nibbles", laid_breakwater_crc_nibbles)] }
def CrcCloseSaid : Prop := crcCloseRow.holds Tryd.pinned (OpenSpec.ofChange crcCloseSpec)

/-- ITS FALSE NEIGHBOUR: 'it returns false'. Refute it at one input. -/
def crcCloseWrong : ChangeSpec := { name := "crcClose", fn := fun _ => fun
  | [d1, d2, d3] => { results := [.lit (.bool false)], args := [d1, d2, d3] }
  | _ => none }
def CrcCloseWrongFalsely : Prop := crcCloseRow.holds Tryd.pinned (OpenSpec.ofChange crcCloseWrong)

/-- 'breakwaterlaw02.CrcBurst': WHATEVER THE INPUT: true; the input reads as it did. -/
def crcBurstSpec : ChangeSpec := { name := "crcBurst", fn := fun _ => fun
  | [d1, d2, d3] => { results := [.lit (.bool true)], args := [d1, d2, d3] }
  | _ => none }
def crcBurstRow : OpenClaim := { program := "ytjangncdnofimaadoor", sum := "02458a612d7786d6e4c6a9c5c8322642ce10af24cdaa76b1dd63e110a5dc9354", func := "breakwater/breakwaterlaw02.CrcBurst", spec := "crcBurst", named := ["breakwater/crc.nibbles"], apart := false, laid := [("breakwater/crc.nibbles", laid_breakwater_crc_nibbles)] }
def CrcBurstSaid : Prop := crcBurstRow.holds Tryd.pinned (OpenSpec.ofChange crcBurstSpec)

/-- ITS FALSE NEIGHBOUR: 'it returns false'. Refute it at one input. -/
def crcBurstWrong : ChangeSpec := { name := "crcBurst", fn := fun _ => fun
  | [d1, d2, d3] => { results := [.lit (.bool false)], args := [d1, d2, d3] }
  | _ => none }
def CrcBurstWrongFalsely : Prop := crcBurstRow.holds Tryd.pinned (OpenSpec.ofChange crcBurstWrong)

/- THE SECOND FORM. 'bulk': how many values and letters a reading holds, each counted each time it is reached (what is shared counts as often as it is met; a slice's spare places count too). A statement '..UptoSaid' is the law's where the arguments, and the package variables that the reading takes, are together of bulk at most 1048576: NARROWER than '..Said'. Prove '..Said' where nothing that the law and all that it calls make is longer than what came in: it says more and counts as full. Else prove '..UptoSaid'. A law counts once. -/
mutual
def uptoBulk {H : Type} : DataW H → Nat
  | .lit (.string bytes) => bytes.length + 1
  | .lit _ => 1
  | .nil => 1
  | .ptr d => uptoBulk d + 1
  | .slice elems spare => uptoBulkAll elems + uptoBulkAll spare + 1
  | .agg parts => uptoBulkAll parts + 1
  | .iface _ d => uptoBulk d + 1
  | .map entries => uptoBulkEntries entries + 1
  | .held _ => 1
def uptoBulkAll {H : Type} : List (DataW H) → Nat
  | [] => 0
  | d :: r => uptoBulk d + uptoBulkAll r
def uptoBulkEntries {H : Type} : List (Lit × DataW H) → Nat
  | [] => 0
  | x :: r => uptoBulkEntry x + uptoBulkEntries r
def uptoBulkEntry {H : Type} : Lit × DataW H → Nat
  | (.string bytes, d) => bytes.length + uptoBulk d + 1
  | (_, d) => uptoBulk d + 1
 end
def uptoSmall : (H : Type) → List (DataW H) → Bool := fun _ ds => decide (uptoBulkAll ds ≤ 1048576)
def OpenSpec.upto (s : _root_.Go.ChangeSpec) : _root_.Go.OpenSpec := { _root_.Go.OpenSpec.ofChange s with cond := some uptoSmall }

/-- 'breakwaterlaw02.CrcTells', WHERE WHAT IT READS IS OF BULK AT MOST 1048576: true; the input reads as it did. -/
def crcTellsUptoRow : OpenClaim := { program := "ytjangncdnofimaadoor", sum := "02458a612d7786d6e4c6a9c5c8322642ce10af24cdaa76b1dd63e110a5dc9354", func := "breakwater/breakwaterlaw02.CrcTells", spec := "crcTells", named := ["breakwater/crc.nibbles"], apart := false, laid := [("breakwater/crc.nibbles", laid_breakwater_crc_nibbles)], narrowed := true }
def CrcTellsUptoSaid : Prop := crcTellsUptoRow.holds Tryd.pinned (OpenSpec.upto crcTellsSpec)

/-- 'breakwaterlaw02.CrcBoth', WHERE WHAT IT READS IS OF BULK AT MOST 1048576: true; the input reads as it did. -/
def crcBothUptoRow : OpenClaim := { program := "ytjangncdnofimaadoor", sum := "02458a612d7786d6e4c6a9c5c8322642ce10af24cdaa76b1dd63e110a5dc9354", func := "breakwater/breakwaterlaw02.CrcBoth", spec := "crcBoth", named := ["breakwater/crc.nibbles"], apart := false, laid := [("breakwater/crc.nibbles", laid_breakwater_crc_nibbles)], narrowed := true }
def CrcBothUptoSaid : Prop := crcBothUptoRow.holds Tryd.pinned (OpenSpec.upto crcBothSpec)

/-- 'breakwaterlaw02.CrcBack', WHERE WHAT IT READS IS OF BULK AT MOST 1048576: true; the input reads as it did. -/
def crcBackUptoRow : OpenClaim := { program := "ytjangncdnofimaadoor", sum := "02458a612d7786d6e4c6a9c5c8322642ce10af24cdaa76b1dd63e110a5dc9354", func := "breakwater/breakwaterlaw02.CrcBack", spec := "crcBack", named := ["breakwater/crc.nibbles"], apart := false, laid := [("breakwater/crc.nibbles", laid_breakwater_crc_nibbles)], narrowed := true }
def CrcBackUptoSaid : Prop := crcBackUptoRow.holds Tryd.pinned (OpenSpec.upto crcBackSpec)

/-- 'breakwaterlaw02.CrcClose', WHERE WHAT IT READS IS OF BULK AT MOST 1048576: true; the input reads as it did. -/
def crcCloseUptoRow : OpenClaim := { program := "ytjangncdnofimaadoor", sum := "02458a612d7786d6e4c6a9c5c8322642ce10af24cdaa76b1dd63e110a5dc9354", func := "breakwater/breakwaterlaw02.CrcClose", spec := "crcClose", named := ["breakwater/crc.nibbles"], apart := false, laid := [("breakwater/crc.nibbles", laid_breakwater_crc_nibbles)], narrowed := true }
def CrcCloseUptoSaid : Prop := crcCloseUptoRow.holds Tryd.pinned (OpenSpec.upto crcCloseSpec)

/-- 'breakwaterlaw02.CrcBurst', WHERE WHAT IT READS IS OF BULK AT MOST 1048576: true; the input reads as it did. -/
def crcBurstUptoRow : OpenClaim := { program := "ytjangncdnofimaadoor", sum := "02458a612d7786d6e4c6a9c5c8322642ce10af24cdaa76b1dd63e110a5dc9354", func := "breakwater/breakwaterlaw02.CrcBurst", spec := "crcBurst", named := ["breakwater/crc.nibbles"], apart := false, laid := [("breakwater/crc.nibbles", laid_breakwater_crc_nibbles)], narrowed := true }
def CrcBurstUptoSaid : Prop := crcBurstUptoRow.holds Tryd.pinned (OpenSpec.upto crcBurstSpec)

end Rows
end Go.Proofs.YtjangncdnofimaaDoor
