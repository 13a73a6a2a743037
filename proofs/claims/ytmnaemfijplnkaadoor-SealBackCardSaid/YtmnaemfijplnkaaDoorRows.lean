/-
  NARROWER THAN 'FOR EVERY INPUT', by the rows' own cells (each row's printed sentence says how): SealTells: laid · SealFields: laid · SealBack: laid · SealHarm: laid · SealLong: laid.
  DERIVED. THE GIVEN ROWS OF THIS SEAT. 5 by the template 'for every input the law returns true; each argument reads behind the call as it read before'; 0 by the template 'total and deterministic' (their statements: YtmnaemfijplnkaaDoorTotals.lean).
  GIVEN WITH THE SEED: the statements are not yours to turn. If you find one false, say at which input.
  Laid BY PROGRAM, IN A SANDBOX (cutbox-rows.mjs): the forced cells as the released guide's own fill.sh prints them over the translation 5d13d59fd5bbe258… (all of the seat's roots in one cut). By AI agents, Wed Nov 11 2026. No macro, syntax, notation, axiom, sorry.
-/
import Derived.Test.YtmnaemfijplnkaaDoorChecked
import GoSem.Claim
import GoSem.ClaimJoined
import GoSem.ClaimMapViews
import Derived.JoinedTies
import Derived.KernelRfl
namespace Go.Proofs.YtmnaemfijplnkaaDoor
/- THE CELL 'sum', in the pinned program and in every row, IS THE sha256 OF THE DUMP (.gsa) THAT YtmnaemfijplnkaaDoorProg.lean LOADS. Nothing in Lean hashes anything: it is a label: what it is worth is what the hold of that sum in a sandbox is worth. -/
noncomputable def Tryd.pinned : Pinned := { name := "ytmnaemfijplnkaadoor", sum := "5d13d59fd5bbe2588e1b1bfe50bd364305f160680ae2bbbf666e20bc389ef0c4", checked := Tryd.checked }
namespace Rows
def none {H : Type} : Left H := { results := [], args := [] }

/- WHAT THE LISTED PACKAGE-LEVEL VARIABLES READ AS WHEN THE CALL BEGINS. Each datum BY PROGRAM (the guide's laid-datum.mjs) off the statement by which the dump's own 'gosem.cut.vars' lays the variable. In a bare row this is a premise. The card (YtmnaemfijplnkaaDoorCards.lean) ties it to the program's text. -/
def laid_breakwater_crc_nibbles {H : Type} : DataW H := .agg [.lit (.int .u32 0), .lit (.int .u32 274646895), .lit (.int .u32 549293790), .lit (.int .u32 820201905), .lit (.int .u32 1098587580), .lit (.int .u32 1361435347), .lit (.int .u32 1640403810), .lit (.int .u32 1905808397), .lit (.int .u32 2197175160), .lit (.int .u32 2460548119), .lit (.int .u32 2722870694), .lit (.int .u32 2987750089), .lit (.int .u32 3280807620), .lit (.int .u32 3553878443), .lit (.int .u32 3811616794), .lit (.int .u32 4084100981)]

/-- 'breakwaterlaw03.SealTells': WHATEVER THE INPUT: true; the input reads as it did. -/
def sealTellsSpec : ChangeSpec := { name := "sealTells", fn := fun _ => fun
  | [d1, d2, d3] => { results := [.lit (.bool true)], args := [d1, d2, d3] }
  | _ => none }
def sealTellsRow : OpenClaim := { program := "ytmnaemfijplnkaadoor", sum := "5d13d59fd5bbe2588e1b1bfe50bd364305f160680ae2bbbf666e20bc389ef0c4", func := "breakwater/breakwaterlaw03.SealTells", spec := "sealTells", named := ["breakwater/crc.nibbles"], apart := false, laid := [("breakwater/crc.nibbles", laid_breakwater_crc_nibbles)] }
def SealTellsSaid : Prop := sealTellsRow.holds Tryd.pinned (OpenSpec.ofChange sealTellsSpec)

/-- ITS FALSE NEIGHBOUR: 'it returns false'. Refute it at one input. -/
def sealTellsWrong : ChangeSpec := { name := "sealTells", fn := fun _ => fun
  | [d1, d2, d3] => { results := [.lit (.bool false)], args := [d1, d2, d3] }
  | _ => none }
def SealTellsWrongFalsely : Prop := sealTellsRow.holds Tryd.pinned (OpenSpec.ofChange sealTellsWrong)

/-- 'breakwaterlaw03.SealFields': WHATEVER THE INPUT: true; the input reads as it did. -/
def sealFieldsSpec : ChangeSpec := { name := "sealFields", fn := fun _ => fun
  | [d1, d2, d3, d4, d5] => { results := [.lit (.bool true)], args := [d1, d2, d3, d4, d5] }
  | _ => none }
def sealFieldsRow : OpenClaim := { program := "ytmnaemfijplnkaadoor", sum := "5d13d59fd5bbe2588e1b1bfe50bd364305f160680ae2bbbf666e20bc389ef0c4", func := "breakwater/breakwaterlaw03.SealFields", spec := "sealFields", named := ["breakwater/crc.nibbles"], apart := false, laid := [("breakwater/crc.nibbles", laid_breakwater_crc_nibbles)] }
def SealFieldsSaid : Prop := sealFieldsRow.holds Tryd.pinned (OpenSpec.ofChange sealFieldsSpec)

/-- ITS FALSE NEIGHBOUR: 'it returns false'. Refute it at one input. -/
def sealFieldsWrong : ChangeSpec := { name := "sealFields", fn := fun _ => fun
  | [d1, d2, d3, d4, d5] => { results := [.lit (.bool false)], args := [d1, d2, d3, d4, d5] }
  | _ => none }
def SealFieldsWrongFalsely : Prop := sealFieldsRow.holds Tryd.pinned (OpenSpec.ofChange sealFieldsWrong)

/-- 'breakwaterlaw03.SealBack': WHATEVER THE INPUT: true; the input reads as it did. -/
def sealBackSpec : ChangeSpec := { name := "sealBack", fn := fun _ => fun
  | [d1, d2, d3, d4, d5] => { results := [.lit (.bool true)], args := [d1, d2, d3, d4, d5] }
  | _ => none }
def sealBackRow : OpenClaim := { program := "ytmnaemfijplnkaadoor", sum := "5d13d59fd5bbe2588e1b1bfe50bd364305f160680ae2bbbf666e20bc389ef0c4", func := "breakwater/breakwaterlaw03.SealBack", spec := "sealBack", named := ["breakwater/crc.nibbles"], apart := false, laid := [("breakwater/crc.nibbles", laid_breakwater_crc_nibbles)] }
def SealBackSaid : Prop := sealBackRow.holds Tryd.pinned (OpenSpec.ofChange sealBackSpec)

/-- ITS FALSE NEIGHBOUR: 'it returns false'. Refute it at one input. -/
def sealBackWrong : ChangeSpec := { name := "sealBack", fn := fun _ => fun
  | [d1, d2, d3, d4, d5] => { results := [.lit (.bool false)], args := [d1, d2, d3, d4, d5] }
  | _ => none }
def SealBackWrongFalsely : Prop := sealBackRow.holds Tryd.pinned (OpenSpec.ofChange sealBackWrong)

/-- 'breakwaterlaw03.SealHarm': WHATEVER THE INPUT: true; the input reads as it did. -/
def sealHarmSpec : ChangeSpec := { name := "sealHarm", fn := fun _ => fun
  | [d1, d2, d3, d4] => { results := [.lit (.bool true)], args := [d1, d2, d3, d4] }
  | _ => none }
def sealHarmRow : OpenClaim := { program := "ytmnaemfijplnkaadoor", sum := "5d13d59fd5bbe2588e1b1bfe50bd364305f160680ae2bbbf666e20bc389ef0c4", func := "breakwater/breakwaterlaw03.SealHarm", spec := "sealHarm", named := ["breakwater/crc.nibbles"], apart := false, laid := [("breakwater/crc.nibbles", laid_breakwater_crc_nibbles)] }
def SealHarmSaid : Prop := sealHarmRow.holds Tryd.pinned (OpenSpec.ofChange sealHarmSpec)

/-- ITS FALSE NEIGHBOUR: 'it returns false'. Refute it at one input. -/
def sealHarmWrong : ChangeSpec := { name := "sealHarm", fn := fun _ => fun
  | [d1, d2, d3, d4] => { results := [.lit (.bool false)], args := [d1, d2, d3, d4] }
  | _ => none }
def SealHarmWrongFalsely : Prop := sealHarmRow.holds Tryd.pinned (OpenSpec.ofChange sealHarmWrong)

/-- 'breakwaterlaw03.SealLong': WHATEVER THE INPUT: true; the input reads as it did. -/
def sealLongSpec : ChangeSpec := { name := "sealLong", fn := fun _ => fun
  | [d1, d2, d3] => { results := [.lit (.bool true)], args := [d1, d2, d3] }
  | _ => none }
def sealLongRow : OpenClaim := { program := "ytmnaemfijplnkaadoor", sum := "5d13d59fd5bbe2588e1b1bfe50bd364305f160680ae2bbbf666e20bc389ef0c4", func := "breakwater/breakwaterlaw03.SealLong", spec := "sealLong", named := ["breakwater/crc.nibbles"], apart := false, laid := [("breakwater/crc.nibbles", laid_breakwater_crc_nibbles)] }
def SealLongSaid : Prop := sealLongRow.holds Tryd.pinned (OpenSpec.ofChange sealLongSpec)

/-- ITS FALSE NEIGHBOUR: 'it returns false'. Refute it at one input. -/
def sealLongWrong : ChangeSpec := { name := "sealLong", fn := fun _ => fun
  | [d1, d2, d3] => { results := [.lit (.bool false)], args := [d1, d2, d3] }
  | _ => none }
def SealLongWrongFalsely : Prop := sealLongRow.holds Tryd.pinned (OpenSpec.ofChange sealLongWrong)

/- THE SECOND FORM. 'bulk': how many values and letters a reading holds, each counted each time it is reached (what is shared counts as often as it is met; a slice's spare places count too). A statement '..UptoSaid' is the law's where the arguments, and the package variables that the reading takes, are together of bulk at most 1048576: NARROWER than '..Said'. Prove '..Said' where nothing that the law and all that it calls make is longer than what came in: it says more and counts as full. Else prove '..UptoSaid'. A law counts once. -/
mutual
def uptoBulk {H : Type} : DataW H → Nat
  | .lit (.string bytes) => bytes.length + 1
  | .lit _ => 1
  | .nil => 1
  | .ptr d => uptoBulk d + 1
  | .slice elems spare => uptoBulkAll elems + uptoBulkAll spare + 1
  | .agg parts => uptoBulkAll parts + 1
  | .iface _ d => uptoBulk d + 1
  | .map entries => uptoBulkEntries entries + 1
  | .held _ => 1
def uptoBulkAll {H : Type} : List (DataW H) → Nat
  | [] => 0
  | d :: r => uptoBulk d + uptoBulkAll r
def uptoBulkEntries {H : Type} : List (Lit × DataW H) → Nat
  | [] => 0
  | x :: r => uptoBulkEntry x + uptoBulkEntries r
def uptoBulkEntry {H : Type} : Lit × DataW H → Nat
  | (.string bytes, d) => bytes.length + uptoBulk d + 1
  | (_, d) => uptoBulk d + 1
 end
def uptoSmall : (H : Type) → List (DataW H) → Bool := fun _ ds => decide (uptoBulkAll ds ≤ 1048576)
def OpenSpec.upto (s : _root_.Go.ChangeSpec) : _root_.Go.OpenSpec := { _root_.Go.OpenSpec.ofChange s with cond := some uptoSmall }

/-- 'breakwaterlaw03.SealTells', WHERE WHAT IT READS IS OF BULK AT MOST 1048576: true; the input reads as it did. -/
def sealTellsUptoRow : OpenClaim := { program := "ytmnaemfijplnkaadoor", sum := "5d13d59fd5bbe2588e1b1bfe50bd364305f160680ae2bbbf666e20bc389ef0c4", func := "breakwater/breakwaterlaw03.SealTells", spec := "sealTells", named := ["breakwater/crc.nibbles"], apart := false, laid := [("breakwater/crc.nibbles", laid_breakwater_crc_nibbles)], narrowed := true }
def SealTellsUptoSaid : Prop := sealTellsUptoRow.holds Tryd.pinned (OpenSpec.upto sealTellsSpec)

/-- 'breakwaterlaw03.SealFields', WHERE WHAT IT READS IS OF BULK AT MOST 1048576: true; the input reads as it did. -/
def sealFieldsUptoRow : OpenClaim := { program := "ytmnaemfijplnkaadoor", sum := "5d13d59fd5bbe2588e1b1bfe50bd364305f160680ae2bbbf666e20bc389ef0c4", func := "breakwater/breakwaterlaw03.SealFields", spec := "sealFields", named := ["breakwater/crc.nibbles"], apart := false, laid := [("breakwater/crc.nibbles", laid_breakwater_crc_nibbles)], narrowed := true }
def SealFieldsUptoSaid : Prop := sealFieldsUptoRow.holds Tryd.pinned (OpenSpec.upto sealFieldsSpec)

/-- 'breakwaterlaw03.SealBack', WHERE WHAT IT READS IS OF BULK AT MOST 1048576: true; the input reads as it did. -/
def sealBackUptoRow : OpenClaim := { program := "ytmnaemfijplnkaadoor", sum := "5d13d59fd5bbe2588e1b1bfe50bd364305f160680ae2bbbf666e20bc389ef0c4", func := "breakwater/breakwaterlaw03.SealBack", spec := "sealBack", named := ["breakwater/crc.nibbles"], apart := false, laid := [("breakwater/crc.nibbles", laid_breakwater_crc_nibbles)], narrowed := true }
def SealBackUptoSaid : Prop := sealBackUptoRow.holds Tryd.pinned (OpenSpec.upto sealBackSpec)

/-- 'breakwaterlaw03.SealHarm', WHERE WHAT IT READS IS OF BULK AT MOST 1048576: true; the input reads as it did. -/
def sealHarmUptoRow : OpenClaim := { program := "ytmnaemfijplnkaadoor", sum := "5d13d59fd5bbe2588e1b1bfe50bd364305f160680ae2bbbf666e20bc389ef0c4", func := "breakwater/breakwaterlaw03.SealHarm", spec := "sealHarm", named := ["breakwater/crc.nibbles"], apart := false, laid := [("breakwater/crc.nibbles", laid_breakwater_crc_nibbles)], narrowed := true }
def SealHarmUptoSaid : Prop := sealHarmUptoRow.holds Tryd.pinned (OpenSpec.upto sealHarmSpec)

/-- 'breakwaterlaw03.SealLong', WHERE WHAT IT READS IS OF BULK AT MOST 1048576: true; the input reads as it did. -/
def sealLongUptoRow : OpenClaim := { program := "ytmnaemfijplnkaadoor", sum := "5d13d59fd5bbe2588e1b1bfe50bd364305f160680ae2bbbf666e20bc389ef0c4", func := "breakwater/breakwaterlaw03.SealLong", spec := "sealLong", named := ["breakwater/crc.nibbles"], apart := false, laid := [("breakwater/crc.nibbles", laid_breakwater_crc_nibbles)], narrowed := true }
def SealLongUptoSaid : Prop := sealLongUptoRow.holds Tryd.pinned (OpenSpec.upto sealLongSpec)

end Rows
end Go.Proofs.YtmnaemfijplnkaaDoor
