/-
  No cell of these rows narrows 'for every input' (looked for: loops, veiled, ifaces, maps, wideKeys, modest, calm, conditions, laid).
  DERIVED. THE GIVEN ROWS OF THIS SEAT. 4 by the template 'for every input the law returns true; each argument reads behind the call as it read before'; 0 by the template 'total and deterministic' (their statements: YtcgifdmjmkfkpaaTotals.lean).
  GIVEN WITH THE SEED: the statements are not yours to turn. If you find one false, say at which input.
  Laid BY PROGRAM, IN A SANDBOX (cutbox-rows.mjs): the forced cells as the released guide's own fill.sh prints them over the translation 97ce511a514ebd2b… (all of the seat's roots in one cut). By AI agents, Wed Nov 11 2026. No macro, syntax, notation, axiom, sorry.
-/
import Derived.Test.YtcgifdmjmkfkpaaChecked
import GoSem.Claim
import GoSem.ClaimJoined
import GoSem.ClaimMapViews
import Derived.JoinedTies
import Derived.KernelRfl
namespace Go.Proofs.Ytcgifdmjmkfkpaa
/- THE CELL 'sum', in the pinned program and in every row, IS THE sha256 OF THE DUMP (.gsa) THAT YtcgifdmjmkfkpaaProg.lean LOADS. Nothing in Lean hashes anything: it is a label: what it is worth is what the hold of that sum in a sandbox is worth. -/
noncomputable def Try.pinned : Pinned := { name := "ytcgifdmjmkfkpaa", sum := "97ce511a514ebd2bd8a49d23f882132836621eb55e78f16d6e5fbe054488bbbd", checked := Try.checked }
namespace Rows
def none {H : Type} : Left H := { results := [], args := [] }

/-- 'breakwaterlaw04.GeoTells': WHATEVER THE INPUT: true; the input reads as it did. -/
def geoTellsSpec : ChangeSpec := { name := "geoTells", fn := fun _ => fun
  | [d1, d2, d3] => { results := [.lit (.bool true)], args := [d1, d2, d3] }
  | _ => none }
def geoTellsRow : OpenClaim := { program := "ytcgifdmjmkfkpaa", sum := "97ce511a514ebd2bd8a49d23f882132836621eb55e78f16d6e5fbe054488bbbd", func := "breakwater/breakwaterlaw04.GeoTells", spec := "geoTells", apart := false }
def GeoTellsSaid : Prop := geoTellsRow.holds Try.pinned (OpenSpec.ofChange geoTellsSpec)

/-- ITS FALSE NEIGHBOUR: 'it returns false'. Refute it at one input. -/
def geoTellsWrong : ChangeSpec := { name := "geoTells", fn := fun _ => fun
  | [d1, d2, d3] => { results := [.lit (.bool false)], args := [d1, d2, d3] }
  | _ => none }
def GeoTellsWrongFalsely : Prop := geoTellsRow.holds Try.pinned (OpenSpec.ofChange geoTellsWrong)

/-- 'breakwaterlaw04.GeoWhat': WHATEVER THE INPUT: true; the input reads as it did. -/
def geoWhatSpec : ChangeSpec := { name := "geoWhat", fn := fun _ => fun
  | [d1, d2, d3] => { results := [.lit (.bool true)], args := [d1, d2, d3] }
  | _ => none }
def geoWhatRow : OpenClaim := { program := "ytcgifdmjmkfkpaa", sum := "97ce511a514ebd2bd8a49d23f882132836621eb55e78f16d6e5fbe054488bbbd", func := "breakwater/breakwaterlaw04.GeoWhat", spec := "geoWhat", apart := false }
def GeoWhatSaid : Prop := geoWhatRow.holds Try.pinned (OpenSpec.ofChange geoWhatSpec)

/-- ITS FALSE NEIGHBOUR: 'it returns false'. Refute it at one input. -/
def geoWhatWrong : ChangeSpec := { name := "geoWhat", fn := fun _ => fun
  | [d1, d2, d3] => { results := [.lit (.bool false)], args := [d1, d2, d3] }
  | _ => none }
def GeoWhatWrongFalsely : Prop := geoWhatRow.holds Try.pinned (OpenSpec.ofChange geoWhatWrong)

/-- 'breakwaterlaw04.GeoOnce': WHATEVER THE INPUT: true; the input reads as it did. -/
def geoOnceSpec : ChangeSpec := { name := "geoOnce", fn := fun _ => fun
  | [d] => { results := [.lit (.bool true)], args := [d] }
  | _ => none }
def geoOnceRow : OpenClaim := { program := "ytcgifdmjmkfkpaa", sum := "97ce511a514ebd2bd8a49d23f882132836621eb55e78f16d6e5fbe054488bbbd", func := "breakwater/breakwaterlaw04.GeoOnce", spec := "geoOnce", apart := false }
def GeoOnceSaid : Prop := geoOnceRow.holds Try.pinned (OpenSpec.ofChange geoOnceSpec)

/-- ITS FALSE NEIGHBOUR: 'it returns false'. Refute it at one input. -/
def geoOnceWrong : ChangeSpec := { name := "geoOnce", fn := fun _ => fun
  | [d] => { results := [.lit (.bool false)], args := [d] }
  | _ => none }
def GeoOnceWrongFalsely : Prop := geoOnceRow.holds Try.pinned (OpenSpec.ofChange geoOnceWrong)

/-- 'breakwaterlaw04.GeoRound': WHATEVER THE INPUT: true; the input reads as it did. -/
def geoRoundSpec : ChangeSpec := { name := "geoRound", fn := fun _ => fun
  | [d1, d2, d3, d4] => { results := [.lit (.bool true)], args := [d1, d2, d3, d4] }
  | _ => none }
def geoRoundRow : OpenClaim := { program := "ytcgifdmjmkfkpaa", sum := "97ce511a514ebd2bd8a49d23f882132836621eb55e78f16d6e5fbe054488bbbd", func := "breakwater/breakwaterlaw04.GeoRound", spec := "geoRound", apart := false }
def GeoRoundSaid : Prop := geoRoundRow.holds Try.pinned (OpenSpec.ofChange geoRoundSpec)

/-- ITS FALSE NEIGHBOUR: 'it returns false'. Refute it at one input. -/
def geoRoundWrong : ChangeSpec := { name := "geoRound", fn := fun _ => fun
  | [d1, d2, d3, d4] => { results := [.lit (.bool false)], args := [d1, d2, d3, d4] }
  | _ => none }
def GeoRoundWrongFalsely : Prop := geoRoundRow.holds Try.pinned (OpenSpec.ofChange geoRoundWrong)

/- THE SECOND FORM. 'bulk': how many values and letters a reading holds, each counted each time it is reached (what is shared counts as often as it is met; a slice's spare places count too). A statement '..UptoSaid' is the law's where the arguments, and the package variables that the reading takes, are together of bulk at most 1048576: NARROWER than '..Said'. Prove '..Said' where nothing that the law and all that it calls make is longer than what came in: it says more and counts as full. Else prove '..UptoSaid'. A law counts once. -/
mutual
def uptoBulk {H : Type} : DataW H → Nat
  | .lit (.string bytes) => bytes.length + 1
  | .lit _ => 1
  | .nil => 1
  | .ptr d => uptoBulk d + 1
  | .slice elems spare => uptoBulkAll elems + uptoBulkAll spare + 1
  | .agg parts => uptoBulkAll parts + 1
  | .iface _ d => uptoBulk d + 1
  | .map entries => uptoBulkEntries entries + 1
  | .held _ => 1
def uptoBulkAll {H : Type} : List (DataW H) → Nat
  | [] => 0
  | d :: r => uptoBulk d + uptoBulkAll r
def uptoBulkEntries {H : Type} : List (Lit × DataW H) → Nat
  | [] => 0
  | x :: r => uptoBulkEntry x + uptoBulkEntries r
def uptoBulkEntry {H : Type} : Lit × DataW H → Nat
  | (.string bytes, d) => bytes.length + uptoBulk d + 1
  | (_, d) => uptoBulk d + 1
 end
def uptoSmall : (H : Type) → List (DataW H) → Bool := fun _ ds => decide (uptoBulkAll ds ≤ 1048576)
def OpenSpec.upto (s : _root_.Go.ChangeSpec) : _root_.Go.OpenSpec := { _root_.Go.OpenSpec.ofChange s with cond := some uptoSmall }

/-- 'breakwaterlaw04.GeoTells', WHERE WHAT IT READS IS OF BULK AT MOST 1048576: true; the input reads as it did. -/
def geoTellsUptoRow : OpenClaim := { program := "ytcgifdmjmkfkpaa", sum := "97ce511a514ebd2bd8a49d23f882132836621eb55e78f16d6e5fbe054488bbbd", func := "breakwater/breakwaterlaw04.GeoTells", spec := "geoTells", apart := false, narrowed := true }
def GeoTellsUptoSaid : Prop := geoTellsUptoRow.holds Try.pinned (OpenSpec.upto geoTellsSpec)

/-- 'breakwaterlaw04.GeoWhat', WHERE WHAT IT READS IS OF BULK AT MOST 1048576: true; the input reads as it did. -/
def geoWhatUptoRow : OpenClaim := { program := "ytcgifdmjmkfkpaa", sum := "97ce511a514ebd2bd8a49d23f882132836621eb55e78f16d6e5fbe054488bbbd", func := "breakwater/breakwaterlaw04.GeoWhat", spec := "geoWhat", apart := false, narrowed := true }
def GeoWhatUptoSaid : Prop := geoWhatUptoRow.holds Try.pinned (OpenSpec.upto geoWhatSpec)

/-- 'breakwaterlaw04.GeoOnce', WHERE WHAT IT READS IS OF BULK AT MOST 1048576: true; the input reads as it did. -/
def geoOnceUptoRow : OpenClaim := { program := "ytcgifdmjmkfkpaa", sum := "97ce511a514ebd2bd8a49d23f882132836621eb55e78f16d6e5fbe054488bbbd", func := "breakwater/breakwaterlaw04.GeoOnce", spec := "geoOnce", apart := false, narrowed := true }
def GeoOnceUptoSaid : Prop := geoOnceUptoRow.holds Try.pinned (OpenSpec.upto geoOnceSpec)

/-- 'breakwaterlaw04.GeoRound', WHERE WHAT IT READS IS OF BULK AT MOST 1048576: true; the input reads as it did. -/
def geoRoundUptoRow : OpenClaim := { program := "ytcgifdmjmkfkpaa", sum := "97ce511a514ebd2bd8a49d23f882132836621eb55e78f16d6e5fbe054488bbbd", func := "breakwater/breakwaterlaw04.GeoRound", spec := "geoRound", apart := false, narrowed := true }
def GeoRoundUptoSaid : Prop := geoRoundUptoRow.holds Try.pinned (OpenSpec.upto geoRoundSpec)

end Rows
end Go.Proofs.Ytcgifdmjmkfkpaa
