/-
  The program's device: keys that are fenced, a sector that there is, a key that was given: by contract.
-/
import Derived.Test.YtjdacpnfgpdjhaaDoorDevLeaf
namespace Go.Proofs.YtjdacpnfgpdjhaaDoor
open Go.RowKit
set_option linter.unusedVariables false
set_option linter.unusedSimpArgs false

def outK (F : List Int) (x : Int) : Bool := decide (x < 1) || decide (x ∈ F)
theorem outK_yes {F : List Int} {x : Int} (h : x < 1) : outK F x = true := by unfold outK; rw [decide_eq_true h]; rfl
theorem outK_no {F : List Int} {x : Int} (h : ¬ x < 1) : outK F x = decide (x ∈ F) := by unfold outK; rw [decide_eq_false h]; rfl
theorem outK_any (F keys : List Int) : keys.any (outK F) = fencedAny F keys := rfl


end Go.Proofs.YtjdacpnfgpdjhaaDoor
