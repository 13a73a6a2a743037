/-
  seal: what the document says of an empty load holds.
-/
import Derived.Test.YtgllamjgagbblaaDoorSealOf
namespace Go.Proofs.YtgllamjgagbblaaDoor
open Go.RowKit
set_option linter.unusedVariables false
set_option linter.unusedSimpArgs false

theorem bd_i8 {n : Int} (h : (Lit.int .i8 n).wf = true) : -128 ≤ n ∧ n ≤ 127 := by
  have h1 : IntKind.i8.min = -128 := rfl
  have h2 : IntKind.i8.max = 127 := rfl
  simp only [Lit.wf, Bool.and_eq_true, decide_eq_true_eq] at h
  omega
theorem seal_empty : sealS 1 ⟨#[]⟩ = ⟨#[1, 0, 0, 4, 49, 37, 197]⟩ := by decide +kernel


end Go.Proofs.YtgllamjgagbblaaDoor
