/-
  seal: what the document says of an empty load holds.
-/
import Derived.Test.YtmnaemfijplnkaaDoorSealOf
namespace Go.Proofs.YtmnaemfijplnkaaDoor
open Go.RowKit
set_option linter.unusedVariables false
set_option linter.unusedSimpArgs false

theorem bd_i8 {n : Int} (h : (Lit.int .i8 n).wf = true) : -128 ≤ n ∧ n ≤ 127 := by
  have h1 : IntKind.i8.min = -128 := rfl
  have h2 : IntKind.i8.max = 127 := rfl
  simp only [Lit.wf, Bool.and_eq_true, decide_eq_true_eq] at h
  omega
theorem seal_empty : sealS 1 ⟨#[]⟩ = ⟨#[1, 0, 0, 4, 49, 37, 197]⟩ := by decide +kernel

set_option maxRecDepth 100000 in
theorem wakes_any (w : World) (ht : TabOk w) : Calls Tryd.prog 8 #[] w fun e w' => e = .returned (.bool true) ∧ Below w.heap.size w w' := by
  have hx : (⟨#[1, 0, 0, 4, 49, 37, 197]⟩ : ByteArray).extract 0 3 = ⟨#[1, 0, 0]⟩ := by decide
  go_enter Tryd.func8, Tryd.ntmps8
  go_wp2_with fail
  refine (Seal_any 1 ⟨#[]⟩ w (by omega) (by decide) ht).mono ?_
  rintro e w1 ⟨rfl, hb1⟩
  rw [sealOut_yes (by decide), seal_empty]
  have ht1 := ht.below hb1
  go_wp2_with fail
  refine (Open_any ⟨#[]⟩ w1 (by decide) ht1).mono ?_
  rintro e w2 ⟨rfl, hb2⟩
  rw [openOut_no (isS_no (by decide))]
  have hb02 := hb1.trans (hb2.mono hb1.size)
  clear ht1 hb1 hb2
  go_wp2_with fail
  go_ret
  exact ⟨rfl, hb02⟩

end Go.Proofs.YtmnaemfijplnkaaDoor
