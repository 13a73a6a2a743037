/-
  span: the program's May, Hold, Overlap, Together; what it asks of many, hold by hold: by contract.
-/
import Derived.Test.YtjknloaolennoaaSpanHold
import Derived.Deep.RegionHeld3
import Derived.Deep.DeepCutAuto
import Derived.Deep.CutBlock
namespace Go.Proofs.Ytjknloaolennoaa
open Go.RowKit
set_option linter.unusedVariables false
set_option linter.unusedSimpArgs false



set_option maxRecDepth 100000 in
set_option maxHeartbeats 1000000 in
theorem Together_any (ka la ha ma kb lb hb mb : Int) (w : World) :
    Calls Try.prog 66 #[.agg #[.int .i64 ka, .int .i64 la, .int .i64 ha, .int .i8 ma], .agg #[.int .i64 kb, .int .i64 lb, .int .i64 hb, .int .i8 mb]] w fun e w' => e = .returned (.bool (sTog ⟨ka, ⟨la, ha⟩, ma⟩ ⟨kb, ⟨lb, hb⟩, mb⟩)) ∧ Below w.heap.size w w' := by
  obtain ⟨W0, hW⟩ : ∃ W0, W0 = (w.alloc (.cells #[.int .i64 ka, .int .i64 la, .int .i64 ha, .int .i8 ma] 43)).alloc (.cells #[.int .i64 kb, .int .i64 lb, .int .i64 hb, .int .i8 mb] 43) := ⟨_, rfl⟩
  have hbw : Below w.heap.size w W0 := hW ▸ two_new _ _ _
  obtain ⟨p0, q0⟩ : Blk W0 w.heap.size #[.int .i64 ka, .int .i64 la, .int .i64 ha, .int .i8 ma] 43 ∧ Blk W0 (w.heap.size + 1) #[.int .i64 kb, .int .i64 lb, .int .i64 hb, .int .i8 mb] 43 := hW ▸ blk2 w _ _ _ _
  have hS : ∀ W, Below W0.heap.size W0 W → (W.cell? ⟨w.heap.size, 0, none⟩ = some (.int .i64 ka) ∧ W.cell? ⟨w.heap.size, 1, none⟩ = some (.int .i64 la) ∧ W.cell? ⟨w.heap.size, 2, none⟩ = some (.int .i64 ha) ∧ W.cell? ⟨w.heap.size, 3, none⟩ = some (.int .i8 ma)) ∧ (W.cell? ⟨w.heap.size + 1, 0, none⟩ = some (.int .i64 kb) ∧ W.cell? ⟨w.heap.size + 1, 1, none⟩ = some (.int .i64 lb) ∧ W.cell? ⟨w.heap.size + 1, 2, none⟩ = some (.int .i64 hb) ∧ W.cell? ⟨w.heap.size + 1, 3, none⟩ = some (.int .i8 mb)) ∧ Below W0.heap.size W0 W := fun W h =>
    ⟨hold_cells (p0.below h p0.lt), hold_cells (q0.below h q0.lt), h⟩
  have hD := hS _ (Below.refl W0.heap.size W0).drew
  have hOf : ∀ k lo hi m W, (W.cell? ⟨w.heap.size, 0, none⟩ = some (.int .i64 ka) ∧ W.cell? ⟨w.heap.size, 1, none⟩ = some (.int .i64 la) ∧ W.cell? ⟨w.heap.size, 2, none⟩ = some (.int .i64 ha) ∧ W.cell? ⟨w.heap.size, 3, none⟩ = some (.int .i8 ma)) ∧ (W.cell? ⟨w.heap.size + 1, 0, none⟩ = some (.int .i64 kb) ∧ W.cell? ⟨w.heap.size + 1, 1, none⟩ = some (.int .i64 lb) ∧ W.cell? ⟨w.heap.size + 1, 2, none⟩ = some (.int .i64 hb) ∧ W.cell? ⟨w.heap.size + 1, 3, none⟩ = some (.int .i8 mb)) ∧ Below W0.heap.size W0 W →
      Calls Try.prog 67 #[.agg #[.int .i64 k, .int .i64 lo, .int .i64 hi, .int .i8 m]] W fun e W => e = .returned (.agg #[.int .i64 lo, .int .i64 hi, .int .i64 k, .int .i8 m]) ∧ (W.cell? ⟨w.heap.size, 0, none⟩ = some (.int .i64 ka) ∧ W.cell? ⟨w.heap.size, 1, none⟩ = some (.int .i64 la) ∧ W.cell? ⟨w.heap.size, 2, none⟩ = some (.int .i64 ha) ∧ W.cell? ⟨w.heap.size, 3, none⟩ = some (.int .i8 ma)) ∧ (W.cell? ⟨w.heap.size + 1, 0, none⟩ = some (.int .i64 kb) ∧ W.cell? ⟨w.heap.size + 1, 1, none⟩ = some (.int .i64 lb) ∧ W.cell? ⟨w.heap.size + 1, 2, none⟩ = some (.int .i64 hb) ∧ W.cell? ⟨w.heap.size + 1, 3, none⟩ = some (.int .i8 mb)) ∧ Below W0.heap.size W0 W :=
    fun k lo hi m W h => (of_any k lo hi m W).mono (by rintro e w' ⟨rfl, hb⟩; exact ⟨rfl, hS _ (h.2.2.trans (hb.mono h.2.2.size))⟩)
  have hWith : ∀ W, (W.cell? ⟨w.heap.size, 0, none⟩ = some (.int .i64 ka) ∧ W.cell? ⟨w.heap.size, 1, none⟩ = some (.int .i64 la) ∧ W.cell? ⟨w.heap.size, 2, none⟩ = some (.int .i64 ha) ∧ W.cell? ⟨w.heap.size, 3, none⟩ = some (.int .i8 ma)) ∧ (W.cell? ⟨w.heap.size + 1, 0, none⟩ = some (.int .i64 kb) ∧ W.cell? ⟨w.heap.size + 1, 1, none⟩ = some (.int .i64 lb) ∧ W.cell? ⟨w.heap.size + 1, 2, none⟩ = some (.int .i64 hb) ∧ W.cell? ⟨w.heap.size + 1, 3, none⟩ = some (.int .i8 mb)) ∧ Below W0.heap.size W0 W →
      Calls Try.prog 72 #[.agg #[.int .i64 la, .int .i64 ha, .int .i64 ka, .int .i8 ma], .agg #[.int .i64 lb, .int .i64 hb, .int .i64 kb, .int .i8 mb]] W fun e W => e = .returned (.bool (sTog ⟨ka, ⟨la, ha⟩, ma⟩ ⟨kb, ⟨lb, hb⟩, mb⟩)) ∧ (W.cell? ⟨w.heap.size, 0, none⟩ = some (.int .i64 ka) ∧ W.cell? ⟨w.heap.size, 1, none⟩ = some (.int .i64 la) ∧ W.cell? ⟨w.heap.size, 2, none⟩ = some (.int .i64 ha) ∧ W.cell? ⟨w.heap.size, 3, none⟩ = some (.int .i8 ma)) ∧ (W.cell? ⟨w.heap.size + 1, 0, none⟩ = some (.int .i64 kb) ∧ W.cell? ⟨w.heap.size + 1, 1, none⟩ = some (.int .i64 lb) ∧ W.cell? ⟨w.heap.size + 1, 2, none⟩ = some (.int .i64 hb) ∧ W.cell? ⟨w.heap.size + 1, 3, none⟩ = some (.int .i8 mb)) ∧ Below W0.heap.size W0 W :=
    fun W h => (with_any ka la ha ma kb lb hb mb W).mono (by rintro e w' ⟨rfl, hb⟩; exact ⟨rfl, hS _ (h.2.2.trans (hb.mono h.2.2.size))⟩)
  clear hS p0 q0
  go_enter Try.func66, Try.ntmps66
  go_upto_region 1 with fail
  rw [← hW]
  clear hW
  go_region_held3 (fun W => (W.cell? ⟨w.heap.size, 0, none⟩ = some (.int .i64 ka) ∧ W.cell? ⟨w.heap.size, 1, none⟩ = some (.int .i64 la) ∧ W.cell? ⟨w.heap.size, 2, none⟩ = some (.int .i64 ha) ∧ W.cell? ⟨w.heap.size, 3, none⟩ = some (.int .i8 ma)) ∧ (W.cell? ⟨w.heap.size + 1, 0, none⟩ = some (.int .i64 kb) ∧ W.cell? ⟨w.heap.size + 1, 1, none⟩ = some (.int .i64 lb) ∧ W.cell? ⟨w.heap.size + 1, 2, none⟩ = some (.int .i64 hb) ∧ W.cell? ⟨w.heap.size + 1, 3, none⟩ = some (.int .i8 mb)) ∧ Below W0.heap.size W0 W) (first | assumption)
    (first
      | (go_at_call 67; (with_reducible refine (hOf _ _ _ _ _ ?_).mono ?_); assumption; rintro e W1 ⟨rfl, hN⟩)
      | (go_at_call 72; (with_reducible refine (hWith _ ?_).mono ?_); assumption; rintro e W2 ⟨rfl, hN⟩))
  have hb := hN.2.2
  go_wp2_with fail
  go_ret
  exact ⟨rfl, below_then hbw hb⟩

end Go.Proofs.Ytjknloaolennoaa
