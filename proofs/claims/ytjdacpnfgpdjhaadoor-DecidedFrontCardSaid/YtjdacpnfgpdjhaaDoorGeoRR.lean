/-
  A geometry that lies in a block of the call's own: what holds at each turn.
-/
import Derived.Test.YtjdacpnfgpdjhaaDoorAid
import Derived.Test.YtjdacpnfgpdjhaaDoorGeoMath
namespace Go.Proofs.YtjdacpnfgpdjhaaDoor
open Go.RowKit
set_option linter.unusedVariables false
set_option linter.unusedSimpArgs false

/-- The geometry's numbers lie in a block. -/
def GAt (g : G) (b : Nat) (W : World) : Prop := W.cell? ⟨b, 0, none⟩ = some (.int .i64 g.N) ∧ W.cell? ⟨b, 1, none⟩ = some (.int .i64 g.S) ∧ W.cell? ⟨b, 2, none⟩ = some (.int .i64 g.B) ∧ W.cell? ⟨b, 3, none⟩ = some (.int .i64 g.P) ∧ W.cell? ⟨b, 4, none⟩ = some (.int .i64 g.J) ∧ W.cell? ⟨b, 5, none⟩ = some (.int .i64 g.L) ∧ W.cell? ⟨b, 6, none⟩ = some (.int .i64 g.E) ∧ W.cell? ⟨b, 7, none⟩ = some (.int .i64 g.T)
/-- What holds at each turn: nothing old is written, the geometry's numbers lie where they lay. -/
def RR (g : G) (w W : World) : Prop := Below w.heap.size w W ∧ GAt g w.heap.size W ∧ w.heap.size < W.heap.size
theorem RR.start (g : G) (w : World) : RR g w (w.alloc (.cells #[.int .i64 g.N, .int .i64 g.S, .int .i64 g.B, .int .i64 g.P, .int .i64 g.J, .int .i64 g.L, .int .i64 g.E, .int .i64 g.T] 43)) :=
  ⟨(Below.refl _ _).alloc (Nat.le_refl _) _, by
    have h := Blk.new w #[.int .i64 g.N, .int .i64 g.S, .int .i64 g.B, .int .i64 g.P, .int .i64 g.J, .int .i64 g.L, .int .i64 g.E, .int .i64 g.T] 43
    exact ⟨h.cell 0 _ rfl, h.cell 1 _ rfl, h.cell 2 _ rfl, h.cell 3 _ rfl, h.cell 4 _ rfl, h.cell 5 _ rfl, h.cell 6 _ rfl, h.cell 7 _ rfl⟩, by simp⟩
theorem RR.call {g : G} {w W W' : World} (h : RR g w W) (hb : Below W.heap.size W W') : RR g w W' :=
  ⟨h.1.trans (hb.mono h.1.size), by
    have key : ∀ o, W'.cell? ⟨w.heap.size, o, none⟩ = W.cell? ⟨w.heap.size, o, none⟩ := fun o => hb.cell (p := ⟨w.heap.size, o, none⟩) h.2.2
    have h2 := h.2.1
    unfold GAt at h2 ⊢
    simp only [key]
    exact h2, by have := hb.size; have := h.2.2; omega⟩
theorem RR.drew {g : G} {w W : World} (h : RR g w W) : RR g w W.drew := ⟨h.1.drew, h.2.1, h.2.2⟩

end Go.Proofs.YtjdacpnfgpdjhaaDoor
