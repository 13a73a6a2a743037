/-
  Devices in two variables beside each other, deeds read where they came in; what the laws' walks want of both.
-/
import Derived.Test.YtleemgjbihdbgaaDevGreat
import Derived.Test.YtleemgjbihdbgaaDevWakes
import Derived.Test.YtleemgjbihdbgaaDevSmall
namespace Go.Proofs.Ytleemgjbihdbgaa
open Go.RowKit
set_option linter.unusedVariables false
set_option linter.unusedSimpArgs false

/-- A device of the call's own (or handed back), written into a block of the device's type. -/
theorem VarAt.put {W : World} {B q : Nat} {cs : Array Value} {vS vC vK vF : Value} {f : Nat → Value} {E : Dev} (k : Blk W q cs 29) (hs : cs.size = 5) (hO : OwnD W B vS vC vK vF f E) : VarAt (into5 W q vS vC vK E.n vF) B q E :=
  ⟨vS, vC, vK, vF, f, into5_other hO k (by decide) (by decide) (by decide) (by decide) _ _ _ _ _, into5_self k hs _ _ _ _ _⟩
/-- A deed's cells, later on, as a load of the whole deed asks for them. -/
theorem deed_cells {w0 w : World} {p : Addr} {x : DeedM} (h : DeedAt w0 p x) (hb : Below w0.heap.size w0 w) :
    w.cell? p = some (.int .i64 x.dk) ∧ w.cell? ⟨p.block, p.off + 1, none⟩ = some (.int .i64 x.node) ∧ w.cell? ⟨p.block, p.off + 2, none⟩ = some (.int .i8 x.a.k) ∧ w.cell? ⟨p.block, p.off + 3, none⟩ = some (.int .i64 x.a.s) ∧
    w.cell? ⟨p.block, p.off + 4, none⟩ = some (.string x.a.b) ∧ w.cell? ⟨p.block, p.off + 5, none⟩ = some (.int .i64 x.a.key) ∧ w.cell? ⟨p.block, p.off + 6, none⟩ = some (.int .u64 (x.kept : Int)) := by
  have key : ∀ (j : Nat) (v : Value), w0.cell? (p.add j) = some v → w.cell? (p.add j) = some v := fun j v hv => (hb.cell (World.block_lt_of_cell? w0 _ hv)).trans hv
  obtain ⟨h0, h1, h2, h3, h4, h5, h6⟩ := h
  have e : ∀ j : Nat, 0 < j → (p.add j) = ⟨p.block, p.off + j, none⟩ := fun j hj => by unfold Addr.add; rw [if_neg (by omega)]
  refine ⟨?_, ?_, ?_, ?_, ?_, ?_, ?_⟩
  · have := key 0 _ h0
    rwa [show p.add 0 = p by simp [Addr.add]] at this
  · rw [← e 1 (by omega)]; exact key 1 _ h1
  · rw [← e 2 (by omega)]; exact key 2 _ h2
  · rw [← e 3 (by omega)]; exact key 3 _ h3
  · rw [← e 4 (by omega)]; exact key 4 _ h4
  · rw [← e 5 (by omega)]; exact key 5 _ h5
  · rw [← e 6 (by omega)]; exact key 6 _ h6
/-- What deeds leave small. -/
theorem deed_small {D : Dev} {x : DeedM} (h : MayD D) (hS : D.S.length ≤ 1099511627776) : Small (deedD D x) 1099511627776 := by
  refine may_small (may_deed h x) ?_
  have := (like_deed D x).s
  omega

end Go.Proofs.Ytleemgjbihdbgaa
