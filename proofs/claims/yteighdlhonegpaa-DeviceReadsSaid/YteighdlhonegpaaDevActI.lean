/-
  The program's actor: a start, a register: by contract.
-/
import Derived.Test.YteighdlhonegpaaDevActG
import Derived.Test.YteighdlhonegpaaNumPut
import Derived.Test.YteighdlhonegpaaMem
namespace Go.Proofs.Yteighdlhonegpaa
open Go.RowKit
set_option linter.unusedVariables false
set_option linter.unusedSimpArgs false

section
variable {w w' : World} {B b : Nat} {vS vC vK vF : Value} {f : Nat → Value} {D : Dev} {node : Int}
/-- A cell of the actor's own block is written: its rows are as they were. -/
theorem ActAt.rows (h : ActAt w B b vS vC vK vF f D node) (o : Nat) (u : Value) : OwnD (w.setCell ⟨b, o, none⟩ u) B vS vC vK vF f D := by
  have key : ∀ {e : TypeId} {size : Nat} {v : Value} {n : Nat} {xs : List Value}, w.ownsRow B e size v n xs → e ≠ 73 → (w.setCell ⟨b, o, none⟩ u).ownsRow B e size v n xs := by
    intro e size v n xs hv hne
    refine ownsRow_setCell_other hv (fun hb => ?_) u
    exact own_blk hv h.a hne hb rfl
  exact ⟨key h.d.s (by decide), key h.d.c (by decide), key h.d.k (by decide), key h.d.ff (by decide), fun i hi => key (h.d.cs i hi) (by decide), h.d.kf, h.d.cc⟩
/-- Next is written. -/
theorem ActAt.setN (h : ActAt w B b vS vC vK vF f D node) (x : Int) : ActAt (w.setCell ⟨b, 3, none⟩ (.int .i64 x)) B b vS vC vK vF f { D with n := x } node := by
  have h2 := h.rows 3 (.int .i64 x)
  exact ⟨⟨h2.s, h2.c, h2.k, h2.ff, h2.cs, h2.kf, h2.cc⟩, h.a.set 3 _, h.hb⟩
theorem act_key (h : ActAt w B b vS vC vK vF f D node) {i : Nat} (hi : i < D.K.length) :
    ∃ gk cap, vK = .slice (some ⟨gk, 0, none⟩) D.K.length cap ∧ B ≤ gk ∧ gk < w.heap.size ∧ b ≠ gk ∧ w.cell? ⟨gk, i, none⟩ = some (.int .i64 (D.K[i])) ∧ w.frozen? ⟨gk, i, none⟩ = false := by
  obtain ⟨gk, cap, e, h1, h2⟩ := h.d.k.form (by omega)
  have ho := h.d.k
  have hne : b ≠ gk := own_blk ho h.a (by decide) (by rw [e]; rfl)
  rw [e] at ho
  refine ⟨gk, cap, e, h1, h2, hne, ?_, ho.frozenAt i⟩
  rw [ho.cellAt i (by omega)]
  simp [hi]
end

set_option maxRecDepth 100000 in
set_option maxHeartbeats 2000000 in
theorem start_any (B b : Nat) (D : Dev) (i : Nat) (w : World) (h : ActorAt w B b D (i : Int)) (hi : i < D.C.length) (hk : i < D.K.length) (hB : B ≤ w.heap.size) :
    Calls Try.prog 46 #[.pointer (some ⟨b, 0, none⟩)] w fun e w' => e = .returned (.tuple #[]) ∧ ActorAt w' B b (startD D i) (i : Int) ∧ Below B w w' := by
  have hc := forget_any B b D i w h hi
  clear h
  go_enter Try.func46, Try.ntmps46
  go_wp2_with fail
  refine hc.mono ?_
  rintro e w1 ⟨rfl, ⟨vS, vC, vK, vF, f, h1⟩, hb1⟩
  have hbx := h1.box
  obtain ⟨gk, cap, rfl, hgB, hgl, hne, hd, hz⟩ := act_key h1 hk
  have HA : Hid (ActorAt (w1.setCell ⟨gk, i, none⟩ (.int .i64 0)) B b (startD D i) (i : Int)) := ⟨_, _, _, _, _, h1.setK rfl i 0⟩
  have HB : Hid (Below B w (w1.setCell ⟨gk, i, none⟩ (.int .i64 0))) := hb1.setCell (by simpa using hgB) _
  have c2 := hbx.c2
  have c5 := hbx.c5
  have i0 : (0 : Int) ≤ (i : Int) := by omega
  have i1 : (i : Int) < (D.K.length : Int) := by omega
  have hne2 : gk ≠ b := fun e => hne e.symm
  have hd' : w1.cell? ⟨gk, i, none⟩ = some (.int .i64 (D.K[i])) := hd
  clear hd
  generalize D.K[i] = kOld at *
  clear h1 hbx hc
  have HK := Lib.hid hk
  clear hk
  go_wp2_with fail
  go_region_held3 (fun w' => w'.cell? ⟨b, 2, none⟩ = some (.slice (some ⟨gk, 0, none⟩) D.K.length cap) ∧ w'.cell? ⟨b, 5, none⟩ = some (.int .i64 (i : Int))) (go_keep) (fail)
  go_wp2_with fail
  go_end0
  obtain ⟨aS, aC, aK, aF, g, hA⟩ := HA.out
  exact ⟨rfl, ⟨aS, aC, aK, aF, g, hA.drew⟩, HB.out.drew⟩

end Go.Proofs.Yteighdlhonegpaa
