/-
  A device in a variable of the call's own: what a call's device becomes there; what stands beside it.
-/
import Derived.Test.YtleemgjbihdbgaaDevNew
namespace Go.Proofs.Ytleemgjbihdbgaa
open Go.RowKit
set_option linter.unusedVariables false
set_option linter.unusedSimpArgs false

/-- A variable (block b) holds a device whose parts are the call's own. -/
def VarAt (w : World) (B b : Nat) (D : Dev) : Prop := ∃ vS vC vK vF f, OwnD w B vS vC vK vF f D ∧ Blk w b #[vS, vC, vK, .int .i64 D.n, vF] 29
section
variable {w w' : World} {B b q : Nat} {D E : Dev}
theorem VarAt.up (h : VarAt w B b D) (hb : Below w.heap.size w w') : VarAt w' B b D := by
  obtain ⟨vS, vC, vK, vF, f, h1, h2⟩ := h
  exact ⟨vS, vC, vK, vF, f, h1.up hb, h2.below hb h2.lt⟩
theorem VarAt.drew (h : VarAt w B b D) : VarAt w.drew B b D := h.up ((Below.refl _ _).drew)
theorem VarAt.lt (h : VarAt w B b D) : b < w.heap.size := by
  obtain ⟨vS, vC, vK, vF, f, h1, h2⟩ := h
  exact h2.lt
theorem VarAt.less {B' : Nat} (h : VarAt w B b D) (hB : B' ≤ B) : VarAt w B' b D := by
  obtain ⟨vS, vC, vK, vF, f, h1, h2⟩ := h
  exact ⟨vS, vC, vK, vF, f, h1.less hB, h2⟩
theorem into5_heap (w : World) (r : Nat) (vS vC vK : Value) (n : Int) (vF : Value) : (into5 w r vS vC vK n vF).heap.size = w.heap.size := by simp [into5]
theorem into5_blk {cs : Array Value} {T : TypeId} (h : Blk w q cs T) (hne : q ≠ b) (vS vC vK : Value) (n : Int) (vF : Value) : Blk (into5 w b vS vC vK n vF) q cs T :=
  ((((h.other hne 0 vS).other hne 1 vC).other hne 2 vK).other hne 3 (.int .i64 n)).other hne 4 vF
theorem set5 (cs : Array Value) (hs : cs.size = 5) (x0 x1 x2 x3 x4 : Value) : ((((cs.setIfInBounds 0 x0).setIfInBounds 1 x1).setIfInBounds 2 x2).setIfInBounds 3 x3).setIfInBounds 4 x4 = #[x0, x1, x2, x3, x4] := by
  obtain ⟨l⟩ := cs
  rcases l with _ | ⟨y0, _ | ⟨y1, _ | ⟨y2, _ | ⟨y3, _ | ⟨y4, _ | ⟨y5, l⟩⟩⟩⟩⟩⟩ <;> simp at hs ⊢
theorem into5_self {cs : Array Value} {T : TypeId} (h : Blk w b cs T) (hs : cs.size = 5) (vS vC vK : Value) (n : Int) (vF : Value) : Blk (into5 w b vS vC vK n vF) b #[vS, vC, vK, .int .i64 n, vF] T := by
  rw [← set5 cs hs vS vC vK (.int .i64 n) vF]
  exact ((((h.set 0 vS).set 1 vC).set 2 vK).set 3 (.int .i64 n)).set 4 vF
/-- Another variable is written. -/
theorem VarAt.into {cs : Array Value} (h : VarAt w B q E) (k : Blk w b cs 29) (hne : q ≠ b) (vS vC vK : Value) (n : Int) (vF : Value) : VarAt (into5 w b vS vC vK n vF) B q E := by
  obtain ⟨uS, uC, uK, uF, f, h1, h2⟩ := h
  exact ⟨uS, uC, uK, uF, f, into5_other h1 k (by decide) (by decide) (by decide) (by decide) _ _ _ _ _, into5_blk h2 hne _ _ _ _ _⟩
/-- What a variable's cells hold. -/
theorem VarAt.cells (h : VarAt w B b D) : ∃ aS cS aC cC aK cK aF cF, w.cell? ⟨b, 0, none⟩ = some (.slice aS D.S.length cS) ∧ w.cell? ⟨b, 1, none⟩ = some (.slice aC D.C.length cC) ∧ w.cell? ⟨b, 2, none⟩ = some (.slice aK D.K.length cK) ∧ w.cell? ⟨b, 3, none⟩ = some (.int .i64 D.n) ∧ w.cell? ⟨b, 4, none⟩ = some (.slice aF D.F.length cF) ∧
    DevAt w w.heap.size (.agg #[.slice aS D.S.length cS, .slice aC D.C.length cC, .slice aK D.K.length cK, .int .i64 D.n, .slice aF D.F.length cF]) D ∧ Lies w w.heap.size aS D.S.length (strV D.S) ∧ Lies w w.heap.size aK D.K.length (D.K.map (Value.int .i64)) := by
  obtain ⟨vS, vC, vK, vF, f, h1, h2⟩ := h
  have hd := h1.dev
  have hs := h1.s
  have hk := h1.k
  obtain ⟨aS, cS, rfl, -, -⟩ := own_shape2 h1.s
  obtain ⟨aC, cC, rfl, -, -⟩ := own_shape2 h1.c
  obtain ⟨aK, cK, rfl, -, -⟩ := own_shape2 h1.k
  obtain ⟨aF, cF, rfl, -, -⟩ := own_shape2 h1.ff
  exact ⟨aS, cS, aC, cC, aK, cK, aF, cF, h2.cell 0 _ rfl, h2.cell 1 _ rfl, h2.cell 2 _ rfl, h2.cell 3 _ rfl, h2.cell 4 _ rfl, hd, Lies.of_own hs, Lies.of_own hk⟩
/-- What a call hands back: its parts' shapes. -/
theorem own_shapes {vS vC vK vF : Value} {f : Nat → Value} (h : OwnD w B vS vC vK vF f D) : ∃ aS cS aC cC aK cK aF cF, vS = .slice aS D.S.length cS ∧ vC = .slice aC D.C.length cC ∧ vK = .slice aK D.K.length cK ∧ vF = .slice aF D.F.length cF := by
  obtain ⟨aS, cS, rfl, -, -⟩ := own_shape2 h.s
  obtain ⟨aC, cC, rfl, -, -⟩ := own_shape2 h.c
  obtain ⟨aK, cK, rfl, -, -⟩ := own_shape2 h.k
  obtain ⟨aF, cF, rfl, -, -⟩ := own_shape2 h.ff
  exact ⟨aS, cS, aC, cC, aK, cK, aF, cF, rfl, rfl, rfl, rfl⟩
/-- A variable that may be written: its cells, its marks. -/
structure Free5 (w : World) (b : Nat) : Prop where
  c0 : ∃ u, w.cell? ⟨b, 0, none⟩ = some u
  c1 : ∃ u, w.cell? ⟨b, 1, none⟩ = some u
  c2 : ∃ u, w.cell? ⟨b, 2, none⟩ = some u
  c3 : ∃ u, w.cell? ⟨b, 3, none⟩ = some u
  c4 : ∃ u, w.cell? ⟨b, 4, none⟩ = some u
  f0 : w.frozen? ⟨b, 0, none⟩ = false
  f1 : w.frozen? ⟨b, 1, none⟩ = false
  f2 : w.frozen? ⟨b, 2, none⟩ = false
  f3 : w.frozen? ⟨b, 3, none⟩ = false
  f4 : w.frozen? ⟨b, 4, none⟩ = false
theorem free5 {cs : Array Value} {T : TypeId} (h : Blk w b cs T) (hs : cs.size = 5) : Free5 w b := by
  obtain ⟨h0, h1, h2, h3, h4⟩ := blk_five h hs
  exact ⟨h0, h1, h2, h3, h4, h.free 0, h.free 1, h.free 2, h.free 3, h.free 4⟩
/-- A call's device, written into a variable. -/
theorem VarAt.next {W : World} {vS vC vK vF : Value} {f : Nat → Value} (h : VarAt w B b D) (hO : OwnD W w.heap.size vS vC vK vF f E) (hb : Below w.heap.size w W) (hB : B ≤ w.heap.size) : Free5 W b ∧ VarAt (into5 W b vS vC vK E.n vF) B b E ∧ ∃ cs, Blk W b cs 29 := by
  obtain ⟨uS, uC, uK, uF, g, h1, h2⟩ := h
  have k := h2.below hb h2.lt
  exact ⟨free5 k rfl, ⟨vS, vC, vK, vF, f, (into5_other hO k (by decide) (by decide) (by decide) (by decide) _ _ _ _ _).less hB, into5_self k rfl _ _ _ _ _⟩, _, k⟩
/-- A call's device, in a new variable. -/
theorem var_new {W : World} {vS vC vK vF : Value} {f : Nat → Value} (hO : OwnD W B vS vC vK vF f E) : VarAt (W.alloc (.cells #[vS, vC, vK, .int .i64 E.n, vF] 29)) B W.heap.size E :=
  ⟨vS, vC, vK, vF, f, hO.up (below_alloc W _), Blk.new W _ _⟩
end

end Go.Proofs.Ytleemgjbihdbgaa
