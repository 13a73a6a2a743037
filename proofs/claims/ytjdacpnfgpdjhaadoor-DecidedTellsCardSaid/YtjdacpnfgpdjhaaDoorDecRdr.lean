/-
  A block that begins with what a reader has: a command's eight cells, its bytes, whether it is decided; whatever stands behind.
-/
import Derived.Test.YtjdacpnfgpdjhaaDoorDecRow
import Derived.Test.YtjdacpnfgpdjhaaDoorDecMath
import Derived.Test.YtjdacpnfgpdjhaaDoorCmdAt
import Derived.Test.YtjdacpnfgpdjhaaDoorAid
import Derived.Test.YtjdacpnfgpdjhaaDoorSealDo
namespace Go.Proofs.YtjdacpnfgpdjhaaDoor
open Go.RowKit
set_option linter.unusedVariables false
set_option linter.unusedSimpArgs false

/-- Cells written over a block, one behind the other. -/
def putA : Array Value → Nat → List Value → Array Value
  | cs, _, [] => cs
  | cs, o, v :: vs => putA (cs.setIfInBounds o v) (o + 1) vs
theorem Blk.puts : ∀ (vs : List Value) {w : World} {b o : Nat} {cs : Array Value} {T : TypeId}, Blk w b cs T → Blk (w.setCells b o vs) b (putA cs o vs) T
  | [], _, _, _, _, _, h => h
  | v :: vs, _, _, _, _, _, h => Blk.puts vs (h.set _ v)
/-- A command, a text, a sign. -/
def rdL (c : CmdM) (s : ByteArray) (y : Bool) : List Value := [.int .i8 c.kind, .int .i64 c.by_, .int .i64 c.serial, .int .i64 c.dead, .int .i64 c.was, .int .i64 c.lo, .int .i64 c.hi, .int .i8 c.mode, .string s, .bool y]
def RdrAt (w : World) (b : Nat) (T : TypeId) (c : CmdM) (s : ByteArray) (y : Bool) (R : List Value) : Prop := Blk w b (rdL c s y ++ R).toArray T
section
variable {w w' : World} {b B : Nat} {T : TypeId} {c c' : CmdM} {s s' : ByteArray} {y y' : Bool} {R : List Value}
theorem rdL_length (c : CmdM) (s : ByteArray) (y : Bool) : (rdL c s y).length = 10 := rfl
theorem RdrAt.lt (h : RdrAt w b T c s y R) : b < w.heap.size := Blk.lt h
theorem RdrAt.below (h : RdrAt w b T c s y R) (hb : Below B w w') (hB : b < B) : RdrAt w' b T c s y R := Blk.below h hb hB
theorem RdrAt.free (h : RdrAt w b T c s y R) (o : Nat) : w.frozen? ⟨b, o, none⟩ = false := Blk.free h o
theorem RdrAt.there (h : RdrAt w b T c s y R) : w.there b 0 10 := fun j hj => (Blk.there h) j (by simp [rdL]; omega)
theorem RdrAt.put (h : RdrAt w b T c s y R) (c' : CmdM) (s' : ByteArray) (y' : Bool) : RdrAt (w.setCells b 0 (rdL c' s' y')) b T c' s' y' R := by
  have := Blk.puts (o := 0) (rdL c' s' y') h
  have e : putA (rdL c s y ++ R).toArray 0 (rdL c' s' y') = (rdL c' s' y' ++ R).toArray := by
    simp [rdL, putA]
  rw [e] at this
  exact this
theorem RdrAt.cells {k p q d a lo hi m : Int} (h : RdrAt w b T ⟨k, p, q, d, a, lo, hi, m⟩ s y R) :
    w.cell? ⟨b, 0, none⟩ = some (.int .i8 k) ∧ w.cell? ⟨b, 1, none⟩ = some (.int .i64 p) ∧ w.cell? ⟨b, 2, none⟩ = some (.int .i64 q) ∧ w.cell? ⟨b, 3, none⟩ = some (.int .i64 d) ∧
    w.cell? ⟨b, 4, none⟩ = some (.int .i64 a) ∧ w.cell? ⟨b, 5, none⟩ = some (.int .i64 lo) ∧ w.cell? ⟨b, 6, none⟩ = some (.int .i64 hi) ∧ w.cell? ⟨b, 7, none⟩ = some (.int .i8 m) ∧
    w.cell? ⟨b, 8, none⟩ = some (.string s) ∧ w.cell? ⟨b, 9, none⟩ = some (.bool y) := by
  have h : Blk w b _ T := h
  refine ⟨h.cell 0 _ ?_, h.cell 1 _ ?_, h.cell 2 _ ?_, h.cell 3 _ ?_, h.cell 4 _ ?_, h.cell 5 _ ?_, h.cell 6 _ ?_, h.cell 7 _ ?_, h.cell 8 _ ?_, h.cell 9 _ ?_⟩ <;> simp [rdL]
theorem RdrAt.next {v : Value} (h : RdrAt w b T c s y (v :: R)) : w.cell? ⟨b, 10, none⟩ = some v := by
  have h : Blk w b _ T := h
  refine h.cell 10 _ ?_
  simp [rdL]
theorem RdrAt.setNext {v : Value} (h : RdrAt w b T c s y (v :: R)) (u : Value) : RdrAt (w.setCell ⟨b, 10, none⟩ u) b T c s y (u :: R) := by
  have := Blk.set h 10 u
  have e : (rdL c s y ++ v :: R).toArray.setIfInBounds 10 u = (rdL c s y ++ u :: R).toArray := by
    simp [rdL]
  rw [e] at this
  exact this
theorem Only.cellsAt : ∀ (vs : List Value) (o : Nat) {w w' : World}, Only b w w' → Only b w (w'.setCells b o vs)
  | [], _, _, _, h => h
  | v :: vs, o, _, _, h => Only.cellsAt vs (o + 1) (h.setAt o v)
/-- A row of the call's own stands when a block ahead of it is changed. -/
theorem ow_only {n size : Nat} {e : TypeId} {v : Value} {xs : List Value} (h : w.ownsRow B e size v n xs) (ho : Only b w w') (hb : b < B) : w'.ownsRow B e size v n xs := by
  refine ⟨h.1, ?_⟩
  rcases h.2 with h0 | ⟨g, cap, cur, h1, h2, h3, h4⟩
  · exact .inl h0
  · exact .inr ⟨g, cap, cur, h1, h2, (ho.block g (lt_of_block h3) (by intro e; injection e with e; omega)).trans h3, h4⟩
end
end Go.Proofs.YtjdacpnfgpdjhaaDoor
