/-
  Blocks that are known whole: cells read, written, kept.
-/
import Derived.Test.YtcgifdmjmkfkpaaGeoWhose
import Derived.Deep.MidRow
namespace Go.Proofs.Ytcgifdmjmkfkpaa
open Go.RowKit
set_option linter.unusedVariables false
set_option linter.unusedSimpArgs false

/-- A block that is known whole. -/
def Blk (w : World) (b : Nat) (cs : Array Value) (T : TypeId) : Prop := w.heap[b]? = some (.cells cs T (0, 0))
section
variable {w w' : World} {b c B o : Nat} {T : TypeId} {cs : Array Value} {v : Value}
theorem Blk.new (w : World) (cs : Array Value) (T : TypeId) : Blk (w.alloc (.cells cs T)) w.heap.size cs T := heap_alloc_new w _
theorem Blk.lt (h : Blk w b cs T) : b < w.heap.size := lt_of_block h
theorem Blk.cell (h : Blk w b cs T) (o : Nat) (v : Value) (hv : cs[o]? = some v) : w.cell? ⟨b, o, none⟩ = some v := by
  simp [World.cell?, show w.heap[b]? = _ from h, hv]
theorem Blk.free (h : Blk w b cs T) (o : Nat) : w.frozen? ⟨b, o, none⟩ = false := by simp [World.frozen?, show w.heap[b]? = _ from h]
theorem Blk.below (h : Blk w b cs T) (hb : Below B w w') (hB : b < B) : Blk w' b cs T := (hb.block b hB).trans h
theorem Blk.alloc (h : Blk w b cs T) (ob : Obj) : Blk (w.alloc ob) b cs T := h.below ((Below.refl w.heap.size w).alloc (Nat.le_refl _) ob) h.lt
theorem Blk.drew (h : Blk w b cs T) : Blk w.drew b cs T := h
theorem Blk.set (h : Blk w b cs T) (o : Nat) (v : Value) : Blk (w.setCell ⟨b, o, none⟩ v) b (cs.setIfInBounds o v) T := by
  have hlt := lt_of_block h
  have h' : w.heap[b] = .cells cs T (0, 0) := by simpa [Array.getElem?_eq_getElem hlt] using (show w.heap[b]? = _ from h)
  show (w.heap.modify b _)[b]? = _
  rw [Array.getElem?_eq_getElem (by simpa using hlt), Array.getElem_modify_self, h']
  rfl
theorem Blk.other (h : Blk w b cs T) (hne : b ≠ c) (o : Nat) (v : Value) : Blk (w.setCell ⟨c, o, none⟩ v) b cs T :=
  (Below.heap_setCell w ⟨c, o, none⟩ v b hne).trans h
theorem Blk.range (h : Blk w b cs T) : w.rangeAt b 0 cs.toList := fun j v hv => by
  rw [Nat.zero_add]
  exact h.cell j v (by simpa using hv)
theorem Blk.there (h : Blk w b cs T) : w.there b 0 cs.size := fun j hj => by
  rw [Nat.zero_add]
  exact ⟨by rw [h.cell j cs[j] (by simp [hj])]; rfl, h.free j⟩
end

/-- Cells in a row are written: what lies elsewhere is as it was. -/
theorem setCells_below : ∀ (vs : List Value) (o : Nat) {w w' : World} {b B : Nat}, Below B w w' → B ≤ b → Below B w (w'.setCells b o vs)
  | [], _, _, _, _, _, h, _ => h
  | v :: vs, o, _, _, _, _, h, hB => setCells_below vs (o + 1) (h.setCell (by simpa using hB) v) hB

end Go.Proofs.Ytcgifdmjmkfkpaa
