/-
  '[]byte(s)' that is written to: the block of the new bytes, what its cells hold, a byte stored.
-/
import Derived.Test.YtgllamjgagbblaaDoorText
namespace Go.Proofs.YtgllamjgagbblaaDoor
open Go.RowKit
set_option linter.unusedVariables false
set_option linter.unusedSimpArgs false

/-- The block g begins with these bytes, and none of them is frozen. -/
def FreshAt (w : World) (g : Nat) (e : TypeId) (cs : List Nat) : Prop := ∃ cur hi, w.heap[g]? = some (.cells cur e (cur.size, hi)) ∧ cs.length ≤ cur.size ∧ cur.toList.take cs.length = bv cs

section
variable {w w' : World} {g B : Nat} {e : TypeId} {cs : List Nat}
theorem FreshAt.lt (h : FreshAt w g e cs) : g < w.heap.size := by
  obtain ⟨cur, hi, h1, _⟩ := h
  exact lt_of_block h1
theorem FreshAt.cell (h : FreshAt w g e cs) {j : Nat} (hj : j < cs.length) : w.cell? ⟨g, j, none⟩ = some (.int .u8 (cs[j] : Int)) := by
  obtain ⟨cur, hi, h1, h2, h3⟩ := h
  have e1 : w.cell? ⟨g, j, none⟩ = cur[j]? := by simp [World.cell?, h1]
  have e2 : (cur.toList.take cs.length)[j]? = cur[j]? := by rw [List.getElem?_take, if_pos hj, Array.getElem?_toList]
  rw [e1, ← e2, h3, bv_at hj]
theorem FreshAt.free (h : FreshAt w g e cs) {j : Nat} (hj : j < cs.length) : w.frozen? ⟨g, j, none⟩ = false := by
  obtain ⟨cur, hi, h1, h2, h3⟩ := h
  simp [World.frozen?, h1]
  omega
theorem FreshAt.lies (h : FreshAt w g e cs) : Lies w w.heap.size (some ⟨g, 0, none⟩) cs.length (bv cs) := by
  refine ⟨bv_length cs, fun _ => ⟨_, rfl, h.lt, fun j u hj => ?_⟩⟩
  have hjl : j < cs.length := by
    have := (List.getElem?_eq_some_iff.1 hj).1
    rwa [bv_length] at this
  have hc : (⟨g, 0, none⟩ : Addr).add j = ⟨g, j, none⟩ := by
    unfold Addr.add
    by_cases h0 : j = 0 <;> simp [h0]
  rw [hc, h.cell hjl, ← hj, bv_at hjl]
theorem FreshAt.set (h : FreshAt w g e cs) (j b : Nat) : FreshAt (w.setCell ⟨g, j, none⟩ (.int .u8 (b : Int))) g e (cs.set j b) := by
  obtain ⟨cur, hi, h1, h2, h3⟩ := h
  have hlt := lt_of_block h1
  have h' : w.heap[g] = .cells cur e (cur.size, hi) := by simpa [Array.getElem?_eq_getElem hlt] using h1
  refine ⟨cur.setIfInBounds j (.int .u8 (b : Int)), hi, ?_, by rw [List.length_set]; simpa using h2, ?_⟩
  · show (w.heap.modify g _)[g]? = _
    rw [Array.getElem?_eq_getElem (by simpa using hlt), Array.getElem_modify_self, h']
    simp
  · rw [Array.toList_setIfInBounds, List.length_set, List.take_set, h3]
    exact List.map_set.symm
theorem FreshAt.below (h : FreshAt w g e cs) (hb : Below B w w') (hg : g < B) : FreshAt w' g e cs := by
  obtain ⟨cur, hi, h1, h2, h3⟩ := h
  exact ⟨cur, hi, (hb.block g hg).trans h1, h2, h3⟩
theorem below_set (h : Below B w w') (hg : B ≤ g) (j : Nat) (u : Value) : Below B w (w'.setCell ⟨g, j, none⟩ u) :=
  ⟨h.os, h.tape, h.output, by simpa [World.setCell] using h.size, fun k hk => (Below.heap_setCell w' ⟨g, j, none⟩ u k (by show k ≠ g; omega)).trans (h.block k hk)⟩
end

theorem own_below {w w' : World} {base n : Nat} {e : TypeId} {v : Value} {xs : List Value} (h : w.ownsRow base e 1 v n xs) (hb : Below w.heap.size w w') : w'.ownsRow base e 1 v n xs := by
  refine ⟨h.1, ?_⟩
  rcases h.2 with h0 | ⟨g, cap, cur, h1, h2, h3, h4⟩
  · exact .inl h0
  · exact .inr ⟨g, cap, cur, h1, h2, (hb.block g (lt_of_block h3)).trans h3, h4⟩

/-- '[]byte(s)'. -/
theorem str_fresh {P : Program} (w : World) (src dst e : TypeId) (s : ByteArray) (hs : P.underlying src = some .string) (hd : P.underlying dst = some (.slice e)) (he : P.underlying e = some (.int .u8)) :
    ∃ (c : Nat) (w' : World), (convert src dst (.string s)).run P w = .ok (.slice (some ⟨w.heap.size, 0, none⟩) s.size c) w' ∧ FreshAt w' w.heap.size e (nats (bytesI s)) ∧ Below w.heap.size w w' := by
  refine ⟨_, _, run_bytes_of_string (P := P) w src dst e s hs hd he, ⟨bytesRow s (grownCap w s.size 0 e), (bytesRow s (grownCap w s.size 0 e)).size + 1, ?_, ?_, ?_⟩, ?_⟩
  · have h := heap_alloc_new w.drew (.cells (bytesRow s (grownCap w s.size 0 e)) e ((bytesRow s (grownCap w s.size 0 e)).size, (bytesRow s (grownCap w s.size 0 e)).size + 1))
    exact h
  · rw [nats_length, bytesI_length]
    generalize grownCap w s.size 0 e = cap
    unfold bytesRow
    rw [Array.size_append, Array.size_map]
    exact Nat.le_add_right _ _
  · rw [bv_nats (bytesI_bytes s), nats_length, bytesI_length]
    generalize grownCap w s.size 0 e = cap
    unfold bytesRow bytesI
    rw [Array.toList_append, List.take_left' (by rw [Array.toList_map, List.length_map, Array.length_toList]; rfl), Array.toList_map, List.map_map]
    rfl
  · exact (Below.refl _ _).drew.alloc (Nat.le_refl _) _

end Go.Proofs.YtgllamjgagbblaaDoor
