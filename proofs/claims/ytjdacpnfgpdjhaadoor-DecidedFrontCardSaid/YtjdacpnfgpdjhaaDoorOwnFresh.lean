/-
  'append(T{}, l...)' at the run, of elements of any size: what comes is the empty row as it was, or a row in a block of its own; two rows of a call's own that lie apart.
-/
import Derived.Test.YtjdacpnfgpdjhaaDoorOwnRows
namespace Go.Proofs.YtjdacpnfgpdjhaaDoor
open Go.RowKit
set_option linter.unusedVariables false
set_option linter.unusedSimpArgs false

theorem append_first2 {P : Program} (w : World) (B b : Nat) (t ty e : TypeId) (i : TypeInfo) (z : Value) (size bytes : Nat) (ht : P.underlying t = some (.slice e)) (hi : P.info? e = some i) (hz : i.zero = some z)
    (hsize : i.size = size) (hby : i.bytes = bytes) (hzs : z.cells.size = size) (hsz : 0 < size)
    (g : Nat) (hown : w.ownsRow b e size (.slice (some ⟨g, 0, none⟩) 0 0) 0 []) (hbw : b ≤ w.heap.size)
    (A : Option Addr) (n c : Nat) (xs : List Value) (hA : Lies w B A (n * size) xs) (h63 : n ≤ maxLen) (hbytes : n * bytes ≤ 140737488355328) :
    ∃ A' c' w', (Builtin.append_ #[t, t] ty #[.slice (some ⟨g, 0, none⟩) 0 0, .slice A n c]).run P w = .ok (.slice A' n c') w' ∧ w'.ownsRow b e size (.slice A' n c') n xs ∧ Below w.heap.size w w' ∧ ((Value.slice A' n c' = .slice (some ⟨g, 0, none⟩) 0 0) ∨ w'.ownsRow w.heap.size e size (.slice A' n c') n xs) := by
  rcases Nat.eq_zero_or_pos n with h0 | h0
  · subst h0
    obtain rfl : xs = [] := List.eq_nil_of_length_eq_zero (by rw [hA.1]; omega)
    refine ⟨some ⟨g, 0, none⟩, 0, w, ?_, hown, Below.refl _ _, .inl rfl⟩
    cases A with
    | none => exact run_append_owned_none w b t ty e i size ht hi _ 0 [] hown
    | some ad =>
      have hload := run_loadCells_list (P := P) (w := w) ad [] (fun j v h => by simp at h)
      simp only [List.length_nil] at hload
      simp [Builtin.append_, run_underlying ht, sizeOf, typeInfo, hi, Builtin.lenOf, Builtin.firstCells, hload, Result.andThen, storeCells]
  · obtain ⟨ad, rfl, _, hc⟩ := hA.2 (Nat.mul_pos h0 hsz)
    obtain ⟨v', w', h1, h2, h3⟩ := run_append_arg_grows (P := P) w t ty e i z size bytes ht hi hz hsize hby hzs hsz ⟨g, 0, none⟩ 0 0 [] (by simp) (by intro j u h; simp at h) ad n c xs hA.1 (fun j u h => hc j u h) (by omega) (by omega) (by rw [Nat.zero_add]; exact hbytes)
    rw [Nat.zero_add, List.nil_append] at h2
    obtain ⟨A', c', e1, _, _⟩ := ow_shape h2
    subst e1
    exact ⟨A', c', w', h1, ow_less h2 hbw, (Below.refl _ _).grown h3 (Nat.le_refl _) (by intro k hk; cases hk), .inr h2⟩

/-- An empty row of the call's own; a row. -/
def EmpR (B size : Nat) (e : TypeId) (v : Value) (w : World) : Prop := ∃ g, v = .slice (some ⟨g, 0, none⟩) 0 0 ∧ w.ownsRow B e size v 0 []
def RowR (B size : Nat) (e : TypeId) (n : Nat) (xs : List Value) (v : Value) (w : World) : Prop := ∃ A c, v = .slice A n c ∧ w.ownsRow B e size v n xs
section
variable {B size n g : Nat} {e : TypeId} {xs : List Value} {v : Value} {w w' : World}
theorem EmpR.below (h : EmpR B size e v w) (hb : Below w.heap.size w w') : EmpR B size e v w' := by
  obtain ⟨g, e1, h⟩ := h
  exact ⟨g, e1, ow_up h hb⟩
theorem RowR.below (h : RowR B size e n xs v w) (hb : Below w.heap.size w w') : RowR B size e n xs v w' := by
  obtain ⟨A, c, e1, h⟩ := h
  exact ⟨A, c, e1, ow_up h hb⟩
theorem EmpR.old (h : EmpR B size e v w) (hg : v.ownBlock = some g) : g < w.heap.size := by
  obtain ⟨_, _, h⟩ := h
  exact (h.lt g hg).2
theorem RowR.old (h : RowR B size e n xs v w) (hg : v.ownBlock = some g) : g < w.heap.size := by
  obtain ⟨_, _, _, h⟩ := h
  exact (h.lt g hg).2
end
theorem new_alloc (w : World) (o : Obj) : Below w.heap.size w (w.alloc o) := (Below.refl _ _).alloc (Nat.le_refl _) _

end Go.Proofs.YtjdacpnfgpdjhaaDoor
