/-
  geo: which geometries may be, the document's own answer too.
-/
import Derived.Test.YtcgifdmjmkfkpaaGeoWhose
namespace Go.Proofs.Ytcgifdmjmkfkpaa
open Go.RowKit
set_option linter.unusedVariables false
set_option linter.unusedSimpArgs false

/-- The first condition that falls, or none. -/
theorem may_cases (g : G) :
    (mayG g = false ∧ (g.N < 1 ∨ 16 < g.N)) ∨
    (mayG g = false ∧ (1 ≤ g.N ∧ g.N ≤ 16) ∧ (g.S < 1 ∨ g.N < g.S)) ∨
    (mayG g = false ∧ (1 ≤ g.N ∧ g.N ≤ 16) ∧ (1 ≤ g.S ∧ g.S ≤ g.N) ∧ (g.B < 1 ∨ 64 < g.B)) ∨
    (mayG g = false ∧ (1 ≤ g.N ∧ g.N ≤ 16) ∧ (1 ≤ g.S ∧ g.S ≤ g.N) ∧ (1 ≤ g.B ∧ g.B ≤ 64) ∧ (g.P < 1 ∨ 8 < g.P)) ∨
    (mayG g = false ∧ (1 ≤ g.N ∧ g.N ≤ 16) ∧ (1 ≤ g.S ∧ g.S ≤ g.N) ∧ (1 ≤ g.B ∧ g.B ≤ 64) ∧ (1 ≤ g.P ∧ g.P ≤ 8) ∧ (g.J < g.P + 2 ∨ 64 < g.J)) ∨
    (mayG g = false ∧ (1 ≤ g.N ∧ g.N ≤ 16) ∧ (1 ≤ g.S ∧ g.S ≤ g.N) ∧ (1 ≤ g.B ∧ g.B ≤ 64) ∧ (1 ≤ g.P ∧ g.P ≤ 8) ∧ (g.P + 2 ≤ g.J ∧ g.J ≤ 64) ∧ (g.L < 8 * g.S ∨ 512 < g.L)) ∨
    (mayG g = false ∧ (1 ≤ g.N ∧ g.N ≤ 16) ∧ (1 ≤ g.S ∧ g.S ≤ g.N) ∧ (1 ≤ g.B ∧ g.B ≤ 64) ∧ (1 ≤ g.P ∧ g.P ≤ 8) ∧ (g.P + 2 ≤ g.J ∧ g.J ≤ 64) ∧ (8 * g.S ≤ g.L ∧ g.L ≤ 512) ∧ (g.E < 1)) ∨
    (mayG g = false ∧ (1 ≤ g.N ∧ g.N ≤ 16) ∧ (1 ≤ g.S ∧ g.S ≤ g.N) ∧ (1 ≤ g.B ∧ g.B ≤ 64) ∧ (1 ≤ g.P ∧ g.P ≤ 8) ∧ (g.P + 2 ≤ g.J ∧ g.J ≤ 64) ∧ (8 * g.S ≤ g.L ∧ g.L ≤ 512) ∧ (1 ≤ g.E) ∧ (g.T ≤ g.E)) ∨
    (mayG g = false ∧ (1 ≤ g.N ∧ g.N ≤ 16) ∧ (1 ≤ g.S ∧ g.S ≤ g.N) ∧ (1 ≤ g.B ∧ g.B ≤ 64) ∧ (1 ≤ g.P ∧ g.P ≤ 8) ∧ (g.P + 2 ≤ g.J ∧ g.J ≤ 64) ∧ (8 * g.S ≤ g.L ∧ g.L ≤ 512) ∧ (1 ≤ g.E) ∧ (g.E < g.T) ∧ (1048576 < g.T)) ∨
    (mayG g = true ∧ (1 ≤ g.N ∧ g.N ≤ 16) ∧ (1 ≤ g.S ∧ g.S ≤ g.N) ∧ (1 ≤ g.B ∧ g.B ≤ 64) ∧ (1 ≤ g.P ∧ g.P ≤ 8) ∧ (g.P + 2 ≤ g.J ∧ g.J ≤ 64) ∧ (8 * g.S ≤ g.L ∧ g.L ≤ 512) ∧ (1 ≤ g.E) ∧ (g.E < g.T) ∧ (g.T ≤ 1048576)) := by
  by_cases h0 : 1 ≤ g.N ∧ g.N ≤ 16
  rotate_left
  · exact .inl ⟨may_no (fun h => h0 (by simp only [h, and_self])), by omega⟩
  by_cases h1 : 1 ≤ g.S ∧ g.S ≤ g.N
  rotate_left
  · exact .inr (.inl ⟨may_no (fun h => h1 (by simp only [h, and_self])), h0, by omega⟩)
  by_cases h2 : 1 ≤ g.B ∧ g.B ≤ 64
  rotate_left
  · exact .inr (.inr (.inl ⟨may_no (fun h => h2 (by simp only [h, and_self])), h0, h1, by omega⟩))
  by_cases h3 : 1 ≤ g.P ∧ g.P ≤ 8
  rotate_left
  · exact .inr (.inr (.inr (.inl ⟨may_no (fun h => h3 (by simp only [h, and_self])), h0, h1, h2, by omega⟩)))
  by_cases h4 : g.P + 2 ≤ g.J ∧ g.J ≤ 64
  rotate_left
  · exact .inr (.inr (.inr (.inr (.inl ⟨may_no (fun h => h4 (by simp only [h, and_self])), h0, h1, h2, h3, by omega⟩))))
  by_cases h5 : 8 * g.S ≤ g.L ∧ g.L ≤ 512
  rotate_left
  · exact .inr (.inr (.inr (.inr (.inr (.inl ⟨may_no (fun h => h5 (by simp only [h, and_self])), h0, h1, h2, h3, h4, by omega⟩)))))
  by_cases h6 : 1 ≤ g.E
  rotate_left
  · exact .inr (.inr (.inr (.inr (.inr (.inr (.inl ⟨may_no (fun h => h6 (by simp only [h, and_self])), h0, h1, h2, h3, h4, h5, by omega⟩))))))
  by_cases h7 : g.E < g.T
  rotate_left
  · exact .inr (.inr (.inr (.inr (.inr (.inr (.inr (.inl ⟨may_no (fun h => h7 (by simp only [h, and_self])), h0, h1, h2, h3, h4, h5, h6, by omega⟩)))))))
  by_cases h8 : g.T ≤ 1048576
  rotate_left
  · exact .inr (.inr (.inr (.inr (.inr (.inr (.inr (.inr (.inl ⟨may_no (fun h => h8 (by simp only [h, and_self])), h0, h1, h2, h3, h4, h5, h6, h7, by omega⟩))))))))
  exact .inr (.inr (.inr (.inr (.inr (.inr (.inr (.inr (.inr (⟨may_yes ⟨h0.1, h0.2, h1.1, h1.2, h2.1, h2.2, h3.1, h3.2, h4.1, h4.2, h5.1, h5.2, h6, h7, h8⟩, h0, h1, h2, h3, h4, h5, h6, h7, h8⟩)))))))))

set_option maxHeartbeats 1000000 in
theorem may_any (g : G) (w : World) :
    Calls Try.prog 7 #[.agg #[.int .i64 g.N, .int .i64 g.S, .int .i64 g.B, .int .i64 g.P, .int .i64 g.J, .int .i64 g.L, .int .i64 g.E, .int .i64 g.T]] w fun e w' => e = .returned (.bool (mayG g)) ∧ Below w.heap.size w w' := by
  rcases may_cases g with h | h | h | h | h | h | h | h | h | h
  all_goals
    have H := Lib.hid h.1
    replace h := h.2
    go_enter Try.func7, Try.ntmps7
    go_wp2_with (first
      | (go_at_call 31; refine (within_yes _ _ _ _ (by omega) (by omega)).mono ?_; rintro e w1 ⟨rfl, rfl⟩)
      | (go_at_call 31; refine (within_no _ _ _ _ (by omega)).mono ?_; rintro e w1 ⟨rfl, rfl⟩))
    go_ret
    exact ⟨ret_bool (by rw [H.out]; try (simp; omega)), (Below.refl _ _).alloc (Nat.le_refl _) _⟩

set_option maxHeartbeats 1000000 in
theorem refMay_any (g : G) (w : World) :
    Calls Try.prog 8 #[.agg #[.int .i64 g.N, .int .i64 g.S, .int .i64 g.B, .int .i64 g.P, .int .i64 g.J, .int .i64 g.L, .int .i64 g.E, .int .i64 g.T]] w fun e w' => e = .returned (.bool (mayG g)) ∧ Below w.heap.size w w' := by
  rcases may_cases g with h | h | h | h | h | h | h | h | h | h
  all_goals
    have H := Lib.hid h.1
    replace h := h.2
    go_enter Try.func8, Try.ntmps8
    go_wp2_with (first
      | (go_at_call 32; refine (in_yes _ _ _ _ (by omega) (by omega)).mono ?_; rintro e w1 ⟨rfl, rfl⟩)
      | (go_at_call 32; refine (in_no _ _ _ _ (by omega)).mono ?_; rintro e w1 ⟨rfl, rfl⟩))
    go_ret
    exact ⟨ret_bool (by rw [H.out]; try (simp; omega)), (Below.refl _ _).alloc (Nat.le_refl _) _⟩

end Go.Proofs.Ytcgifdmjmkfkpaa
