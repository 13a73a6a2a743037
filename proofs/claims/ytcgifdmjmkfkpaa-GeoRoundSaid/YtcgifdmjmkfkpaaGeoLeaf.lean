/-
  geo: the calls that only reckon with numbers, each by its contract.
-/
import Derived.Test.YtcgifdmjmkfkpaaRows
import Derived.Test.YtcgifdmjmkfkpaaGeoMath
import Derived.WalkKit
import Derived.Lib.Hide
import Derived.WalkLawsBesides
import Derived.WalkSpells
namespace Go.Proofs.Ytcgifdmjmkfkpaa
open Go.RowKit
set_option linter.unusedVariables false
set_option linter.unusedSimpArgs false

theorem ret_int {k : IntKind} {a b : Int} (h : a = b) : Ending.returned (.int k a) = .returned (.int k b) := by rw [h]
theorem ret_bool {a b : Bool} (h : a = b) : Ending.returned (.bool a) = .returned (.bool b) := by rw [h]

theorem within_yes (n a b : Int) (w : World) (h1 : a ≤ n) (h2 : n ≤ b) :
    Calls Try.prog 31 #[.int .i64 n, .int .i64 a, .int .i64 b] w fun e w' => e = .returned (.bool true) ∧ w = w' := by
  go_enter Try.func31, Try.ntmps31
  go_wp2
  go_ret
  exact ⟨rfl, rfl⟩
theorem within_no (n a b : Int) (w : World) (h : n < a ∨ b < n) :
    Calls Try.prog 31 #[.int .i64 n, .int .i64 a, .int .i64 b] w fun e w' => e = .returned (.bool false) ∧ w = w' := by
  by_cases h1 : a ≤ n
  · have h2 : b < n := by omega
    clear h
    go_enter Try.func31, Try.ntmps31
    go_wp2
    go_ret
    exact ⟨ret_bool (by simp; omega), rfl⟩
  · have h2 : n < a := by omega
    clear h h1
    go_enter Try.func31, Try.ntmps31
    go_wp2
    go_ret
    exact ⟨rfl, rfl⟩
theorem in_yes (n a b : Int) (w : World) (h1 : a ≤ n) (h2 : n ≤ b) :
    Calls Try.prog 32 #[.int .i64 n, .int .i64 a, .int .i64 b] w fun e w' => e = .returned (.bool true) ∧ w = w' := by
  go_enter Try.func32, Try.ntmps32
  go_wp2
  go_ret
  exact ⟨rfl, rfl⟩
theorem in_no (n a b : Int) (w : World) (h : n < a ∨ b < n) :
    Calls Try.prog 32 #[.int .i64 n, .int .i64 a, .int .i64 b] w fun e w' => e = .returned (.bool false) ∧ w = w' := by
  by_cases h1 : a ≤ n
  · have h2 : b < n := by omega
    clear h
    go_enter Try.func32, Try.ntmps32
    go_wp2
    go_ret
    exact ⟨ret_bool (by simp; omega), rfl⟩
  · have h2 : n < a := by omega
    clear h h1
    go_enter Try.func32, Try.ntmps32
    go_wp2
    go_ret
    exact ⟨rfl, rfl⟩

theorem end_any (s : St) (hs : Small s) (w : World) :
    Calls Try.prog 34 #[.agg #[.int .i64 s.f, .int .i64 s.t, .int .i64 s.e]] w fun e w' => e = .returned (.int .i64 (endV s)) ∧ Below w.heap.size w w' := by
  have hb := endV_bd hs
  have hs' := hs
  unfold Small at hs'
  have h1 : s.f + s.t * s.e ≤ 16004000 := hb.2.2.2
  clear hs
  have H := Lib.hid (show endV s = s.f + s.t * s.e from rfl)
  go_enter Try.func34, Try.ntmps34
  go_wp2
  go_ret
  exact ⟨ret_int (by rw [H.out]), (Below.refl _ _).alloc (Nat.le_refl _) _⟩

theorem at_any (s : St) (x k : Int) (hs : Small s) (w : World) :
    Calls Try.prog 35 #[.agg #[.int .i64 s.f, .int .i64 s.t, .int .i64 s.e], .int .i64 x, .int .i64 k] w fun e w' => e = .returned (.int .i64 (atV s x k)) ∧ Below w.heap.size w w' := by
  have hs' := hs
  unfold Small at hs'
  rcases at_cases s x k with ⟨h1, h2, h3, h4, h5⟩ | ⟨h5, h⟩
  · have hb := at_bd hs ⟨h1, h2, h3, h4⟩
    have H := Lib.hid (atV_yes h5)
    clear h5 hs
    go_enter Try.func35, Try.ntmps35
    go_wp2
    go_ret
    exact ⟨ret_int (by rw [H.out]), (Below.refl _ _).alloc (Nat.le_refl _) _⟩
  · have H := Lib.hid (atV_no h5)
    clear h5 hs
    rcases h with h1 | ⟨h1, h2⟩ | ⟨h1, h2, h3⟩ | ⟨h1, h2, h3, h4⟩
    all_goals
      go_enter Try.func35, Try.ntmps35
      go_wp2
      go_ret
      exact ⟨ret_int (by rw [H.out]), (Below.refl _ _).alloc (Nat.le_refl _) _⟩

theorem has_any (s : St) (x : Int) (hs : Small s) (w : World) :
    Calls Try.prog 39 #[.agg #[.int .i64 s.f, .int .i64 s.t, .int .i64 s.e], .int .i64 x] w fun e w' => e = .returned (.bool (hasV s x)) ∧ Below w.heap.size w w' := by
  have H := Lib.hid (show hasV s x = decide (s.f ≤ x ∧ x < endV s) from rfl)
  have HS := Lib.hid hs
  clear hs
  by_cases h1 : s.f ≤ x
  · go_enter Try.func39, Try.ntmps39
    go_wp2_with fail
    refine (end_any s HS.out _).mono ?_
    rintro e w1 ⟨rfl, hb⟩
    go_wp2_with fail
    go_ret
    exact ⟨ret_bool (by rw [H.out]; simp [h1]), ((Below.refl _ _).alloc (Nat.le_refl _) _).trans (hb.mono (by simp))⟩
  · have h2 : x < s.f := by omega
    clear h1
    go_enter Try.func39, Try.ntmps39
    go_wp2_with fail
    go_ret
    exact ⟨ret_bool (by rw [H.out]; simp; omega), (Below.refl _ _).alloc (Nat.le_refl _) _⟩

end Go.Proofs.Ytcgifdmjmkfkpaa
