/-
  num and its reference: the calls that only reckon with numbers, each by its contract.
-/
import Derived.Test.YtneioippiionjaaDoorRows
import Derived.Test.YtneioippiionjaaDoorMem
import Derived.Test.YtneioippiionjaaDoorAid
import Derived.WalkKit
import Derived.Lib.Hide
import Derived.WalkLawsBesides
import Derived.WalkSpells
namespace Go.Proofs.YtneioippiionjaaDoor
open Go.RowKit
set_option linter.unusedVariables false
set_option linter.unusedSimpArgs false

theorem nmay_any (x : Int) (w : World) :
    Calls Tryd.prog 26 #[.int .i64 x] w fun e w' => e = .returned (.bool (mayB x)) ∧ w = w' := by
  go_enter Tryd.func26, Tryd.ntmps26
  go_wp2
  · have h : 1 ≤ x := by assumption
    go_ret
    exact ⟨ret_bool (by simp [mayB, h]), rfl⟩
  · have h : x < 1 := by assumption
    go_ret
    exact ⟨ret_bool (mayB_no (.inl h)).symm, rfl⟩

theorem greatest_any (x : Int) (w : World) (h1 : 1 ≤ x) (h2 : x ≤ 6) :
    Calls Tryd.prog 32 #[.int .i64 x] w fun e w' => e = .returned (.int .i64 (mostOf x)) ∧ w = w' := by
  rcases width_cases h1 h2 with rfl | rfl | rfl | rfl | rfl | rfl
  all_goals
    go_enter Tryd.func32, Tryd.ntmps32
    go_wp2
    go_ret
    exact ⟨rfl, rfl⟩

theorem fits_any (x n : Int) (w : World) :
    Calls Tryd.prog 27 #[.int .i64 x, .int .i64 n] w fun e w' => e = .returned (.bool (fitsB x n)) ∧ w = w' := by
  by_cases h : mayB x = true
  · obtain ⟨h1, h2⟩ := of_mayB h
    have H := Lib.hid h
    by_cases h0 : 0 ≤ n
    · clear h
      go_enter Tryd.func27, Tryd.ntmps27
      go_wp2_with fail
      refine (nmay_any x _).mono ?_
      rintro e w1 ⟨rfl, rfl⟩
      rw [H.out]
      go_wp2_with fail
      refine (greatest_any x _ h1 h2).mono ?_
      rintro e w1 ⟨rfl, rfl⟩
      go_wp2_with fail
      go_ret
      exact ⟨ret_bool (by simp [fitsB, H.out, h0]), rfl⟩
    · have h0' : n < 0 := by omega
      have hd : decide (0 ≤ n) = false := by simp; omega
      clear h h0
      go_enter Tryd.func27, Tryd.ntmps27
      go_wp2_with fail
      refine (nmay_any x _).mono ?_
      rintro e w1 ⟨rfl, rfl⟩
      rw [H.out]
      go_wp2_with fail
      go_ret
      exact ⟨ret_bool (by simp [fitsB, hd]), rfl⟩
  · have h' : mayB x = false := by simpa using h
    have H := Lib.hid h'
    clear h h'
    go_enter Tryd.func27, Tryd.ntmps27
    go_wp2_with fail
    refine (nmay_any x _).mono ?_
    rintro e w1 ⟨rfl, rfl⟩
    rw [H.out]
    go_wp2_with fail
    go_ret
    exact ⟨ret_bool (by simp [fitsB, H.out]), rfl⟩




end Go.Proofs.YtneioippiionjaaDoor
