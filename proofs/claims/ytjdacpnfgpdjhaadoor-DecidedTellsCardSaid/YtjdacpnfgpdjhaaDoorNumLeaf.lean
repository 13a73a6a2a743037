/-
  num and its reference: the calls that only reckon with numbers, each by its contract.
-/
import Derived.Test.YtjdacpnfgpdjhaaDoorRows
import Derived.Test.YtjdacpnfgpdjhaaDoorMem
import Derived.Test.YtjdacpnfgpdjhaaDoorAid
import Derived.WalkKit
import Derived.Lib.Hide
import Derived.WalkLawsBesides
import Derived.WalkSpells
namespace Go.Proofs.YtjdacpnfgpdjhaaDoor
open Go.RowKit
set_option linter.unusedVariables false
set_option linter.unusedSimpArgs false

theorem nmay_any (x : Int) (w : World) :
    Calls Tryd.prog 82 #[.int .i64 x] w fun e w' => e = .returned (.bool (mayB x)) ∧ w = w' := by
  go_enter Tryd.func82, Tryd.ntmps82
  go_wp2
  · have h : 1 ≤ x := by assumption
    go_ret
    exact ⟨ret_bool (by simp [mayB, h]), rfl⟩
  · have h : x < 1 := by assumption
    go_ret
    exact ⟨ret_bool (mayB_no (.inl h)).symm, rfl⟩

theorem greatest_any (x : Int) (w : World) (h1 : 1 ≤ x) (h2 : x ≤ 6) :
    Calls Tryd.prog 92 #[.int .i64 x] w fun e w' => e = .returned (.int .i64 (mostOf x)) ∧ w = w' := by
  rcases width_cases h1 h2 with rfl | rfl | rfl | rfl | rfl | rfl
  all_goals
    go_enter Tryd.func92, Tryd.ntmps92
    go_wp2
    go_ret
    exact ⟨rfl, rfl⟩

theorem fits_any (x n : Int) (w : World) :
    Calls Tryd.prog 83 #[.int .i64 x, .int .i64 n] w fun e w' => e = .returned (.bool (fitsB x n)) ∧ w = w' := by
  by_cases h : mayB x = true
  · obtain ⟨h1, h2⟩ := of_mayB h
    have H := Lib.hid h
    by_cases h0 : 0 ≤ n
    · clear h
      go_enter Tryd.func83, Tryd.ntmps83
      go_wp2_with fail
      refine (nmay_any x _).mono ?_
      rintro e w1 ⟨rfl, rfl⟩
      rw [H.out]
      go_wp2_with fail
      refine (greatest_any x _ h1 h2).mono ?_
      rintro e w1 ⟨rfl, rfl⟩
      go_wp2_with fail
      go_ret
      exact ⟨ret_bool (by simp [fitsB, H.out, h0]), rfl⟩
    · have h0' : n < 0 := by omega
      have hd : decide (0 ≤ n) = false := by simp; omega
      clear h h0
      go_enter Tryd.func83, Tryd.ntmps83
      go_wp2_with fail
      refine (nmay_any x _).mono ?_
      rintro e w1 ⟨rfl, rfl⟩
      rw [H.out]
      go_wp2_with fail
      go_ret
      exact ⟨ret_bool (by simp [fitsB, hd]), rfl⟩
  · have h' : mayB x = false := by simpa using h
    have H := Lib.hid h'
    clear h h'
    go_enter Tryd.func83, Tryd.ntmps83
    go_wp2_with fail
    refine (nmay_any x _).mono ?_
    rintro e w1 ⟨rfl, rfl⟩
    rw [H.out]
    go_wp2_with fail
    go_ret
    exact ⟨ret_bool (by simp [fitsB, H.out]), rfl⟩

/-- The reference's greatest number; -1 of no width. -/
theorem most_yes (x : Int) (w : World) (h1 : 1 ≤ x) (h2 : x ≤ 6) :
    Calls Tryd.prog 62 #[.int .i64 x] w fun e w' => e = .returned (.int .i64 (mostOf x)) ∧ w = w' := by
  obtain ⟨X, rfl⟩ := Int.eq_ofNat_of_zero_le (show 0 ≤ x by omega)
  have hX1 : 1 ≤ X := by omega
  have hX2 : X ≤ 6 := by omega
  have hm := Lib.hid (min_pw h1 h2)
  go_enter Tryd.func62, Tryd.ntmps62
  go_wp2
  go_loop [3, 4] (fun n i => ∃ k : Nat, k ≤ X ∧ i = .int .i64 k ∧ n = .int .i64 (pw k)) (fun _ i => X - (intOf i).toNat)
  case atStart => exact ⟨0, Nat.zero_le _, rfl, rfl⟩
  case round =>
    obtain ⟨k, hk, rfl, rfl⟩ := hrel
    have hp := pw_pos k
    have hl := pw_le (k := k) (by omega)
    have hs := Lib.hid (pw_succ k)
    by_cases hlt : k < X
    · have hl5 : pw k ≤ 1099511627776 := by
        have := pw_le (k := k + 1) (by omega)
        rw [pw_succ] at this
        omega
      go_wp2
      go_round
      case rel => exact ⟨k + 1, by omega, by go_num, by rw [hs.out]⟩
      case measure => simp [intOf]; omega
    · have hkx : k = X := by omega
      subst hkx
      rw [Int.toNat_natCast] at hm
      by_cases hmn : pw k - 1 ≤ 1099511627776
      · go_wp2
        go_ret
        exact ⟨ret_int (by rw [hm.out, if_pos hmn]), rfl⟩
      · go_wp2
        go_ret
        exact ⟨ret_int (by rw [hm.out, if_neg (by omega)]), rfl⟩

theorem most_no (x : Int) (w : World) (h : x < 1 ∨ 6 < x) :
    Calls Tryd.prog 62 #[.int .i64 x] w fun e w' => e = .returned (.int .i64 (-1)) ∧ w = w' := by
  rcases h with h | h
  · go_enter Tryd.func62, Tryd.ntmps62
    go_wp2
    go_ret
    exact ⟨rfl, rfl⟩
  · have h' : ¬ x < 1 := by omega
    go_enter Tryd.func62, Tryd.ntmps62
    go_wp2
    go_ret
    exact ⟨rfl, rfl⟩

theorem refFits_any (x n : Int) (w : World) :
    Calls Tryd.prog 64 #[.int .i64 n, .int .i64 x] w fun e w' => e = .returned (.bool (fitsB x n)) ∧ w = w' := by
  by_cases h0 : 0 ≤ n
  · by_cases h : mayB x = true
    · obtain ⟨h1, h2⟩ := of_mayB h
      have H := Lib.hid h
      clear h
      go_enter Tryd.func64, Tryd.ntmps64
      go_wp2_with fail
      refine (most_yes x _ h1 h2).mono ?_
      rintro e w1 ⟨rfl, rfl⟩
      go_wp2_with fail
      go_ret
      exact ⟨ret_bool (by simp [fitsB, H.out, h0]), rfl⟩
    · have h' : mayB x = false := by simpa using h
      have hx := not_mayB h'
      have H := Lib.hid h'
      have HX := Lib.hid hx
      clear h h' hx
      go_enter Tryd.func64, Tryd.ntmps64
      go_wp2_with fail
      refine (most_no x _ HX.out).mono ?_
      rintro e w1 ⟨rfl, rfl⟩
      go_wp2_with fail
      go_ret
      exact ⟨ret_bool (by simp [fitsB, H.out]; omega), rfl⟩
  · have h0' : n < 0 := by omega
    have hd : decide (0 ≤ n) = false := by simp; omega
    clear h0
    go_enter Tryd.func64, Tryd.ntmps64
    go_wp2_with fail
    go_ret
    exact ⟨ret_bool (by simp [fitsB, hd]), rfl⟩

end Go.Proofs.YtjdacpnfgpdjhaaDoor
