/-
  geo: the calls that only reckon with numbers; which geometries may be: each by its contract.
-/
import Derived.Test.YtaegkpfjopajpaaDoorAid
import Derived.Test.YtaegkpfjopajpaaDoorGeoMath
import Derived.Deep.QuietTactic
import Derived.BigQuiet
import Derived.Deep.RegionHeld3
import Derived.Deep.DrawnRows
namespace Go.Proofs.YtaegkpfjopajpaaDoor
open Go.RowKit
set_option linter.unusedVariables false
set_option linter.unusedSimpArgs false

theorem within_yes (n a b : Int) (w : World) (h1 : a ≤ n) (h2 : n ≤ b) :
    Calls Tryd.prog 55 #[.int .i64 n, .int .i64 a, .int .i64 b] w fun e w' => e = .returned (.bool true) ∧ w = w' := by
  go_enter Tryd.func55, Tryd.ntmps55
  go_wp2
  go_ret
  exact ⟨rfl, rfl⟩
theorem within_no (n a b : Int) (w : World) (h : n < a ∨ b < n) :
    Calls Tryd.prog 55 #[.int .i64 n, .int .i64 a, .int .i64 b] w fun e w' => e = .returned (.bool false) ∧ w = w' := by
  by_cases h1 : a ≤ n
  · have h2 : b < n := by omega
    clear h
    go_enter Tryd.func55, Tryd.ntmps55
    go_wp2
    go_ret
    exact ⟨ret_bool (by simp; omega), rfl⟩
  · have h2 : n < a := by omega
    clear h h1
    go_enter Tryd.func55, Tryd.ntmps55
    go_wp2
    go_ret
    exact ⟨rfl, rfl⟩
theorem in_yes (n a b : Int) (w : World) (h1 : a ≤ n) (h2 : n ≤ b) :
    Calls Tryd.prog 39 #[.int .i64 n, .int .i64 a, .int .i64 b] w fun e w' => e = .returned (.bool true) ∧ w = w' := by
  go_enter Tryd.func39, Tryd.ntmps39
  go_wp2
  go_ret
  exact ⟨rfl, rfl⟩
theorem in_no (n a b : Int) (w : World) (h : n < a ∨ b < n) :
    Calls Tryd.prog 39 #[.int .i64 n, .int .i64 a, .int .i64 b] w fun e w' => e = .returned (.bool false) ∧ w = w' := by
  by_cases h1 : a ≤ n
  · have h2 : b < n := by omega
    clear h
    go_enter Tryd.func39, Tryd.ntmps39
    go_wp2
    go_ret
    exact ⟨ret_bool (by simp; omega), rfl⟩
  · have h2 : n < a := by omega
    clear h h1
    go_enter Tryd.func39, Tryd.ntmps39
    go_wp2
    go_ret
    exact ⟨rfl, rfl⟩
theorem end_any (s : St) (hs : Small s) (w : World) :
    Calls Tryd.prog 52 #[.agg #[.int .i64 s.f, .int .i64 s.t, .int .i64 s.e]] w fun e w' => e = .returned (.int .i64 (endV s)) ∧ Below w.heap.size w w' := by
  have hb := endV_bd hs
  have hs' := hs
  unfold Small at hs'
  have h1 : s.f + s.t * s.e ≤ 16004000 := hb.2.2.2
  clear hs
  have H := Lib.hid (show endV s = s.f + s.t * s.e from rfl)
  go_enter Tryd.func52, Tryd.ntmps52
  go_wp2
  go_ret
  exact ⟨ret_int (by rw [H.out]), (Below.refl _ _).alloc (Nat.le_refl _) _⟩
theorem has_any (s : St) (x : Int) (hs : Small s) (w : World) :
    Calls Tryd.prog 64 #[.agg #[.int .i64 s.f, .int .i64 s.t, .int .i64 s.e], .int .i64 x] w fun e w' => e = .returned (.bool (hasV s x)) ∧ Below w.heap.size w w' := by
  have H := Lib.hid (show hasV s x = decide (s.f ≤ x ∧ x < endV s) from rfl)
  have HS := Lib.hid hs
  clear hs
  by_cases h1 : s.f ≤ x
  · go_enter Tryd.func64, Tryd.ntmps64
    go_wp2_with fail
    refine (end_any s HS.out _).mono ?_
    rintro e w1 ⟨rfl, hb⟩
    go_wp2_with fail
    go_ret
    exact ⟨ret_bool (by rw [H.out]; simp [h1]), ((Below.refl _ _).alloc (Nat.le_refl _) _).trans (hb.mono (by simp))⟩
  · have h2 : x < s.f := by omega
    clear h1
    go_enter Tryd.func64, Tryd.ntmps64
    go_wp2_with fail
    go_ret
    exact ⟨ret_bool (by rw [H.out]; simp; omega), (Below.refl _ _).alloc (Nat.le_refl _) _⟩
theorem whose_any (s : St) (x : Int) (hs : Small s) (hh : hasV s x = true) (w : World) :
    Calls Tryd.prog 72 #[.agg #[.int .i64 s.f, .int .i64 s.t, .int .i64 s.e], .int .i64 x] w fun e w' => e = .returned (.tuple #[.int .i64 ((x - s.f) / s.e), .int .i64 ((x - s.f) % s.e)]) ∧ Below w.heap.size w w' := by
  have hb := has_bd hs hh
  clear hs hh
  go_enter Tryd.func72, Tryd.ntmps72
  go_wp2_with fail
  go_quiet (fail)
  go_wp2_with fail
  go_ret2
  exact ⟨rfl, ((Below.refl _ _).alloc (Nat.le_refl _) _).trans (drewN_below _ _ _)⟩
theorem plainWhat_any (s : St) (c x : Int) (hs : Small s) (hh : hasV s x = true) (w : World) :
    Calls Tryd.prog 65 #[.agg #[.int .i64 s.f, .int .i64 s.t, .int .i64 s.e, .int .i8 c], .int .i64 x] w fun e w' => e = .returned (.tuple #[.int .i8 (plainW s c x).k, .int .i64 (plainW s c x).a, .int .i64 (plainW s c x).b]) ∧ Below w.heap.size w w' := by
  have HS := Lib.hid hs
  have HH := Lib.hid hh
  clear hs hh
  go_enter Tryd.func65, Tryd.ntmps65
  go_wp2_with fail
  refine (whose_any s x HS.out HH.out _).mono ?_
  rintro e w1 ⟨rfl, hb⟩
  obtain ⟨hc, hf⟩ := bcell hb
  go_wp2_with fail
  go_ret3
  exact ⟨rfl, boxed hb⟩
theorem slotWhat_any (s : St) (x : Int) (hs : Small s) (hh : hasV s x = true) (w : World) :
    Calls Tryd.prog 66 #[.agg #[.int .i64 s.f, .int .i64 s.t, .int .i64 s.e], .int .i64 x] w fun e w' => e = .returned (.tuple #[.int .i8 (slotW s x).k, .int .i64 (slotW s x).a, .int .i64 (slotW s x).b]) ∧ Below w.heap.size w w' := by
  have hb0 := has_bd hs hh
  have hq := quo_bd (d := x - s.f) (e := s.e) (by omega) (by omega)
  have HS := Lib.hid hs
  have HH := Lib.hid hh
  clear hs hh
  by_cases hz : (x - s.f) % s.e = 0
  · have hd : ((x - s.f) % s.e == 0) = true := by simp [hz]
    have HW := Lib.hid (show slotW s x = ⟨5, (x - s.f) / s.e, 0⟩ from if_pos hz)
    clear hz
    go_enter Tryd.func66, Tryd.ntmps66
    go_wp2_with fail
    refine (whose_any s x HS.out HH.out _).mono ?_
    rintro e w1 ⟨rfl, hb⟩
    obtain ⟨hc, hf⟩ := bcell hb
    go_wp2_with fail
    go_ret3
    exact ⟨by rw [HW.out]; rfl, boxed hb⟩
  · have hd : ((x - s.f) % s.e == 0) = false := by simp [hz]
    have hz' : 1 ≤ (x - s.f) % s.e := by omega
    have HW := Lib.hid (show slotW s x = ⟨6, (x - s.f) / s.e, (x - s.f) % s.e - 1⟩ from if_neg hz)
    clear hz
    go_enter Tryd.func66, Tryd.ntmps66
    go_wp2_with fail
    refine (whose_any s x HS.out HH.out _).mono ?_
    rintro e w1 ⟨rfl, hb⟩
    obtain ⟨hc, hf⟩ := bcell hb
    go_wp2_with fail
    go_ret3
    exact ⟨by rw [HW.out]; rfl, boxed hb⟩
set_option maxHeartbeats 1000000 in
theorem may_any (g : G) (w : World) :
    Calls Tryd.prog 44 #[.agg #[.int .i64 g.N, .int .i64 g.S, .int .i64 g.B, .int .i64 g.P, .int .i64 g.J, .int .i64 g.L, .int .i64 g.E, .int .i64 g.T]] w fun e w' => e = .returned (.bool (mayG g)) ∧ Below w.heap.size w w' := by
  rcases may_cases g with h | h | h | h | h | h | h | h | h | h
  all_goals
    have H := Lib.hid h.1
    replace h := h.2
    go_enter Tryd.func44, Tryd.ntmps44
    go_wp2_with (first
      | (go_at_call 55; refine (within_yes _ _ _ _ (by omega) (by omega)).mono ?_; rintro e w1 ⟨rfl, rfl⟩)
      | (go_at_call 55; refine (within_no _ _ _ _ (by omega)).mono ?_; rintro e w1 ⟨rfl, rfl⟩))
    go_ret
    exact ⟨ret_bool (by rw [H.out]; try (simp; omega)), (Below.refl _ _).alloc (Nat.le_refl _) _⟩
set_option maxHeartbeats 1000000 in
theorem refMay_any (g : G) (w : World) :
    Calls Tryd.prog 22 #[.agg #[.int .i64 g.N, .int .i64 g.S, .int .i64 g.B, .int .i64 g.P, .int .i64 g.J, .int .i64 g.L, .int .i64 g.E, .int .i64 g.T]] w fun e w' => e = .returned (.bool (mayG g)) ∧ Below w.heap.size w w' := by
  rcases may_cases g with h | h | h | h | h | h | h | h | h | h
  all_goals
    have H := Lib.hid h.1
    replace h := h.2
    go_enter Tryd.func22, Tryd.ntmps22
    go_wp2_with (first
      | (go_at_call 39; refine (in_yes _ _ _ _ (by omega) (by omega)).mono ?_; rintro e w1 ⟨rfl, rfl⟩)
      | (go_at_call 39; refine (in_no _ _ _ _ (by omega)).mono ?_; rintro e w1 ⟨rfl, rfl⟩))
    go_ret
    exact ⟨ret_bool (by rw [H.out]; try (simp; omega)), (Below.refl _ _).alloc (Nat.le_refl _) _⟩

end Go.Proofs.YtaegkpfjopajpaaDoor
