/-
  geo: whose a sector is; what stands at a sector of a region; a journal's head and places.
-/
import Derived.Test.YtcgifdmjmkfkpaaGeoLeaf
import Derived.Deep.QuietTactic
import Derived.BigQuiet
import Derived.IntWalk
import Derived.Deep.RegionHeld3
import Derived.Deep.DrawnRows
namespace Go.Proofs.Ytcgifdmjmkfkpaa
open Go.RowKit
set_option linter.unusedVariables false
set_option linter.unusedSimpArgs false

/-- Behind a call that makes memory alone old cells read as before. -/
theorem bcell {W w1 : World} (hb : Below W.heap.size W w1) : (∀ b o, b < W.heap.size → w1.cell? ⟨b, o, none⟩ = W.cell? ⟨b, o, none⟩) ∧ (∀ b o, b < W.heap.size → w1.frozen? ⟨b, o, none⟩ = W.frozen? ⟨b, o, none⟩) :=
  ⟨fun b o h => hb.cell (p := ⟨b, o, none⟩) h, fun b o h => hb.frozen (p := ⟨b, o, none⟩) h⟩
theorem boxed {w w1 : World} {o : Obj} (hb : Below (w.alloc o).heap.size (w.alloc o) w1) : Below w.heap.size w w1 := ((Below.refl _ _).alloc (Nat.le_refl _) _).trans (hb.mono (by simp))
theorem drewN_below (w : World) (q B : Nat) : Below B w (w.drewN q) := ⟨rfl, rfl, rfl, Nat.le_refl _, fun _ _ => rfl⟩
theorem boxed_d {w w1 : World} {o : Obj} (hb : Below (w.alloc o).drew.heap.size (w.alloc o).drew w1) : Below w.heap.size w w1 := (((Below.refl _ _).alloc (Nat.le_refl _) _).drew).trans (hb.mono (by simp))
theorem has_bd {s : St} {x : Int} (hs : Small s) (h : hasV s x = true) : 0 ≤ s.f ∧ s.f ≤ 4000 ∧ s.f ≤ x ∧ x ≤ 16004000 ∧ 1 ≤ s.e ∧ s.e ≤ 4000 := by
  have h1 := has_each hs h
  have h2 := of_has h
  have h3 := endV_bd hs
  unfold Small at hs
  omega
theorem quo_bd {d e : Int} (h0 : 0 ≤ d) (h1 : 1 ≤ e) : 0 ≤ d / e ∧ d / e ≤ d ∧ 0 ≤ d % e ∧ d % e < e :=
  ⟨Int.ediv_nonneg h0 (by omega), Int.ediv_le_self _ h0, Int.emod_nonneg _ (by omega), Int.emod_lt_of_pos _ (by omega)⟩

theorem whose_any (s : St) (x : Int) (hs : Small s) (hh : hasV s x = true) (w : World) :
    Calls Try.prog 42 #[.agg #[.int .i64 s.f, .int .i64 s.t, .int .i64 s.e], .int .i64 x] w fun e w' => e = .returned (.tuple #[.int .i64 ((x - s.f) / s.e), .int .i64 ((x - s.f) % s.e)]) ∧ Below w.heap.size w w' := by
  have hb := has_bd hs hh
  clear hs hh
  go_enter Try.func42, Try.ntmps42
  go_wp2_with fail
  go_quiet (fail)
  go_wp2_with fail
  go_ret2
  exact ⟨rfl, ((Below.refl _ _).alloc (Nat.le_refl _) _).trans (drewN_below _ _ _)⟩

theorem plainWhat_any (s : St) (c x : Int) (hs : Small s) (hh : hasV s x = true) (w : World) :
    Calls Try.prog 40 #[.agg #[.int .i64 s.f, .int .i64 s.t, .int .i64 s.e, .int .i8 c], .int .i64 x] w fun e w' => e = .returned (.tuple #[.int .i8 (plainW s c x).k, .int .i64 (plainW s c x).a, .int .i64 (plainW s c x).b]) ∧ Below w.heap.size w w' := by
  have HS := Lib.hid hs
  have HH := Lib.hid hh
  clear hs hh
  go_enter Try.func40, Try.ntmps40
  go_wp2_with fail
  refine (whose_any s x HS.out HH.out _).mono ?_
  rintro e w1 ⟨rfl, hb⟩
  obtain ⟨hc, hf⟩ := bcell hb
  go_wp2_with fail
  go_ret3
  exact ⟨rfl, boxed hb⟩

theorem slotWhat_any (s : St) (x : Int) (hs : Small s) (hh : hasV s x = true) (w : World) :
    Calls Try.prog 41 #[.agg #[.int .i64 s.f, .int .i64 s.t, .int .i64 s.e], .int .i64 x] w fun e w' => e = .returned (.tuple #[.int .i8 (slotW s x).k, .int .i64 (slotW s x).a, .int .i64 (slotW s x).b]) ∧ Below w.heap.size w w' := by
  have hb0 := has_bd hs hh
  have hq := quo_bd (d := x - s.f) (e := s.e) (by omega) (by omega)
  have HS := Lib.hid hs
  have HH := Lib.hid hh
  clear hs hh
  by_cases hz : (x - s.f) % s.e = 0
  · have hd : ((x - s.f) % s.e == 0) = true := by simp [hz]
    have HW := Lib.hid (show slotW s x = ⟨5, (x - s.f) / s.e, 0⟩ from if_pos hz)
    clear hz
    go_enter Try.func41, Try.ntmps41
    go_wp2_with fail
    refine (whose_any s x HS.out HH.out _).mono ?_
    rintro e w1 ⟨rfl, hb⟩
    obtain ⟨hc, hf⟩ := bcell hb
    go_wp2_with fail
    go_ret3
    exact ⟨by rw [HW.out]; rfl, boxed hb⟩
  · have hd : ((x - s.f) % s.e == 0) = false := by simp [hz]
    have hz' : 1 ≤ (x - s.f) % s.e := by omega
    have HW := Lib.hid (show slotW s x = ⟨6, (x - s.f) / s.e, (x - s.f) % s.e - 1⟩ from if_neg hz)
    clear hz
    go_enter Try.func41, Try.ntmps41
    go_wp2_with fail
    refine (whose_any s x HS.out HH.out _).mono ?_
    rintro e w1 ⟨rfl, hb⟩
    obtain ⟨hc, hf⟩ := bcell hb
    go_wp2_with fail
    go_ret3
    exact ⟨by rw [HW.out]; rfl, boxed hb⟩

theorem head_any (s : St) (x : Int) (hs : Small s) (w : World) :
    Calls Try.prog 36 #[.agg #[.int .i64 s.f, .int .i64 s.t, .int .i64 s.e], .int .i64 x] w fun e w' => e = .returned (.int .i64 (atV s x 0)) ∧ Below w.heap.size w w' := by
  have HS := Lib.hid hs
  clear hs
  go_enter Try.func36, Try.ntmps36
  go_wp2_with fail
  refine (at_any s x 0 HS.out _).mono ?_
  rintro e w1 ⟨rfl, hb⟩
  go_wp2_with fail
  go_ret
  exact ⟨rfl, ((Below.refl _ _).alloc (Nat.le_refl _) _).trans (hb.mono (by simp))⟩

theorem place_any (s : St) (x y : Int) (hs : Small s) (he : s.t = 0 ∨ 2 ≤ s.e) (hy : y ≤ 9223372036854775807) (w : World) :
    Calls Try.prog 37 #[.agg #[.int .i64 s.f, .int .i64 s.t, .int .i64 s.e], .int .i64 x, .int .i64 y] w fun e w' => e = .returned (.int .i64 (placeV s x y)) ∧ Below w.heap.size w w' := by
  have hs' := hs
  unfold Small at hs'
  have HS := Lib.hid hs
  clear hs
  by_cases hy0 : y < 0
  · have HP := Lib.hid (show placeV s x y = -1 from if_pos (.inl hy0))
    go_enter Try.func37, Try.ntmps37
    go_wp2_with fail
    go_ret
    exact ⟨ret_int HP.out.symm, (Below.refl _ _).alloc (Nat.le_refl _) _⟩
  · by_cases ht : s.t = 0
    · have HP := Lib.hid (show placeV s x y = -1 from if_pos (.inr ht))
      have hd : (s.t == 0) = true := by simp [ht]
      have hy1 : 0 ≤ y := by omega
      clear hy0 ht
      go_enter Try.func37, Try.ntmps37
      go_wp2_with fail
      go_ret
      exact ⟨ret_int HP.out.symm, (Below.refl _ _).alloc (Nat.le_refl _) _⟩
    · have HP := Lib.hid (show placeV s x y = atV s x (1 + y % (s.e - 1)) from if_neg (by omega))
      have hd : (s.t == 0) = false := by simp [ht]
      have hy1 : 0 ≤ y := by omega
      have he2 : 2 ≤ s.e := by omega
      have hq := quo_bd (d := y) (e := s.e - 1) hy1 (by omega)
      have e1 : IntKind.i64.wrap (s.e - 1) = s.e - 1 := IntWalk.i64_in _ (by omega)
      have e2 : ((s.e - 1) == 0) = false := by simp; omega
      have e3 : y.tmod (s.e - 1) = y % (s.e - 1) := Int.tmod_eq_emod_of_nonneg hy1
      have e4 : IntKind.i64.wrap (y % (s.e - 1)) = y % (s.e - 1) := IntWalk.i64_in _ (by omega)
      have e5 : IntKind.i64.wrap (1 + y % (s.e - 1)) = 1 + y % (s.e - 1) := IntWalk.i64_in _ (by omega)
      clear hy0 ht he
      go_enter Try.func37, Try.ntmps37
      go_wp2_with fail
      go_region_with (go_at_call 35; refine (at_any s x _ HS.out _).mono ?_; rintro e w1 ⟨rfl, hb⟩)
      all_goals
        go_wp2_with fail
        go_ret
        exact ⟨ret_int HP.out.symm, (((Below.refl _ _).alloc (Nat.le_refl _) _).drew).trans (hb.mono (by simp))⟩

end Go.Proofs.Ytcgifdmjmkfkpaa
