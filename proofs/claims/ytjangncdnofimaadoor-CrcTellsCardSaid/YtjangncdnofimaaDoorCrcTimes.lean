/-
  crc: a register times another one; moved by many bytes; what one byte's moving multiplies by.
-/
import Derived.Test.YtjangncdnofimaaDoorCrcLeaf
import Derived.Deep.LoopGhost
namespace Go.Proofs.YtjangncdnofimaaDoor
open Go.RowKit
set_option linter.unusedVariables false
set_option linter.unusedSimpArgs false

/-- What a product's loop keeps. -/
def TimesRel (w : World) (b : Nat) (T : TypeId) (x f0 k F P R : Nat) (wr : World) : Prop :=
  F < 4294967296 ∧ P < 4294967296 ∧ R < 4294967296 ∧ RegAt wr b T R ∧ Only b w wr ∧ k ≤ 32 ∧ P ^^^ tm k R F = tm 32 x f0 ∧ F % 2 ^ (32 - k) = 0

theorem times_some {w wr : World} {b x f0 k F P R : Nat} {T : TypeId} (h : TimesRel w b T x f0 k F P R wr) (hF : F ≠ 0) : 1 ≤ k := by
  obtain ⟨h1, h2, h3, h4, h5, h6, h7, h8⟩ := h
  rcases Nat.eq_zero_or_pos k with rfl | hp
  · exfalso
    rw [Nat.mod_eq_of_lt (by simpa using h1)] at h8
    exact hF h8
  · exact hp
theorem times_next {w wr wr' : World} {b x f0 k F P R : Nat} {T : TypeId} (h : TimesRel w b T x f0 k F P R wr) (hk : 1 ≤ k) (hr : RegAt wr' b T (st R)) (ho : Only b wr wr') :
    TimesRel w b T x f0 (k - 1) (F * 2 % 4294967296) (P ^^^ (if F / 2147483648 % 2 = 1 then R else 0)) (st R) wr' := by
  obtain ⟨h1, h2, h3, h4, h5, h6, h7, h8⟩ := h
  obtain ⟨k, rfl⟩ : ∃ j, k = j + 1 := ⟨k - 1, by omega⟩
  refine ⟨Nat.mod_lt _ (by decide), xor_lt h2 (by split <;> omega), st_lt h3, hr, h5.trans ho, by omega, ?_, ?_⟩
  · rw [Nat.xor_assoc]
    exact h7
  · have e : 32 - (k + 1 - 1) = (32 - (k + 1)) + 1 := by omega
    rw [e, Nat.pow_succ]
    have hd : 2 ^ (32 - (k + 1)) * 2 ∣ 4294967296 := by
      rw [← Nat.pow_succ]
      exact Nat.pow_dvd_pow 2 (show 32 - (k + 1) + 1 ≤ 32 by omega)
    rw [Nat.mod_mod_of_dvd _ hd, Nat.mul_comm F 2, Nat.mul_comm (2 ^ _) 2, Nat.mul_mod_mul_left, h8]
theorem times_end {w wr : World} {b x f0 k P R : Nat} {T : TypeId} (h : TimesRel w b T x f0 k 0 P R wr) : P = tm 32 x f0 := by
  obtain ⟨h1, h2, h3, h4, h5, h6, h7, h8⟩ := h
  rwa [tm_zero, Nat.xor_zero] at h7

set_option maxRecDepth 100000 in
set_option maxHeartbeats 1000000 in
theorem times_any (b : Nat) (T : TypeId) (x f : Nat) (w : World) (hx : x < 4294967296) (hf : f < 4294967296) (hr : RegAt w b T x) :
    Calls Tryd.prog 28 #[.pointer (some ⟨b, 0, none⟩), .int .u32 f] w fun e w' => e = .returned (.tuple #[]) ∧ RegAt w' b T (tm 32 x f) ∧ Only b w w' := by
  have HR : Hid (TimesRel w b T x f 32 f 0 x w) := ⟨hf, by omega, hx, hr, Only.refl _ _, Nat.le_refl _, Nat.zero_xor _, Nat.mod_one _⟩
  clear hr
  go_enter Tryd.func28, Tryd.ntmps28
  go_wp2_with fail
  go_loopg [1, 4] 32 (fun k u v wr => ∃ F P R : Nat, u = .int .u32 F ∧ v = .int .u32 P ∧ Hid (TimesRel w b T x f k F P R wr))
  case atStart => exact ⟨f, 0, x, rfl, rfl, HR⟩
  case round =>
    clear HR
    obtain ⟨F, P, R, rfl, rfl, HR⟩ := hrel
    have hF := HR.out.1
    have hP := HR.out.2.1
    have hRl := HR.out.2.2.1
    have hreg := HR.out.2.2.2.1
    by_cases hz : F = 0
    · subst hz
      have hc := hreg.cell
      have hfr := hreg.free
      have hP2 := times_end HR.out
      subst hP2
      have HG := Lib.hid hreg
      clear hreg
      go_wp2_with fail
      go_end0
      exact ⟨rfl, one_setCell HG.out, HR.out.2.2.2.2.1.set _⟩
    · have hz2 : ((F : Int) != 0) = true := by simp; omega
      have hk1 := times_some HR.out hz
      have hl := u32_top F hF
      by_cases hb : F / 2147483648 % 2 = 1
      · have ho2 : F / 2147483648 % 2 * 2147483648 = 2147483648 := by omega
        have HB := Lib.hid hb
        rw [ho2] at hl
        have hc := hreg.cell
        have hxor := u32_xor_nat P R hP hRl
        have HG := Lib.hid hreg
        clear hreg hz ho2 hb
        go_wp2_with fail
        refine (forth_any b T R _ hRl HG.out).mono ?_
        rintro e w1 ⟨rfl, hr1, ho1⟩
        have HN := Lib.hid (times_next HR.out hk1 hr1 ho1)
        clear hr1 ho1 hc hxor hl
        go_wp2_with fail
        go_roundg (gk - 1)
        case measure => omega
        case rel =>
          rw [if_pos HB.out] at HN
          exact ⟨_, _, _, rfl, rfl, HN⟩
      · have ho2 : F / 2147483648 % 2 * 2147483648 = 0 := by omega
        have HB := Lib.hid hb
        rw [ho2] at hl
        have HG := Lib.hid hreg
        clear hreg hz ho2 hb
        go_wp2_with fail
        refine (forth_any b T R _ hRl HG.out).mono ?_
        rintro e w1 ⟨rfl, hr1, ho1⟩
        have HN := Lib.hid (times_next HR.out hk1 hr1 ho1)
        clear hr1 ho1 hl
        go_wp2_with fail
        go_roundg (gk - 1)
        case measure => omega
        case rel =>
          rw [if_neg HB.out, Nat.xor_zero] at HN
          exact ⟨_, _, _, rfl, rfl, HN⟩

end Go.Proofs.YtjangncdnofimaaDoor
