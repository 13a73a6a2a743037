/-
  crc: moving a register by a bit, forth and back; the document's own step; the shell round a sum.
-/
import Derived.Test.YtjangncdnofimaaDoorCrcBits
namespace Go.Proofs.YtjangncdnofimaaDoor
open Go.RowKit
set_option linter.unusedVariables false
set_option linter.unusedSimpArgs false

set_option maxRecDepth 100000 in
theorem forth_any (b : Nat) (T : TypeId) (x : Nat) (w : World) (hx : x < 4294967296) (hr : RegAt w b T x) :
    Calls Tryd.prog 29 #[.pointer (some ⟨b, 0, none⟩)] w fun e w' => e = .returned (.tuple #[]) ∧ RegAt w' b T (st x) ∧ Only b w w' := by
  have hc := hr.cell
  have hf := hr.free
  have hl := u32_low x hx
  by_cases ho : x % 2 = 1
  · have hs := u32_st_odd x hx ho
    rw [ho] at hl
    have HR := Lib.hid hr
    clear hr ho
    go_enter Tryd.func29, Tryd.ntmps29
    go_wp2_with fail
    go_end0
    exact ⟨rfl, one_setCell (one_setCell HR.out), ((Only.refl b w).set _).set _⟩
  · have ho : x % 2 = 0 := by omega
    have hs := st_even x ho
    rw [ho] at hl
    have HR := Lib.hid hr
    clear hr ho
    go_enter Tryd.func29, Tryd.ntmps29
    go_wp2_with fail
    go_end0
    exact ⟨rfl, one_setCell HR.out, (Only.refl b w).set _⟩

set_option maxRecDepth 100000 in
theorem back_any (b : Nat) (T : TypeId) (x : Nat) (w : World) (hx : x < 4294967296) (hr : RegAt w b T x) :
    Calls Tryd.prog 30 #[.pointer (some ⟨b, 0, none⟩)] w fun e w' => e = .returned (.tuple #[]) ∧ RegAt w' b T (bk x) ∧ Only b w w' := by
  have hc := hr.cell
  have hf := hr.free
  have hl := u32_top x hx
  by_cases ho : x / 2147483648 = 1
  · have ho2 : x / 2147483648 % 2 * 2147483648 = 2147483648 := by omega
    rw [ho2] at hl
    have HR := Lib.hid hr
    have hx1 := u32_xor_poly x hx
    have hx2 := u32_bk_odd x ho
    have hx3 := top_xor ho
    clear hr ho2 ho
    go_enter Tryd.func30, Tryd.ntmps30
    go_wp2_with fail
    go_end0
    exact ⟨rfl, one_setCell (one_setCell (one_setCell HR.out)), (((Only.refl b w).set _).set _).set _⟩
  · have ho2 : x / 2147483648 % 2 * 2147483648 = 0 := by omega
    rw [ho2] at hl
    have HR := Lib.hid hr
    have he := bk_even x ho
    clear hr ho2
    go_enter Tryd.func30, Tryd.ntmps30
    go_wp2_with fail
    go_end0
    exact ⟨rfl, one_setCell HR.out, (Only.refl b w).set _⟩

set_option maxRecDepth 100000 in
theorem from_any (x : Int) (w : World) (h0 : -9223372036854775808 ≤ x) (h1 : x ≤ 9223372036854775807) :
    Calls Tryd.prog 21 #[.int .i64 x] w fun e w' => e = .returned (.agg #[.int .u32 (ones (r32 x) : Nat)]) ∧ Below w.heap.size w w' := by
  have hn := u32_not x
  go_enter Tryd.func21, Tryd.ntmps21
  go_wp2_with fail
  exact bodyPost_ret (v := .agg #[.int .u32 (ones (r32 x) : Nat)]) (by simp [results, Tryd.results21, go_sem]) rfl ⟨rfl, (Below.refl _ _).alloc (Nat.le_refl _) _⟩

set_option maxRecDepth 100000 in
theorem step_any (x : Nat) (w : World) (hx : x < 4294967296) :
    Calls Tryd.prog 26 #[.int .i64 x] w fun e w' => e = .returned (.int .i64 (st x : Nat)) ∧ w = w' := by
  have hl := i64_low x
  by_cases ho : x % 2 = 1
  · have hs := i64_st_odd x hx ho
    rw [show (x : Int) % 2 = 1 by omega] at hl
    clear ho
    go_enter Tryd.func26, Tryd.ntmps26
    go_wp2_with fail
    go_ret
    exact ⟨rfl, rfl⟩
  · have hs := st_even x (by omega)
    rw [show (x : Int) % 2 = 0 by omega] at hl
    clear ho
    go_enter Tryd.func26, Tryd.ntmps26
    go_wp2_with fail
    go_ret
    exact ⟨rfl, rfl⟩
set_option maxRecDepth 100000 in
theorem sum_any (b : Nat) (T : TypeId) (x : Nat) (w : World) (hx : x < 4294967296) (hr : RegAt w b T x) :
    Calls Tryd.prog 23 #[.pointer (some ⟨b, 0, none⟩)] w fun e w' => e = .returned (.int .i64 (ones x : Nat)) ∧ w = w' := by
  have hc := hr.cell
  have hn := u32_not_nat x hx
  have hl := w64 _ (ones_lt hx)
  clear hr
  go_enter Tryd.func23, Tryd.ntmps23
  go_wp2_with fail
  go_ret
  exact ⟨rfl, rfl⟩

end Go.Proofs.YtjangncdnofimaaDoor
