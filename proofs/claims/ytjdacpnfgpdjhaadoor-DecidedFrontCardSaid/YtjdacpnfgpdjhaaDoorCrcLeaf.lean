/-
  crc: moving a register by a bit, forth and back; the document's own step; the shell round a sum.
-/
import Derived.Test.YtjdacpnfgpdjhaaDoorCrcBits
namespace Go.Proofs.YtjdacpnfgpdjhaaDoor
open Go.RowKit
set_option linter.unusedVariables false
set_option linter.unusedSimpArgs false

set_option maxRecDepth 100000 in
theorem from_any (x : Int) (w : World) (h0 : -9223372036854775808 ≤ x) (h1 : x ≤ 9223372036854775807) :
    Calls Tryd.prog 93 #[.int .i64 x] w fun e w' => e = .returned (.agg #[.int .u32 (ones (r32 x) : Nat)]) ∧ Below w.heap.size w w' := by
  have hn := u32_not x
  go_enter Tryd.func93, Tryd.ntmps93
  go_wp2_with fail
  exact bodyPost_ret (v := .agg #[.int .u32 (ones (r32 x) : Nat)]) (by simp [results, Tryd.results93, go_sem]) rfl ⟨rfl, (Below.refl _ _).alloc (Nat.le_refl _) _⟩

set_option maxRecDepth 100000 in
theorem step_any (x : Nat) (w : World) (hx : x < 4294967296) :
    Calls Tryd.prog 96 #[.int .i64 x] w fun e w' => e = .returned (.int .i64 (st x : Nat)) ∧ w = w' := by
  have hl := i64_low x
  by_cases ho : x % 2 = 1
  · have hs := i64_st_odd x hx ho
    rw [show (x : Int) % 2 = 1 by omega] at hl
    clear ho
    go_enter Tryd.func96, Tryd.ntmps96
    go_wp2_with fail
    go_ret
    exact ⟨rfl, rfl⟩
  · have hs := st_even x (by omega)
    rw [show (x : Int) % 2 = 0 by omega] at hl
    clear ho
    go_enter Tryd.func96, Tryd.ntmps96
    go_wp2_with fail
    go_ret
    exact ⟨rfl, rfl⟩
set_option maxRecDepth 100000 in
theorem sum_any (b : Nat) (T : TypeId) (x : Nat) (w : World) (hx : x < 4294967296) (hr : RegAt w b T x) :
    Calls Tryd.prog 95 #[.pointer (some ⟨b, 0, none⟩)] w fun e w' => e = .returned (.int .i64 (ones x : Nat)) ∧ w = w' := by
  have hc := hr.cell
  have hn := u32_not_nat x hx
  have hl := w64 _ (ones_lt hx)
  clear hr
  go_enter Tryd.func95, Tryd.ntmps95
  go_wp2_with fail
  go_ret
  exact ⟨rfl, rfl⟩

end Go.Proofs.YtjdacpnfgpdjhaaDoor
