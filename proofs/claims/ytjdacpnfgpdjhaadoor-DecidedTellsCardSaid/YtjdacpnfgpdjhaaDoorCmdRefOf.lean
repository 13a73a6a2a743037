/-
  The document's commands: a key's node: by contract.
-/
import Derived.Test.YtjdacpnfgpdjhaaDoorCmdRefMay
namespace Go.Proofs.YtjdacpnfgpdjhaaDoor
open Go.RowKit
set_option linter.unusedVariables false
set_option linter.unusedSimpArgs false

theorem cOf_no {k : Int} (h : cKey k = false) : cOf k = -1 := by unfold cOf; rw [if_neg (by rw [h]; simp)]
theorem cOf_yes {k : Int} (h : cKey k = true) : ∃ q : Nat, q < 16 ∧ cOf k = (q : Int) ∧ (k % 16).toNat = q := by
  have h0 := cKey_iff.1 h
  refine ⟨(k % 16).toNat, by omega, ?_, rfl⟩
  unfold cOf
  rw [if_pos h]
  omega
set_option maxRecDepth 100000 in
theorem refCOf_any (k : Int) (w : World) : Calls Tryd.prog 21 #[.int .i64 k] w fun e w' => e = .returned (.int .i64 (cOf k)) ∧ w = w' := by
  go_enter Tryd.func21, Tryd.ntmps21
  go_wp2_with fail
  refine (refKey_any k _).mono ?_
  rintro e w1 ⟨rfl, rfl⟩
  cases hk : cKey k with
  | false =>
    have HV := Lib.hid (cOf_no hk)
    clear hk
    go_wp2_with fail
    go_ret
    exact ⟨by rw [HV.out] <;> rfl, rfl⟩
  | true =>
    have HV : Hid (cOf k = k % 16) := by show _ = _; unfold cOf; rw [if_pos hk]
    have h0 : 0 ≤ k := by have := cKey_iff.1 hk; omega
    have h1 : k ≤ 1099511627776 := (cKey_iff.1 hk).2
    clear hk
    go_wp2_with fail
    go_ret
    exact ⟨by rw [HV.out]; first | rfl | (rw [Int.tmod_eq_emod_of_nonneg h0]), rfl⟩

end Go.Proofs.YtjdacpnfgpdjhaaDoor
