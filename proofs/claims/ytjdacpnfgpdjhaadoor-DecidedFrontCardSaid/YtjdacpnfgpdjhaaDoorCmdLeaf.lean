/-
  The program's commands: a key, a node, which fields a kind has: by contract.
-/
import Derived.Test.YtjdacpnfgpdjhaaDoorCmdAt
namespace Go.Proofs.YtjdacpnfgpdjhaaDoor
open Go.RowKit
set_option linter.unusedVariables false
set_option linter.unusedSimpArgs false

theorem boxed_new (w : World) (o : Obj) : Below w.heap.size w (w.alloc o) := (Below.refl _ _).alloc (Nat.le_refl _) _
def withinB (n a b : Int) : Bool := decide (a ≤ n) && decide (n ≤ b)
set_option maxRecDepth 100000 in
theorem cwithin_any (n a b : Int) (w : World) : Calls Tryd.prog 49 #[.int .i64 n, .int .i64 a, .int .i64 b] w fun e w' => e = .returned (.bool (withinB n a b)) ∧ w = w' := by
  by_cases h0 : a ≤ n
  · have HV : Hid (withinB n a b = decide (n ≤ b)) := by show _ = _; simp [withinB, h0]
    have hd : decide (a ≤ n) = true := decide_eq_true h0
    clear h0
    go_enter Tryd.func49, Tryd.ntmps49
    go_wp2_with fail
    go_ret
    exact ⟨by rw [HV.out] <;> rfl, rfl⟩
  · have HV : Hid (withinB n a b = false) := by show _ = _; simp [withinB, h0]
    have hd : decide (a ≤ n) = false := decide_eq_false h0
    clear h0
    go_enter Tryd.func49, Tryd.ntmps49
    go_wp2_with fail
    go_ret
    exact ⟨by rw [HV.out] <;> rfl, rfl⟩

set_option maxRecDepth 100000 in
theorem cKey_any (k : Int) (w : World) : Calls Tryd.prog 30 #[.int .i64 k] w fun e w' => e = .returned (.bool (cKey k)) ∧ w = w' := by
  go_enter Tryd.func30, Tryd.ntmps30
  go_wp2_with fail
  refine (cwithin_any k 16 1099511627776 _).mono ?_
  rintro e w1 ⟨rfl, rfl⟩
  rw [show withinB k 16 1099511627776 = cKey k from rfl]
  go_wp2_with fail
  go_ret
  exact ⟨rfl, rfl⟩

set_option maxRecDepth 100000 in
theorem cOf_any (k : Int) (w : World) : Calls Tryd.prog 31 #[.int .i64 k] w fun e w' => e = .returned (.int .i64 (cOf k)) ∧ w = w' := by
  go_enter Tryd.func31, Tryd.ntmps31
  go_wp2_with fail
  refine (cKey_any k _).mono ?_
  rintro e w1 ⟨rfl, rfl⟩
  cases hk : cKey k with
  | false =>
    have HV : Hid (cOf k = -1) := by show _ = _; unfold cOf; rw [if_neg (by rw [hk]; simp)]
    clear hk
    go_wp2_with fail
    go_ret
    exact ⟨by rw [HV.out] <;> rfl, rfl⟩
  | true =>
    have HV : Hid (cOf k = k % 16) := by show _ = _; unfold cOf; rw [if_pos hk]
    have h0 : 0 ≤ k := by have := cKey_iff.1 hk; omega
    have h1 : k ≤ 1099511627776 := (cKey_iff.1 hk).2
    clear hk
    go_wp2_with fail
    go_ret
    exact ⟨by rw [HV.out]; first | rfl | (rw [Int.tmod_eq_emod_of_nonneg h0]), rfl⟩

def hasSpanB (k : Int) : Bool := (k == 2) || (k == 3)
def hasModeB (k : Int) : Bool := (k == 2)
def hasDeadB (k : Int) : Bool := (k == 4) || (k == 5)
def hasWasB (k : Int) : Bool := (k == 4)
set_option maxRecDepth 100000 in
theorem hasMode_any (k b s d a lo hi m : Int) (w : World) : Calls Tryd.prog 78 #[.agg #[.int .i8 k, .int .i64 b, .int .i64 s, .int .i64 d, .int .i64 a, .int .i64 lo, .int .i64 hi, .int .i8 m]] w fun e w' => e = .returned (.bool (hasModeB k)) ∧ Below w.heap.size w w' := by
  have hb := boxed_new w (.cells #[.int .i8 k, .int .i64 b, .int .i64 s, .int .i64 d, .int .i64 a, .int .i64 lo, .int .i64 hi, .int .i8 m] 74)
  go_enter Tryd.func78, Tryd.ntmps78
  go_wp2_with fail
  go_ret
  exact ⟨rfl, hb⟩
set_option maxRecDepth 100000 in
theorem hasWas_any (k b s d a lo hi m : Int) (w : World) : Calls Tryd.prog 80 #[.agg #[.int .i8 k, .int .i64 b, .int .i64 s, .int .i64 d, .int .i64 a, .int .i64 lo, .int .i64 hi, .int .i8 m]] w fun e w' => e = .returned (.bool (hasWasB k)) ∧ Below w.heap.size w w' := by
  have hb := boxed_new w (.cells #[.int .i8 k, .int .i64 b, .int .i64 s, .int .i64 d, .int .i64 a, .int .i64 lo, .int .i64 hi, .int .i8 m] 74)
  go_enter Tryd.func80, Tryd.ntmps80
  go_wp2_with fail
  go_ret
  exact ⟨rfl, hb⟩
set_option maxRecDepth 100000 in
theorem hasSpan_any (k b s d a lo hi m : Int) (w : World) : Calls Tryd.prog 77 #[.agg #[.int .i8 k, .int .i64 b, .int .i64 s, .int .i64 d, .int .i64 a, .int .i64 lo, .int .i64 hi, .int .i8 m]] w fun e w' => e = .returned (.bool (hasSpanB k)) ∧ Below w.heap.size w w' := by
  have hb := boxed_new w (.cells #[.int .i8 k, .int .i64 b, .int .i64 s, .int .i64 d, .int .i64 a, .int .i64 lo, .int .i64 hi, .int .i8 m] 74)
  cases h2 : k == 2
  all_goals
    have HK := Lib.hid h2
    go_enter Tryd.func77, Tryd.ntmps77
    go_wp2_with fail
    go_ret
    exact ⟨ret_bool (by unfold hasSpanB; rw [HK.out]; rfl), hb⟩
set_option maxRecDepth 100000 in
theorem hasDead_any (k b s d a lo hi m : Int) (w : World) : Calls Tryd.prog 79 #[.agg #[.int .i8 k, .int .i64 b, .int .i64 s, .int .i64 d, .int .i64 a, .int .i64 lo, .int .i64 hi, .int .i8 m]] w fun e w' => e = .returned (.bool (hasDeadB k)) ∧ Below w.heap.size w w' := by
  have hb := boxed_new w (.cells #[.int .i8 k, .int .i64 b, .int .i64 s, .int .i64 d, .int .i64 a, .int .i64 lo, .int .i64 hi, .int .i8 m] 74)
  cases h2 : k == 4
  all_goals
    have HK := Lib.hid h2
    go_enter Tryd.func79, Tryd.ntmps79
    go_wp2_with fail
    go_ret
    exact ⟨ret_bool (by unfold hasDeadB; rw [HK.out]; rfl), hb⟩


end Go.Proofs.YtjdacpnfgpdjhaaDoor
