/-
  geo: where each thing stands, how much a geometry has: each call by its contract.
-/
import Derived.Test.YtjdacpnfgpdjhaaDoorGeoLay
namespace Go.Proofs.YtjdacpnfgpdjhaaDoor
open Go.RowKit
set_option linter.unusedVariables false
set_option linter.unusedSimpArgs false

theorem slotS_each (g : G) : (slotS g).t = 0 ∨ 2 ≤ (slotS g).e := by
  unfold slotS
  by_cases h : mayG g = true
  · have := of_may h
    rw [stOf_yes h]; right; simp only; omega
  · rw [stOf_no (by simpa using h)]; left; rfl

theorem fld_plain (a b c k : Int) : ∀ W : World, (Instr.field 111 (.agg #[.int .i64 a, .int .i64 b, .int .i64 c, .int .i8 k]) 0).run Tryd.prog W = .ok (.agg #[.int .i64 a, .int .i64 b, .int .i64 c]) W := fun _ => by kernel_rfl
theorem fld_journals (a b c : Int) : ∀ W : World, (Instr.field 113 (.agg #[.int .i64 a, .int .i64 b, .int .i64 c]) 0).run Tryd.prog W = .ok (.agg #[.int .i64 a, .int .i64 b, .int .i64 c]) W := fun _ => by kernel_rfl
theorem fld_things (a b c : Int) : ∀ W : World, (Instr.field 109 (.agg #[.int .i64 a, .int .i64 b, .int .i64 c]) 1).run Tryd.prog W = .ok (.int .i64 b) W := fun _ => by kernel_rfl
section
variable (g : G)
theorem fld_leaseS : ∀ W : World, (Instr.field 115 (.agg #[.int .i64 (superS g).f, .int .i64 (superS g).t, .int .i64 (superS g).e, .int .i8 (kOf (mayG g) 1), .int .i64 (leaseS g).f, .int .i64 (leaseS g).t, .int .i64 (leaseS g).e, .int .i8 (kOf (mayG g) 2), .int .i64 (ballotS g).f, .int .i64 (ballotS g).t, .int .i64 (ballotS g).e, .int .i8 (kOf (mayG g) 3), .int .i64 (logS g).f, .int .i64 (logS g).t, .int .i64 (logS g).e, .int .i8 (kOf (mayG g) 4), .int .i64 (slotS g).f, .int .i64 (slotS g).t, .int .i64 (slotS g).e, .int .i64 (dataS g).f, .int .i64 (dataS g).t, .int .i64 (dataS g).e, .int .i8 (kOf (mayG g) 7)]) 1).run Tryd.prog W = .ok (.agg #[.int .i64 (leaseS g).f, .int .i64 (leaseS g).t, .int .i64 (leaseS g).e, .int .i8 (kOf (mayG g) 2)]) W := fun _ => by kernel_rfl
end
section
variable (g : G)
theorem fld_ballotS : ∀ W : World, (Instr.field 115 (.agg #[.int .i64 (superS g).f, .int .i64 (superS g).t, .int .i64 (superS g).e, .int .i8 (kOf (mayG g) 1), .int .i64 (leaseS g).f, .int .i64 (leaseS g).t, .int .i64 (leaseS g).e, .int .i8 (kOf (mayG g) 2), .int .i64 (ballotS g).f, .int .i64 (ballotS g).t, .int .i64 (ballotS g).e, .int .i8 (kOf (mayG g) 3), .int .i64 (logS g).f, .int .i64 (logS g).t, .int .i64 (logS g).e, .int .i8 (kOf (mayG g) 4), .int .i64 (slotS g).f, .int .i64 (slotS g).t, .int .i64 (slotS g).e, .int .i64 (dataS g).f, .int .i64 (dataS g).t, .int .i64 (dataS g).e, .int .i8 (kOf (mayG g) 7)]) 2).run Tryd.prog W = .ok (.agg #[.int .i64 (ballotS g).f, .int .i64 (ballotS g).t, .int .i64 (ballotS g).e, .int .i8 (kOf (mayG g) 3)]) W := fun _ => by kernel_rfl
end
section
variable (g : G)
theorem fld_logS : ∀ W : World, (Instr.field 115 (.agg #[.int .i64 (superS g).f, .int .i64 (superS g).t, .int .i64 (superS g).e, .int .i8 (kOf (mayG g) 1), .int .i64 (leaseS g).f, .int .i64 (leaseS g).t, .int .i64 (leaseS g).e, .int .i8 (kOf (mayG g) 2), .int .i64 (ballotS g).f, .int .i64 (ballotS g).t, .int .i64 (ballotS g).e, .int .i8 (kOf (mayG g) 3), .int .i64 (logS g).f, .int .i64 (logS g).t, .int .i64 (logS g).e, .int .i8 (kOf (mayG g) 4), .int .i64 (slotS g).f, .int .i64 (slotS g).t, .int .i64 (slotS g).e, .int .i64 (dataS g).f, .int .i64 (dataS g).t, .int .i64 (dataS g).e, .int .i8 (kOf (mayG g) 7)]) 3).run Tryd.prog W = .ok (.agg #[.int .i64 (logS g).f, .int .i64 (logS g).t, .int .i64 (logS g).e, .int .i8 (kOf (mayG g) 4)]) W := fun _ => by kernel_rfl
end
section
variable (g : G)
theorem fld_slotS : ∀ W : World, (Instr.field 115 (.agg #[.int .i64 (superS g).f, .int .i64 (superS g).t, .int .i64 (superS g).e, .int .i8 (kOf (mayG g) 1), .int .i64 (leaseS g).f, .int .i64 (leaseS g).t, .int .i64 (leaseS g).e, .int .i8 (kOf (mayG g) 2), .int .i64 (ballotS g).f, .int .i64 (ballotS g).t, .int .i64 (ballotS g).e, .int .i8 (kOf (mayG g) 3), .int .i64 (logS g).f, .int .i64 (logS g).t, .int .i64 (logS g).e, .int .i8 (kOf (mayG g) 4), .int .i64 (slotS g).f, .int .i64 (slotS g).t, .int .i64 (slotS g).e, .int .i64 (dataS g).f, .int .i64 (dataS g).t, .int .i64 (dataS g).e, .int .i8 (kOf (mayG g) 7)]) 4).run Tryd.prog W = .ok (.agg #[.int .i64 (slotS g).f, .int .i64 (slotS g).t, .int .i64 (slotS g).e]) W := fun _ => by kernel_rfl
end
section
variable (g : G)
theorem fld_dataS : ∀ W : World, (Instr.field 115 (.agg #[.int .i64 (superS g).f, .int .i64 (superS g).t, .int .i64 (superS g).e, .int .i8 (kOf (mayG g) 1), .int .i64 (leaseS g).f, .int .i64 (leaseS g).t, .int .i64 (leaseS g).e, .int .i8 (kOf (mayG g) 2), .int .i64 (ballotS g).f, .int .i64 (ballotS g).t, .int .i64 (ballotS g).e, .int .i8 (kOf (mayG g) 3), .int .i64 (logS g).f, .int .i64 (logS g).t, .int .i64 (logS g).e, .int .i8 (kOf (mayG g) 4), .int .i64 (slotS g).f, .int .i64 (slotS g).t, .int .i64 (slotS g).e, .int .i64 (dataS g).f, .int .i64 (dataS g).t, .int .i64 (dataS g).e, .int .i8 (kOf (mayG g) 7)]) 5).run Tryd.prog W = .ok (.agg #[.int .i64 (dataS g).f, .int .i64 (dataS g).t, .int .i64 (dataS g).e, .int .i8 (kOf (mayG g) 7)]) W := fun _ => by kernel_rfl
end

theorem log_g (g : G) (a : Int) (w : World) :
    Calls Tryd.prog 51 #[.agg #[.int .i64 g.N, .int .i64 g.S, .int .i64 g.B, .int .i64 g.P, .int .i64 g.J, .int .i64 g.L, .int .i64 g.E, .int .i64 g.T], .int .i64 a] w fun e w' => e = .returned (.int .i64 (logV g a)) ∧ Below w.heap.size w w' := by
  have hf1 := fld_logS g
  have hf2 := fld_plain ((logS g).f) ((logS g).t) ((logS g).e) (kOf (mayG g) 4)
  go_enter Tryd.func51, Tryd.ntmps51
  go_wp2_with fail
  refine (lay_any g _).mono ?_
  rintro e w1 ⟨rfl, hb⟩
  rw [layA]
  go_wp2_with fail
  refine (at_any (logS g) a 0 (logS_small g) _).mono ?_
  rintro e w2 ⟨rfl, hb2⟩
  go_wp2_with fail
  go_ret
  exact ⟨rfl, (boxed hb).trans (hb2.mono (boxed hb).size)⟩
theorem total_g (g : G) (w : World) :
    Calls Tryd.prog 68 #[.agg #[.int .i64 g.N, .int .i64 g.S, .int .i64 g.B, .int .i64 g.P, .int .i64 g.J, .int .i64 g.L, .int .i64 g.E, .int .i64 g.T]] w fun e w' => e = .returned (.int .i64 (totalV g)) ∧ Below w.heap.size w w' := by
  have hf1 := fld_dataS g
  have hf2 := fld_plain ((dataS g).f) ((dataS g).t) ((dataS g).e) (kOf (mayG g) 7)
  go_enter Tryd.func68, Tryd.ntmps68
  go_wp2_with fail
  refine (lay_any g _).mono ?_
  rintro e w1 ⟨rfl, hb⟩
  rw [layA]
  go_wp2_with fail
  refine (end_any (dataS g) (dataS_small g) _).mono ?_
  rintro e w2 ⟨rfl, hb2⟩
  go_wp2_with fail
  go_ret
  exact ⟨rfl, (boxed hb).trans (hb2.mono (boxed hb).size)⟩

end Go.Proofs.YtjdacpnfgpdjhaaDoor
