/-
  geo: where each thing stands, how much a geometry has: each call by its contract.
-/
import Derived.Test.YtcgifdmjmkfkpaaGeoLay
namespace Go.Proofs.Ytcgifdmjmkfkpaa
open Go.RowKit
set_option linter.unusedVariables false
set_option linter.unusedSimpArgs false

theorem slotS_each (g : G) : (slotS g).t = 0 ∨ 2 ≤ (slotS g).e := by
  unfold slotS
  by_cases h : mayG g = true
  · have := of_may h
    rw [stOf_yes h]; right; simp only; omega
  · rw [stOf_no (by simpa using h)]; left; rfl

section
variable (g : G)
theorem fld_leaseS : ∀ W : World, (Instr.field 46 (.agg #[.int .i64 (superS g).f, .int .i64 (superS g).t, .int .i64 (superS g).e, .int .i8 (kOf (mayG g) 1), .int .i64 (leaseS g).f, .int .i64 (leaseS g).t, .int .i64 (leaseS g).e, .int .i8 (kOf (mayG g) 2), .int .i64 (ballotS g).f, .int .i64 (ballotS g).t, .int .i64 (ballotS g).e, .int .i8 (kOf (mayG g) 3), .int .i64 (logS g).f, .int .i64 (logS g).t, .int .i64 (logS g).e, .int .i8 (kOf (mayG g) 4), .int .i64 (slotS g).f, .int .i64 (slotS g).t, .int .i64 (slotS g).e, .int .i64 (dataS g).f, .int .i64 (dataS g).t, .int .i64 (dataS g).e, .int .i8 (kOf (mayG g) 7)]) 1).run Try.prog W = .ok (.agg #[.int .i64 (leaseS g).f, .int .i64 (leaseS g).t, .int .i64 (leaseS g).e, .int .i8 (kOf (mayG g) 2)]) W := fun _ => by kernel_rfl
theorem fld_ballotS : ∀ W : World, (Instr.field 46 (.agg #[.int .i64 (superS g).f, .int .i64 (superS g).t, .int .i64 (superS g).e, .int .i8 (kOf (mayG g) 1), .int .i64 (leaseS g).f, .int .i64 (leaseS g).t, .int .i64 (leaseS g).e, .int .i8 (kOf (mayG g) 2), .int .i64 (ballotS g).f, .int .i64 (ballotS g).t, .int .i64 (ballotS g).e, .int .i8 (kOf (mayG g) 3), .int .i64 (logS g).f, .int .i64 (logS g).t, .int .i64 (logS g).e, .int .i8 (kOf (mayG g) 4), .int .i64 (slotS g).f, .int .i64 (slotS g).t, .int .i64 (slotS g).e, .int .i64 (dataS g).f, .int .i64 (dataS g).t, .int .i64 (dataS g).e, .int .i8 (kOf (mayG g) 7)]) 2).run Try.prog W = .ok (.agg #[.int .i64 (ballotS g).f, .int .i64 (ballotS g).t, .int .i64 (ballotS g).e, .int .i8 (kOf (mayG g) 3)]) W := fun _ => by kernel_rfl
theorem fld_logS : ∀ W : World, (Instr.field 46 (.agg #[.int .i64 (superS g).f, .int .i64 (superS g).t, .int .i64 (superS g).e, .int .i8 (kOf (mayG g) 1), .int .i64 (leaseS g).f, .int .i64 (leaseS g).t, .int .i64 (leaseS g).e, .int .i8 (kOf (mayG g) 2), .int .i64 (ballotS g).f, .int .i64 (ballotS g).t, .int .i64 (ballotS g).e, .int .i8 (kOf (mayG g) 3), .int .i64 (logS g).f, .int .i64 (logS g).t, .int .i64 (logS g).e, .int .i8 (kOf (mayG g) 4), .int .i64 (slotS g).f, .int .i64 (slotS g).t, .int .i64 (slotS g).e, .int .i64 (dataS g).f, .int .i64 (dataS g).t, .int .i64 (dataS g).e, .int .i8 (kOf (mayG g) 7)]) 3).run Try.prog W = .ok (.agg #[.int .i64 (logS g).f, .int .i64 (logS g).t, .int .i64 (logS g).e, .int .i8 (kOf (mayG g) 4)]) W := fun _ => by kernel_rfl
theorem fld_slotS : ∀ W : World, (Instr.field 46 (.agg #[.int .i64 (superS g).f, .int .i64 (superS g).t, .int .i64 (superS g).e, .int .i8 (kOf (mayG g) 1), .int .i64 (leaseS g).f, .int .i64 (leaseS g).t, .int .i64 (leaseS g).e, .int .i8 (kOf (mayG g) 2), .int .i64 (ballotS g).f, .int .i64 (ballotS g).t, .int .i64 (ballotS g).e, .int .i8 (kOf (mayG g) 3), .int .i64 (logS g).f, .int .i64 (logS g).t, .int .i64 (logS g).e, .int .i8 (kOf (mayG g) 4), .int .i64 (slotS g).f, .int .i64 (slotS g).t, .int .i64 (slotS g).e, .int .i64 (dataS g).f, .int .i64 (dataS g).t, .int .i64 (dataS g).e, .int .i8 (kOf (mayG g) 7)]) 4).run Try.prog W = .ok (.agg #[.int .i64 (slotS g).f, .int .i64 (slotS g).t, .int .i64 (slotS g).e]) W := fun _ => by kernel_rfl
theorem fld_dataS : ∀ W : World, (Instr.field 46 (.agg #[.int .i64 (superS g).f, .int .i64 (superS g).t, .int .i64 (superS g).e, .int .i8 (kOf (mayG g) 1), .int .i64 (leaseS g).f, .int .i64 (leaseS g).t, .int .i64 (leaseS g).e, .int .i8 (kOf (mayG g) 2), .int .i64 (ballotS g).f, .int .i64 (ballotS g).t, .int .i64 (ballotS g).e, .int .i8 (kOf (mayG g) 3), .int .i64 (logS g).f, .int .i64 (logS g).t, .int .i64 (logS g).e, .int .i8 (kOf (mayG g) 4), .int .i64 (slotS g).f, .int .i64 (slotS g).t, .int .i64 (slotS g).e, .int .i64 (dataS g).f, .int .i64 (dataS g).t, .int .i64 (dataS g).e, .int .i8 (kOf (mayG g) 7)]) 5).run Try.prog W = .ok (.agg #[.int .i64 (dataS g).f, .int .i64 (dataS g).t, .int .i64 (dataS g).e, .int .i8 (kOf (mayG g) 7)]) W := fun _ => by kernel_rfl
end
theorem fld_plain (a b c k : Int) : ∀ W : World, (Instr.field 42 (.agg #[.int .i64 a, .int .i64 b, .int .i64 c, .int .i8 k]) 0).run Try.prog W = .ok (.agg #[.int .i64 a, .int .i64 b, .int .i64 c]) W := fun _ => by kernel_rfl
theorem fld_journals (a b c : Int) : ∀ W : World, (Instr.field 44 (.agg #[.int .i64 a, .int .i64 b, .int .i64 c]) 0).run Try.prog W = .ok (.agg #[.int .i64 a, .int .i64 b, .int .i64 c]) W := fun _ => by kernel_rfl
theorem fld_things (a b c : Int) : ∀ W : World, (Instr.field 40 (.agg #[.int .i64 a, .int .i64 b, .int .i64 c]) 1).run Try.prog W = .ok (.int .i64 b) W := fun _ => by kernel_rfl

theorem lease_g (g : G) (a : Int) (w : World) :
    Calls Try.prog 13 #[.agg #[.int .i64 g.N, .int .i64 g.S, .int .i64 g.B, .int .i64 g.P, .int .i64 g.J, .int .i64 g.L, .int .i64 g.E, .int .i64 g.T], .int .i64 a] w fun e w' => e = .returned (.int .i64 (leaseV g a)) ∧ Below w.heap.size w w' := by
  have hf1 := fld_leaseS g
  have hf2 := fld_plain ((leaseS g).f) ((leaseS g).t) ((leaseS g).e) (kOf (mayG g) 2)
  go_enter Try.func13, Try.ntmps13
  go_wp2_with fail
  refine (lay_any g _).mono ?_
  rintro e w1 ⟨rfl, hb⟩
  rw [layA]
  go_wp2_with fail
  refine (at_any (leaseS g) a 0 (leaseS_small g) _).mono ?_
  rintro e w2 ⟨rfl, hb2⟩
  go_wp2_with fail
  go_ret
  exact ⟨rfl, (boxed hb).trans (hb2.mono (boxed hb).size)⟩

theorem paxos_g (g : G) (a : Int) (w : World) :
    Calls Try.prog 15 #[.agg #[.int .i64 g.N, .int .i64 g.S, .int .i64 g.B, .int .i64 g.P, .int .i64 g.J, .int .i64 g.L, .int .i64 g.E, .int .i64 g.T], .int .i64 a] w fun e w' => e = .returned (.int .i64 (paxosV g a)) ∧ Below w.heap.size w w' := by
  have hf1 := fld_ballotS g
  have hf2 := fld_plain ((ballotS g).f) ((ballotS g).t) ((ballotS g).e) (kOf (mayG g) 3)
  go_enter Try.func15, Try.ntmps15
  go_wp2_with fail
  refine (lay_any g _).mono ?_
  rintro e w1 ⟨rfl, hb⟩
  rw [layA]
  go_wp2_with fail
  refine (at_any (ballotS g) a 0 (ballotS_small g) _).mono ?_
  rintro e w2 ⟨rfl, hb2⟩
  go_wp2_with fail
  go_ret
  exact ⟨rfl, (boxed hb).trans (hb2.mono (boxed hb).size)⟩

theorem log_g (g : G) (a : Int) (w : World) :
    Calls Try.prog 17 #[.agg #[.int .i64 g.N, .int .i64 g.S, .int .i64 g.B, .int .i64 g.P, .int .i64 g.J, .int .i64 g.L, .int .i64 g.E, .int .i64 g.T], .int .i64 a] w fun e w' => e = .returned (.int .i64 (logV g a)) ∧ Below w.heap.size w w' := by
  have hf1 := fld_logS g
  have hf2 := fld_plain ((logS g).f) ((logS g).t) ((logS g).e) (kOf (mayG g) 4)
  go_enter Try.func17, Try.ntmps17
  go_wp2_with fail
  refine (lay_any g _).mono ?_
  rintro e w1 ⟨rfl, hb⟩
  rw [layA]
  go_wp2_with fail
  refine (at_any (logS g) a 0 (logS_small g) _).mono ?_
  rintro e w2 ⟨rfl, hb2⟩
  go_wp2_with fail
  go_ret
  exact ⟨rfl, (boxed hb).trans (hb2.mono (boxed hb).size)⟩

theorem head_g (g : G) (a : Int) (w : World) :
    Calls Try.prog 19 #[.agg #[.int .i64 g.N, .int .i64 g.S, .int .i64 g.B, .int .i64 g.P, .int .i64 g.J, .int .i64 g.L, .int .i64 g.E, .int .i64 g.T], .int .i64 a] w fun e w' => e = .returned (.int .i64 (headV g a)) ∧ Below w.heap.size w w' := by
  have hf1 := fld_slotS g
  go_enter Try.func19, Try.ntmps19
  go_wp2_with fail
  refine (lay_any g _).mono ?_
  rintro e w1 ⟨rfl, hb⟩
  rw [layA]
  go_wp2_with fail
  refine (head_any (slotS g) a (slotS_small g) _).mono ?_
  rintro e w2 ⟨rfl, hb2⟩
  go_wp2_with fail
  go_ret
  exact ⟨rfl, (boxed hb).trans (hb2.mono (boxed hb).size)⟩

theorem journal_g (g : G) (a b : Int) (hb' : b ≤ 9223372036854775807) (w : World) :
    Calls Try.prog 21 #[.agg #[.int .i64 g.N, .int .i64 g.S, .int .i64 g.B, .int .i64 g.P, .int .i64 g.J, .int .i64 g.L, .int .i64 g.E, .int .i64 g.T], .int .i64 a, .int .i64 b] w fun e w' => e = .returned (.int .i64 (journalV g a b)) ∧ Below w.heap.size w w' := by
  have hf1 := fld_slotS g
  go_enter Try.func21, Try.ntmps21
  go_wp2_with fail
  refine (lay_any g _).mono ?_
  rintro e w1 ⟨rfl, hb⟩
  rw [layA]
  go_wp2_with fail
  refine (place_any (slotS g) a b (slotS_small g) (slotS_each g) hb' _).mono ?_
  rintro e w2 ⟨rfl, hb2⟩
  go_wp2_with fail
  go_ret
  exact ⟨rfl, (boxed hb).trans (hb2.mono (boxed hb).size)⟩

theorem data_g (g : G) (a b : Int) (w : World) :
    Calls Try.prog 23 #[.agg #[.int .i64 g.N, .int .i64 g.S, .int .i64 g.B, .int .i64 g.P, .int .i64 g.J, .int .i64 g.L, .int .i64 g.E, .int .i64 g.T], .int .i64 a, .int .i64 b] w fun e w' => e = .returned (.int .i64 (dataV g a b)) ∧ Below w.heap.size w w' := by
  have hf1 := fld_dataS g
  have hf2 := fld_plain ((dataS g).f) ((dataS g).t) ((dataS g).e) (kOf (mayG g) 7)
  go_enter Try.func23, Try.ntmps23
  go_wp2_with fail
  refine (lay_any g _).mono ?_
  rintro e w1 ⟨rfl, hb⟩
  rw [layA]
  go_wp2_with fail
  refine (at_any (dataS g) a b (dataS_small g) _).mono ?_
  rintro e w2 ⟨rfl, hb2⟩
  go_wp2_with fail
  go_ret
  exact ⟨rfl, (boxed hb).trans (hb2.mono (boxed hb).size)⟩

theorem total_g (g : G) (w : World) :
    Calls Try.prog 9 #[.agg #[.int .i64 g.N, .int .i64 g.S, .int .i64 g.B, .int .i64 g.P, .int .i64 g.J, .int .i64 g.L, .int .i64 g.E, .int .i64 g.T]] w fun e w' => e = .returned (.int .i64 (totalV g)) ∧ Below w.heap.size w w' := by
  have hf1 := fld_dataS g
  have hf2 := fld_plain ((dataS g).f) ((dataS g).t) ((dataS g).e) (kOf (mayG g) 7)
  go_enter Try.func9, Try.ntmps9
  go_wp2_with fail
  refine (lay_any g _).mono ?_
  rintro e w1 ⟨rfl, hb⟩
  rw [layA]
  go_wp2_with fail
  refine (end_any (dataS g) (dataS_small g) _).mono ?_
  rintro e w2 ⟨rfl, hb2⟩
  go_wp2_with fail
  go_ret
  exact ⟨rfl, (boxed hb).trans (hb2.mono (boxed hb).size)⟩

theorem rest_g (g : G) (w : World) :
    Calls Try.prog 11 #[.agg #[.int .i64 g.N, .int .i64 g.S, .int .i64 g.B, .int .i64 g.P, .int .i64 g.J, .int .i64 g.L, .int .i64 g.E, .int .i64 g.T]] w fun e w' => e = .returned (.int .i64 (restV g)) ∧ Below w.heap.size w w' := by
  have hs := slotS_small g
  unfold Small at hs
  have h1 : 0 ≤ (slotS g).t := hs.2.2.1
  have h2 : (slotS g).t ≤ 4000 := hs.2.2.2.1
  clear hs
  have hf1 := fld_slotS g
  have hf2 := fld_journals ((slotS g).f) ((slotS g).t) ((slotS g).e)
  have hf3 := fld_things ((slotS g).f) ((slotS g).t) ((slotS g).e)
  go_enter Try.func11, Try.ntmps11
  go_wp2_with fail
  refine (lay_any g _).mono ?_
  rintro e w1 ⟨rfl, hb⟩
  rw [layA]
  go_wp2_with fail
  go_ret
  exact ⟨rfl, boxed hb⟩

end Go.Proofs.Ytcgifdmjmkfkpaa
