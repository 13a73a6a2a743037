/-
  Where a thing stands, by its kind: the law's own helper; what stands at a sector stands there.
-/
import Derived.Test.YtcgifdmjmkfkpaaGeoOpen
namespace Go.Proofs.Ytcgifdmjmkfkpaa
open Go.RowKit
set_option linter.unusedVariables false
set_option linter.unusedSimpArgs false

def secV (g : G) (k a b : Int) : Int :=
  if k = 1 then 0 else if k = 2 then leaseV g a else if k = 3 then paxosV g a else if k = 4 then logV g a else if k = 5 then headV g a else if k = 6 then journalV g a b else if k = 7 then dataV g a b else -1

/-- What stands at a sector: it stands there. -/
theorem what_back {g : G} (h : mayG g = true) {x : Int} (h0 : 0 ≤ x) (h1 : x < totalV g) :
    ∃ k a b : Int, whatV g x = ⟨k, a, b⟩ ∧ 1 ≤ k ∧ k ≤ 7 ∧ b ≤ 4000 ∧ secV g k a b = x := by
  have hg := of_may h
  have hs := slots_bd h
  have hd := data_bd h
  have ht := total_in h
  by_cases c1 : x = 0
  · exact ⟨1, 0, 0, what_super h c1, by omega, by omega, by omega, c1.symm⟩
  by_cases c2 : x < 1 + g.N
  · exact ⟨2, _, 0, what_lease h (by omega), by omega, by omega, by omega, by
      show leaseV g (x - 1) = x
      rw [lease_in h (by omega) (by omega)]; omega⟩
  by_cases c3 : x < 1 + 2 * g.N
  · exact ⟨3, _, 0, what_paxos h (by omega), by omega, by omega, by omega, by
      show paxosV g (x - (1 + g.N)) = x
      rw [paxos_in h (by omega) (by omega)]; omega⟩
  by_cases c4 : x < 1 + 2 * g.N + g.L
  · exact ⟨4, _, 0, what_log h (by omega), by omega, by omega, by omega, by
      show logV g (x - (1 + 2 * g.N)) = x
      rw [log_in h (by omega) (by omega)]; omega⟩
  by_cases c5 : x < 1 + 2 * g.N + g.L + g.S * (1 + g.J)
  · obtain ⟨i0, k0, a0, a1, a2, a3, a4, a5⟩ := slot_parts h ⟨by omega, c5⟩
    rcases a5 with ⟨rfl, hv⟩ | ⟨a5, hv⟩
    · exact ⟨5, _, 0, hv, by omega, by omega, by omega, by
        show headV g i0 = x
        rw [head_in h a0 a1]; omega⟩
    · exact ⟨6, _, _, hv, by omega, by omega, by omega, by
        show journalV g i0 (k0 - 1) = x
        rw [journal_at h a0 a1 (by omega) (by omega)]; omega⟩
  · have hv := what_data h (x := x) ⟨by omega, h1⟩
    have hd0 := data_in h (a := 0) (b := 0) (by omega) (by omega) (by omega) (by omega)
    have e := Int.mul_ediv_add_emod (x - dataV g 0 0) g.P
    have e0 : 0 ≤ (x - dataV g 0 0) % g.P := Int.emod_nonneg _ (by omega)
    have e1 : (x - dataV g 0 0) % g.P < g.P := Int.emod_lt_of_pos _ (by omega)
    have e2 : 0 ≤ (x - dataV g 0 0) / g.P := Int.ediv_nonneg (by omega) (by omega)
    have e3 : (x - dataV g 0 0) / g.P < g.B := Int.ediv_lt_of_lt_mul (by omega) (by omega)
    rw [Int.mul_comm] at e
    exact ⟨7, _, _, hv, by omega, by omega, by omega, by
      show dataV g _ _ = x
      rw [data_in h e2 e3 e0 e1]; omega⟩

set_option maxRecDepth 100000 in
theorem sector_any (g : G) (k a b : Int) (w : World) (hk1 : 1 ≤ k) (hk7 : k ≤ 7) (hb' : b ≤ 9223372036854775807) :
    Calls Try.prog 30 #[.agg #[.int .i64 g.N, .int .i64 g.S, .int .i64 g.B, .int .i64 g.P, .int .i64 g.J, .int .i64 g.L, .int .i64 g.E, .int .i64 g.T], .int .i8 k, .int .i64 a, .int .i64 b] w fun e w' => e = .returned (.int .i64 (secV g k a b)) ∧ Below w.heap.size w w' := by
  rcases (show k = 1 ∨ k = 2 ∨ k = 3 ∨ k = 4 ∨ k = 5 ∨ k = 6 ∨ k = 7 by omega) with rfl | rfl | rfl | rfl | rfl | rfl | rfl
  · go_enter Try.func30, Try.ntmps30
    go_wp2_with fail
    go_ret
    exact ⟨rfl, (Below.refl _ _).alloc (Nat.le_refl _) _⟩
  · go_enter Try.func30, Try.ntmps30
    go_wp2_with fail
    refine (lease_g g a _).mono ?_
    rintro e w1 ⟨rfl, hb⟩
    go_wp2_with fail
    go_ret
    exact ⟨rfl, boxed hb⟩
  · go_enter Try.func30, Try.ntmps30
    go_wp2_with fail
    refine (paxos_g g a _).mono ?_
    rintro e w1 ⟨rfl, hb⟩
    go_wp2_with fail
    go_ret
    exact ⟨rfl, boxed hb⟩
  · go_enter Try.func30, Try.ntmps30
    go_wp2_with fail
    refine (log_g g a _).mono ?_
    rintro e w1 ⟨rfl, hb⟩
    go_wp2_with fail
    go_ret
    exact ⟨rfl, boxed hb⟩
  · go_enter Try.func30, Try.ntmps30
    go_wp2_with fail
    refine (head_g g a _).mono ?_
    rintro e w1 ⟨rfl, hb⟩
    go_wp2_with fail
    go_ret
    exact ⟨rfl, boxed hb⟩
  · go_enter Try.func30, Try.ntmps30
    go_wp2_with fail
    refine (journal_g g a b hb' _).mono ?_
    rintro e w1 ⟨rfl, hb⟩
    go_wp2_with fail
    go_ret
    exact ⟨rfl, boxed hb⟩
  · go_enter Try.func30, Try.ntmps30
    go_wp2_with fail
    refine (data_g g a b _).mono ?_
    rintro e w1 ⟨rfl, hb⟩
    go_wp2_with fail
    go_ret
    exact ⟨rfl, boxed hb⟩

theorem what_w (g : G) (x k a b : Int) (w : World) (h : whatV g x = ⟨k, a, b⟩) :
    Calls Try.prog 26 #[.agg #[.int .i64 g.N, .int .i64 g.S, .int .i64 g.B, .int .i64 g.P, .int .i64 g.J, .int .i64 g.L, .int .i64 g.E, .int .i64 g.T], .int .i64 x] w fun e w' => e = .returned (.tuple #[.int .i8 k, .int .i64 a, .int .i64 b]) ∧ Below w.heap.size w w' := by
  have := what_g g x w
  rw [h] at this
  exact this

end Go.Proofs.Ytcgifdmjmkfkpaa
