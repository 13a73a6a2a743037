/-
  Whether deeds are too many, or too great, is told.
-/
import Derived.Test.YtleemgjbihdbgaaDevOpen
namespace Go.Proofs.Ytleemgjbihdbgaa
open Go.RowKit
set_option linter.unusedVariables false
set_option linter.unusedSimpArgs false

/-- Deeds that are too many, or too great: of the first 101 one whose text is longer than 2000, or more than 100. -/
def greatB (X : Nat → DeedM) (n : Nat) : Bool := ((List.range (min n 101)).any fun i => decide (2000 < (X i).a.b.size)) || decide (100 < n)
def greatTo (X : Nat → DeedM) (k : Nat) : Bool := (List.range k).any fun i => decide (2000 < (X i).a.b.size)
theorem great_next {X : Nat → DeedM} {k : Nat} (h : greatTo X k = false) (hk : ¬ 2000 < (X k).a.b.size) : greatTo X (k + 1) = false := by
  unfold greatTo at h ⊢
  rw [List.range_succ, List.any_append, h]
  simp [hk]
theorem great_yes {X : Nat → DeedM} {k n : Nat} (hk : k < n) (h1 : k ≤ 100) (h : 2000 < (X k).a.b.size) : greatB X n = true := by
  unfold greatB
  rw [Bool.or_eq_true]
  left
  rw [List.any_eq_true]
  exact ⟨k, List.mem_range.2 (by omega), decide_eq_true h⟩
theorem great_end {X : Nat → DeedM} {k n : Nat} (hk : k = min n 101) (h : greatTo X k = false) : greatB X n = decide (100 < n) := by
  unfold greatB
  unfold greatTo at h
  rw [← hk, h, Bool.false_or]
/-- Deeds that are neither. -/
theorem great_no {X : Nat → DeedM} {n : Nat} (h : greatB X n = false) : n ≤ 100 ∧ ∀ i, i < n → (X i).a.b.size ≤ 2000 := by
  unfold greatB at h
  rw [Bool.or_eq_false_iff] at h
  have hn : n ≤ 100 := by have := of_decide_eq_false h.2; omega
  refine ⟨hn, fun i hi => ?_⟩
  have h1 := List.any_eq_false.1 h.1 i (List.mem_range.2 (by omega))
  have := of_decide_eq_false (by simpa using h1 : decide (2000 < (X i).a.b.size) = false)
  omega

set_option maxRecDepth 100000 in
set_option maxHeartbeats 1000000 in
theorem great_any (a : Option Addr) (n cap : Nat) (X : Nat → DeedM) (w0 w : World) (h : IsDeeds w0 a n cap X) (hb : Below w0.heap.size w0 w) :
    Calls Try.prog 6 #[.slice a n cap] w fun e w' => e = .returned (.bool (greatB X n)) ∧ w = w' := by
  have hn : n ≤ maxLen := by
    rcases h with ⟨_, h1, _⟩ | ⟨_, _, h1, h2, _⟩
    · omega
    · omega
  unfold maxLen at hn
  go_enter Try.func6, Try.ntmps6
  go_wp2_with fail
  go_loopw [3] (fun i wr => ∃ k : Nat, k ≤ n ∧ k ≤ 101 ∧ i = .int .i64 (k : Int) ∧ wr = w ∧ Hid (greatTo X k = false)) (fun i _ => 101 - (intOf i).toNat)
  case atStart => exact ⟨0, Nat.zero_le _, by omega, rfl, rfl, rfl⟩
  case round =>
    obtain ⟨k, hk, hk2, rfl, rfl, HF⟩ := hrel
    by_cases hlt : k < n
    · by_cases hle : k ≤ 100
      · obtain ⟨p, rfl, hD⟩ : ∃ p : Addr, a = some p ∧ ∀ i, i < n → DeedAt w0 (p.add (i * 7)) (X i) ∧ DeedBd (X i) := by
          rcases h with ⟨_, h1, _⟩ | ⟨p, h1, _, _, h4⟩
          · omega
          · exact ⟨p, h1, h4⟩
        obtain ⟨⟨_, _, _, _, d4, _, _⟩, hbd⟩ := hD k hlt
        have l4 := (hb.cell (World.block_lt_of_cell? w0 _ d4)).trans d4
        have l5 : wr.cell? ⟨(p.add (k * 7)).block, (p.add (k * 7)).off + 4, none⟩ = some (.string (X k).a.b) := by
          rw [← l4]
          simp [Addr.add]
        have hsz := hbd.b
        unfold maxLen at hsz
        have HY := Lib.hid (fun hh => great_yes (X := X) hlt hle hh)
        have HN := Lib.hid (fun hh => great_next HF.out hh)
        clear hD d4 hbd h HF
        generalize (X k).a.b = tx at *
        by_cases hx : 2000 < tx.size
        · have hd : decide ((2000 : Int) < (tx.size : Int)) = true := decide_eq_true (by omega)
          have HB : Hid (greatB X n = true) := HY.out hx
          clear hx HY HN
          go_wp2_with fail
          go_ret
          exact ⟨by rw [HB.out]; rfl, rfl⟩
        · have hd : decide ((2000 : Int) < (tx.size : Int)) = false := decide_eq_false (by omega)
          have HX : Hid (greatTo X (k + 1) = false) := HN.out hx
          clear hx HY HN
          go_wp2_with fail
          go_roundw
          case rel => exact ⟨k + 1, by omega, by omega, by go_num, trivial, HX⟩
          simp [intOf]; omega
      · have HB : Hid (greatB X n = decide (100 < n)) := great_end (by omega) HF.out
        have hd : decide ((100 : Int) < (n : Int)) = decide (100 < n) := by by_cases hh : 100 < n <;> simp [hh] <;> omega
        clear HF
        go_wp2_with fail
        go_ret
        exact ⟨by rw [HB.out, ← hd]; rfl, rfl⟩
    · have HB : Hid (greatB X n = decide (100 < n)) := great_end (by omega) HF.out
      have hd : decide ((100 : Int) < (n : Int)) = decide (100 < n) := by by_cases hh : 100 < n <;> simp [hh] <;> omega
      clear HF
      go_wp2_with fail
      go_ret
      exact ⟨by rw [HB.out, ← hd]; rfl, rfl⟩

end Go.Proofs.Ytleemgjbihdbgaa
