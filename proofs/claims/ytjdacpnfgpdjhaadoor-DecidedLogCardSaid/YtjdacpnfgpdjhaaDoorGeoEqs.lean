/-
  geo: where each thing stands, in the document's own words.
-/
import Derived.Test.YtjdacpnfgpdjhaaDoorGeoMath
namespace Go.Proofs.YtjdacpnfgpdjhaaDoor
set_option linter.unusedVariables false
set_option linter.unusedSimpArgs false

theorem at_zero (x k : Int) : atV ⟨0, 0, 0⟩ x k = -1 := atV_no (atB_no (by simp only; omega))
section
variable {g : G}
theorem lease_nil (h : mayG g = false) (a : Int) : leaseV g a = -1 := by rw [leaseV, leaseS, stOf_no h, at_zero]
theorem paxos_nil (h : mayG g = false) (a : Int) : paxosV g a = -1 := by rw [paxosV, ballotS, stOf_no h, at_zero]
theorem log_nil (h : mayG g = false) (a : Int) : logV g a = -1 := by rw [logV, logS, stOf_no h, at_zero]
theorem head_nil (h : mayG g = false) (a : Int) : headV g a = -1 := by rw [headV, slotS, stOf_no h, at_zero]
theorem data_nil (h : mayG g = false) (a b : Int) : dataV g a b = -1 := by rw [dataV, dataS, stOf_no h, at_zero]
theorem journal_nil (h : mayG g = false) (a b : Int) : journalV g a b = -1 := by
  rw [journalV, placeV, slotS, stOf_no h]
  exact if_pos (.inr rfl)
theorem total_nil (h : mayG g = false) : totalV g = 0 := by rw [totalV, dataS, stOf_no h]; rfl
theorem rest_nil (h : mayG g = false) : restV g = 0 := by rw [restV, slotS, stOf_no h]; rfl

theorem at_in {f t e x k : Int} (h : 0 ≤ x ∧ x < t ∧ 0 ≤ k ∧ k < e) : atV ⟨f, t, e⟩ x k = f + x * e + k := atV_yes (decide_eq_true h)
theorem at_out {f t e x k : Int} (h : x < 0 ∨ t ≤ x ∨ k < 0 ∨ e ≤ k) : atV ⟨f, t, e⟩ x k = -1 := atV_no (atB_no h)

theorem lease_in (h : mayG g = true) {a : Int} (h0 : 0 ≤ a) (h1 : a < g.N) : leaseV g a = 1 + a := by
  rw [leaseV, leaseS, stOf_yes h, at_in (by omega)]; omega
theorem lease_out (h : mayG g = true) {a : Int} (h0 : a < 0 ∨ g.N ≤ a) : leaseV g a = -1 := by
  rw [leaseV, leaseS, stOf_yes h, at_out (by omega)]
theorem paxos_in (h : mayG g = true) {a : Int} (h0 : 0 ≤ a) (h1 : a < g.N) : paxosV g a = 1 + g.N + a := by
  rw [paxosV, ballotS, stOf_yes h, at_in (by omega)]; omega
theorem paxos_out (h : mayG g = true) {a : Int} (h0 : a < 0 ∨ g.N ≤ a) : paxosV g a = -1 := by
  rw [paxosV, ballotS, stOf_yes h, at_out (by omega)]
theorem log_in (h : mayG g = true) {a : Int} (h0 : 0 ≤ a) (h1 : a < g.L) : logV g a = 1 + 2 * g.N + a := by
  rw [logV, logS, stOf_yes h, at_in (by omega)]; omega
theorem log_out (h : mayG g = true) {a : Int} (h0 : a < 0 ∨ g.L ≤ a) : logV g a = -1 := by
  rw [logV, logS, stOf_yes h, at_out (by omega)]
theorem head_in (h : mayG g = true) {a : Int} (h0 : 0 ≤ a) (h1 : a < g.S) : headV g a = 1 + 2 * g.N + g.L + a * (1 + g.J) := by
  have := of_may h
  rw [headV, slotS, stOf_yes h, at_in (by omega), Int.add_zero]
theorem head_out (h : mayG g = true) {a : Int} (h0 : a < 0 ∨ g.S ≤ a) : headV g a = -1 := by
  rw [headV, slotS, stOf_yes h, at_out (by omega)]
theorem data_in (h : mayG g = true) {a b : Int} (h0 : 0 ≤ a) (h1 : a < g.B) (h2 : 0 ≤ b) (h3 : b < g.P) : dataV g a b = 1 + 2 * g.N + g.L + g.S * (1 + g.J) + a * g.P + b := by
  rw [dataV, dataS, stOf_yes h, at_in (by omega)]
theorem data_out (h : mayG g = true) {a b : Int} (h0 : a < 0 ∨ g.B ≤ a ∨ b < 0 ∨ g.P ≤ b) : dataV g a b = -1 := by
  rw [dataV, dataS, stOf_yes h, at_out (by omega)]
theorem journal_in (h : mayG g = true) {a b : Int} (h0 : 0 ≤ a) (h1 : a < g.S) (h2 : 0 ≤ b) : journalV g a b = 1 + 2 * g.N + g.L + a * (1 + g.J) + 1 + b % g.J := by
  have hg := of_may h
  have hq : 0 ≤ b % g.J := Int.emod_nonneg _ (by omega)
  have hq' : b % g.J < g.J := Int.emod_lt_of_pos _ (by omega)
  rw [journalV, slotS, stOf_yes h, placeV, if_neg (by simp only; omega)]
  simp only
  rw [show 1 + g.J - 1 = g.J by omega, at_in (by omega)]
  omega
theorem journal_out (h : mayG g = true) {a b : Int} (h0 : a < 0 ∨ g.S ≤ a ∨ b < 0) : journalV g a b = -1 := by
  have hg := of_may h
  rw [journalV, slotS, stOf_yes h, placeV]
  by_cases hb : b < 0
  · rw [if_pos (.inl hb)]
  · rw [if_neg (by simp only; omega)]
    exact at_out (by omega)
theorem total_in (h : mayG g = true) : totalV g = 1 + 2 * g.N + g.L + g.S * (1 + g.J) + g.B * g.P := by
  rw [totalV, dataS, stOf_yes h]; rfl
theorem rest_in (h : mayG g = true) : restV g = 4 * g.S := by
  rw [restV, slotS, stOf_yes h]

theorem head_bd (h : mayG g = true) {a : Int} (h0 : 0 ≤ a) (h1 : a < g.S) : 0 ≤ a * (1 + g.J) ∧ a * (1 + g.J) ≤ 1040 ∧ a * (1 + g.J) + (1 + g.J) ≤ g.S * (1 + g.J) := by
  have := of_may h
  have h2 := mul_bd (a := a) (b := 1 + g.J) (x := 16) (y := 65) (by omega) (by omega) (by omega) (by omega)
  have h3 := Int.mul_le_mul_of_nonneg_right (show a + 1 ≤ g.S by omega) (show 0 ≤ 1 + g.J by omega)
  rw [Int.add_mul, Int.one_mul] at h3
  omega
theorem block_bd (h : mayG g = true) {a : Int} (h0 : 0 ≤ a) (h1 : a < g.B) : 0 ≤ a * g.P ∧ a * g.P ≤ 512 ∧ a * g.P + g.P ≤ g.B * g.P := by
  have := of_may h
  have h2 := mul_bd (a := a) (b := g.P) (x := 64) (y := 8) (by omega) (by omega) (by omega) (by omega)
  have h3 := Int.mul_le_mul_of_nonneg_right (show a + 1 ≤ g.B by omega) (show 0 ≤ g.P by omega)
  rw [Int.add_mul, Int.one_mul] at h3
  omega
end

/-! ### What stands where, by the sector's number -/
theorem has_at (f t e x : Int) : hasV ⟨f, t, e⟩ x = decide (f ≤ x ∧ x < f + t * e) := rfl
theorem has_zero (x : Int) : hasV ⟨0, 0, 0⟩ x = false := by rw [has_at]; exact decide_eq_false (by omega)
section
variable {g : G} {x : Int}
theorem what_nil (h : mayG g = false) : whatV g x = ⟨0, 0, 0⟩ := by
  unfold whatV superS leaseS ballotS logS dataS slotS
  simp only [stOf_no h, has_zero]
  rfl
theorem has_super (h : mayG g = true) : hasV (superS g) x = decide (0 ≤ x ∧ x < 1) := by
  rw [superS, stOf_yes h, has_at]; congr 1
theorem has_lease (h : mayG g = true) : hasV (leaseS g) x = decide (1 ≤ x ∧ x < 1 + g.N) := by
  rw [leaseS, stOf_yes h, has_at, Int.mul_one]
theorem has_ballot (h : mayG g = true) : hasV (ballotS g) x = decide (1 + g.N ≤ x ∧ x < 1 + g.N + g.N) := by
  rw [ballotS, stOf_yes h, has_at, Int.mul_one]
theorem has_log (h : mayG g = true) : hasV (logS g) x = decide (1 + 2 * g.N ≤ x ∧ x < 1 + 2 * g.N + g.L) := by
  rw [logS, stOf_yes h, has_at, Int.mul_one]
theorem has_slot (h : mayG g = true) : hasV (slotS g) x = decide (1 + 2 * g.N + g.L ≤ x ∧ x < 1 + 2 * g.N + g.L + g.S * (1 + g.J)) := by
  rw [slotS, stOf_yes h, has_at]
theorem has_data (h : mayG g = true) : hasV (dataS g) x = decide (1 + 2 * g.N + g.L + g.S * (1 + g.J) ≤ x ∧ x < 1 + 2 * g.N + g.L + g.S * (1 + g.J) + g.B * g.P) := by
  rw [dataS, stOf_yes h, has_at]
theorem dec_no {p : Prop} [Decidable p] (h : ¬ p) : ¬ (decide p = true) := by simpa using h

theorem what_out (h : mayG g = true) (hx : x < 0 ∨ totalV g ≤ x) : whatV g x = ⟨0, 0, 0⟩ := by
  have hg := of_may h
  have hs := slots_bd h
  have hd := data_bd h
  rw [total_in h] at hx
  rw [whatV, has_super h, has_lease h, has_ballot h, has_log h, has_data h, has_slot h, if_neg (dec_no (by omega)), if_neg (dec_no (by omega)), if_neg (dec_no (by omega)), if_neg (dec_no (by omega)), if_neg (dec_no (by omega)), if_neg (dec_no (by omega))]
theorem what_super (h : mayG g = true) (hx : x = 0) : whatV g x = ⟨1, 0, 0⟩ := by
  subst hx
  rw [whatV, has_super h, if_pos (by decide), kOf_yes h, superS, stOf_yes h]
  rfl
theorem what_lease (h : mayG g = true) (hx : 1 ≤ x ∧ x < 1 + g.N) : whatV g x = ⟨2, x - 1, 0⟩ := by
  rw [whatV, has_super h, has_lease h, if_neg (dec_no (by omega)), if_pos (decide_eq_true hx), kOf_yes h, leaseS, stOf_yes h, plainW]
  simp only [Int.ediv_one, Int.emod_one]
theorem what_paxos (h : mayG g = true) (hx : 1 + g.N ≤ x ∧ x < 1 + 2 * g.N) : whatV g x = ⟨3, x - (1 + g.N), 0⟩ := by
  rw [whatV, has_super h, has_lease h, has_ballot h, if_neg (dec_no (by omega)), if_neg (dec_no (by omega)), if_pos (decide_eq_true (by omega)), kOf_yes h, ballotS, stOf_yes h, plainW]
  simp only [Int.ediv_one, Int.emod_one]
theorem what_log (h : mayG g = true) (hx : 1 + 2 * g.N ≤ x ∧ x < 1 + 2 * g.N + g.L) : whatV g x = ⟨4, x - (1 + 2 * g.N), 0⟩ := by
  have hg := of_may h
  rw [whatV, has_super h, has_lease h, has_ballot h, has_log h, if_neg (dec_no (by omega)), if_neg (dec_no (by omega)), if_neg (dec_no (by omega)), if_pos (decide_eq_true hx), kOf_yes h, logS, stOf_yes h, plainW]
  simp only [Int.ediv_one, Int.emod_one]
theorem what_slot (h : mayG g = true) (hx : 1 + 2 * g.N + g.L ≤ x ∧ x < 1 + 2 * g.N + g.L + g.S * (1 + g.J)) :
    whatV g x = if (x - (1 + 2 * g.N + g.L)) % (1 + g.J) = 0 then ⟨5, (x - (1 + 2 * g.N + g.L)) / (1 + g.J), 0⟩ else ⟨6, (x - (1 + 2 * g.N + g.L)) / (1 + g.J), (x - (1 + 2 * g.N + g.L)) % (1 + g.J) - 1⟩ := by
  have hg := of_may h
  rw [whatV, has_super h, has_lease h, has_ballot h, has_log h, has_data h, has_slot h, if_neg (dec_no (by omega)), if_neg (dec_no (by omega)), if_neg (dec_no (by omega)), if_neg (dec_no (by omega)), if_neg (dec_no (by omega)), if_pos (decide_eq_true hx), slotW, slotS, stOf_yes h]
theorem what_data (h : mayG g = true) (hx : 1 + 2 * g.N + g.L + g.S * (1 + g.J) ≤ x ∧ x < totalV g) :
    whatV g x = ⟨7, (x - dataV g 0 0) / g.P, (x - dataV g 0 0) % g.P⟩ := by
  have hg := of_may h
  have hs := slots_bd h
  rw [total_in h] at hx
  have hd := data_in h (a := 0) (b := 0) (by omega) (by omega) (by omega) (by omega)
  rw [show dataV g 0 0 = 1 + 2 * g.N + g.L + g.S * (1 + g.J) by rw [hd]; omega]
  rw [whatV, has_super h, has_lease h, has_ballot h, has_log h, has_data h, if_neg (dec_no (by omega)), if_neg (dec_no (by omega)), if_neg (dec_no (by omega)), if_neg (dec_no (by omega)), if_pos (decide_eq_true hx), kOf_yes h, dataS, stOf_yes h, plainW]

/-- A sector among the slots: whose, and which. -/
theorem slot_parts (h : mayG g = true) (hx : 1 + 2 * g.N + g.L ≤ x ∧ x < 1 + 2 * g.N + g.L + g.S * (1 + g.J)) :
    ∃ i k : Int, 0 ≤ i ∧ i < g.S ∧ 0 ≤ k ∧ k ≤ g.J ∧ x = 1 + 2 * g.N + g.L + i * (1 + g.J) + k ∧ ((k = 0 ∧ whatV g x = ⟨5, i, 0⟩) ∨ (1 ≤ k ∧ whatV g x = ⟨6, i, k - 1⟩)) := by
  have hg := of_may h
  have e := Int.mul_ediv_add_emod (x - (1 + 2 * g.N + g.L)) (1 + g.J)
  have h0 : 0 ≤ (x - (1 + 2 * g.N + g.L)) % (1 + g.J) := Int.emod_nonneg _ (by omega)
  have h1 : (x - (1 + 2 * g.N + g.L)) % (1 + g.J) < 1 + g.J := Int.emod_lt_of_pos _ (by omega)
  have h2 : 0 ≤ (x - (1 + 2 * g.N + g.L)) / (1 + g.J) := Int.ediv_nonneg (by omega) (by omega)
  have h3 : (x - (1 + 2 * g.N + g.L)) / (1 + g.J) < g.S := Int.ediv_lt_of_lt_mul (by omega) (by omega)
  have hw := what_slot h hx
  rw [Int.mul_comm] at e
  refine ⟨_, _, h2, h3, h0, by omega, by omega, ?_⟩
  by_cases hz : (x - (1 + 2 * g.N + g.L)) % (1 + g.J) = 0
  · rw [if_pos hz] at hw
    exact .inl ⟨hz, hw⟩
  · rw [if_neg hz] at hw
    exact .inr ⟨by omega, hw⟩
theorem journal_at (h : mayG g = true) {a b : Int} (h0 : 0 ≤ a) (h1 : a < g.S) (h2 : 0 ≤ b) (h3 : b < g.J) : journalV g a b = 1 + 2 * g.N + g.L + a * (1 + g.J) + 1 + b := by
  rw [journal_in h h0 h1 h2, Int.emod_eq_of_lt h2 h3]
/-- Slots one behind the other. -/
theorem slot_step (h : mayG g = true) {a b : Int} (h1 : a < b) : a * (1 + g.J) + (1 + g.J) ≤ b * (1 + g.J) := by
  have := of_may h
  have h3 := Int.mul_le_mul_of_nonneg_right (show a + 1 ≤ b by omega) (show 0 ≤ 1 + g.J by omega)
  rwa [Int.add_mul, Int.one_mul] at h3
end

end Go.Proofs.YtjdacpnfgpdjhaaDoor
