/-
  One bit of a sealed sector turned about, in a fresh row of its bytes: it is none any more.
-/
import Derived.Test.YtgllamjgagbblaaDoorSealHarm
import Derived.Test.YtgllamjgagbblaaDoorFresh
namespace Go.Proofs.YtgllamjgagbblaaDoor
open Go.RowKit
set_option linter.unusedVariables false
set_option linter.unusedSimpArgs false

/-- '((x % m) + m) % m' is from 0 to m - 1. -/
theorem turn_rest (x : Int) (m : Nat) (hm : 0 < m) (h2 : m ≤ 1000000) : ∃ n : Nat, n < m ∧ (wrap64 (x.tmod m + m)).tmod m = (n : Int) := by
  have h1 := Int.lt_tmod_of_pos x (show (0 : Int) < m by omega)
  have h3 := Int.tmod_lt_of_pos x (show (0 : Int) < m by omega)
  rw [IntWalk.wrap64_in _ ⟨by omega, by omega⟩]
  have h4 := Int.tmod_nonneg (m : Int) (show 0 ≤ x.tmod m + m by omega)
  have h5 := Int.tmod_lt_of_pos (x.tmod m + m) (show (0 : Int) < m by omega)
  exact ⟨((x.tmod m + m).tmod m).toNat, by omega, by omega⟩
theorem turn_u8 (q j : Nat) (hq : q < 256) (hj : j < 8) : bits .xor .u8 (q : Int) (2 ^ j % 256) = ((q ^^^ 2 ^ j : Nat) : Int) := by
  have hp : 2 ^ j < 256 := Nat.pow_lt_pow_right (a := 2) (by decide) hj
  have e : (2 : Int) ^ j % 256 = ((2 ^ j : Nat) : Int) := by
    have h : ((2 : Int) ^ j) = ((2 ^ j : Nat) : Int) := by rw [Int.natCast_pow]; rfl
    rw [h]
    exact Int.emod_eq_of_lt (Int.natCast_nonneg _) (Int.ofNat_lt.2 hp)
  rw [e, u8_xor_nat q _ hq hp]
/-- The bytes with one bit turned about; as a text. -/
def turnL (cs : List Nat) (n : Nat) : List Nat := cs.set (n / 8) (cs.getD (n / 8) 0 ^^^ 2 ^ (n % 8))
def turnS (t : ByteArray) (n : Nat) : ByteArray := strOfNums (ints (turnL (nats (bytesI t)) n))
theorem turnL_length (cs : List Nat) (n : Nat) : (turnL cs n).length = cs.length := by unfold turnL; rw [List.length_set]
theorem turnL_bytes {cs : List Nat} (h : Bytes cs) {n : Nat} (hn : n / 8 < cs.length) : Bytes (turnL cs n) := by
  intro x hx
  rcases List.mem_or_eq_of_mem_set hx with h1 | h1
  · exact h x h1
  · rw [h1, List.getD, List.getElem?_eq_getElem hn]
    have hq := h _ (List.getElem_mem hn)
    have hp : 2 ^ (n % 8) < 2 ^ 8 := Nat.pow_lt_pow_right (by decide) (Nat.mod_lt _ (by decide))
    exact Nat.xor_lt_two_pow (n := 8) (by simpa using hq) hp
theorem turnL_val {cs : List Nat} {n : Nat} (hn : n / 8 < cs.length) : val (turnL cs n) = val cs ^^^ 1 % 2 ^ 1 * 2 ^ n := by
  unfold turnL
  rw [List.getD, List.getElem?_eq_getElem hn, Option.getD_some, val_set, bit_place]
  rw [show 1 % 2 ^ 1 = 1 from rfl, Nat.one_mul]
theorem turnS_size (t : ByteArray) (n : Nat) : (turnS t n).size = t.size := by unfold turnS; rw [strOfNums_size, ints_length, turnL_length, nats_length, bytesI_length]
theorem turn_isS {k : Int} {s : ByteArray} (hk1 : 1 ≤ k) (hk2 : k ≤ 127) (hs : s.size ≤ 505) {n : Nat} (hn : n < 8 * (sealS k s).size) : isS (turnS (sealS k s) n) = false := by
  have hsz := sealS_size k s
  have hl : n / 8 < (nats (bytesI (sealS k s))).length := by rw [nats_length, bytesI_length]; omega
  have hcb := turnL_bytes (bytes_nats (bytesI_bytes (sealS k s))) hl
  have hv := turnL_val hl
  have hcl := turnL_length (nats (bytesI (sealS k s))) n
  unfold isS turnS
  rw [bytesI_strOfNums (ints_bytes hcb)]
  generalize turnL (nats (bytesI (sealS k s))) n = c at *
  rw [bytesI_sealS (by omega) (by omega)] at hv hcl
  rw [nats_length, sealI_length] at hcl
  rw [harm_iff hk1 hk2 (bytesI_bytes s) (by rw [bytesI_length]; exact hs) hcb hcl hv (by omega) (by rw [bytesI_length]; omega)]
  rfl
/-- A fresh row of a text's bytes, a bit of which is turned about: it is converted to the turned text. -/
theorem turn_conv {wr : World} {g c m : Nat} {t : ByteArray} {n : Nat} (h : FreshAt wr g 5 (nats (bytesI t))) (hn : n < 8 * t.size) (hm : t.size = m) :
    (convert 31 9 (.slice (some ⟨g, 0, none⟩) m c)).run Tryd.prog (wr.setCell ⟨g, n / 8, none⟩ (.int .u8 (bits .xor .u8 (((nats (bytesI t)).getD (n / 8) 0 : Nat) : Int) (2 ^ (n % 8) % 256)))) = .ok (.string (turnS t n)) (wr.setCell ⟨g, n / 8, none⟩ (.int .u8 (bits .xor .u8 (((nats (bytesI t)).getD (n / 8) 0 : Nat) : Int) (2 ^ (n % 8) % 256)))) := by
  have hl : n / 8 < (nats (bytesI t)).length := by rw [nats_length, bytesI_length]; omega
  have hlen : (nats (bytesI t)).length = m := by rw [nats_length, bytesI_length, hm]
  have hq : (nats (bytesI t)).getD (n / 8) 0 < 256 := by
    rw [List.getD, List.getElem?_eq_getElem hl]
    exact bytes_nats (bytesI_bytes t) _ (List.getElem_mem hl)
  rw [turn_u8 _ _ hq (Nat.mod_lt _ (by decide))]
  have hf := h.set (n / 8) ((nats (bytesI t)).getD (n / 8) 0 ^^^ 2 ^ (n % 8))
  have hlies := hf.lies
  rw [List.length_set, hlen] at hlies
  have e : bv ((nats (bytesI t)).set (n / 8) ((nats (bytesI t)).getD (n / 8) 0 ^^^ 2 ^ (n % 8))) = (ints (turnL (nats (bytesI t)) n)).map (Value.int .u8) := by
    unfold bv ints turnL
    rw [List.map_map]
    rfl
  rw [e] at hlies
  exact conv_lies 31 9 5 Tryd.underlying31 Tryd.underlying5 Tryd.underlying9 hlies

end Go.Proofs.YtgllamjgagbblaaDoor
