/-
  Go's '^', '&', '|', '<<' on uint32, int and byte, as plain numbers' own.
-/
import Derived.Test.YtjdacpnfgpdjhaaDoorNumLeaf
import Derived.Laws.BitsAllLaws
namespace Go.Proofs.YtjdacpnfgpdjhaaDoor
open Go.RowKit
set_option linter.unusedVariables false
set_option linter.unusedSimpArgs false

/-- A number's rest by 2^32. -/
def r32 (x : Int) : Nat := (x % 4294967296).toNat
theorem r32_cast (x : Int) : x % 4294967296 = ((r32 x : Nat) : Int) := by unfold r32; omega
theorem r32_lt (x : Int) : r32 x < 4294967296 := by unfold r32; omega
theorem r32_nat {x : Nat} (h : x < 4294967296) : r32 (x : Int) = x := by unfold r32; omega

theorem half_cast (x : Nat) : (x : Int) / 2 = ((x / 2 : Nat) : Int) := by omega

theorem u32_low (x : Nat) (h : x < 4294967296) : bits .and .u32 (x : Int) 1 = ((x % 2 : Nat) : Int) := by
  rw [show (1 : Int) = ((1 : Nat) : Int) from rfl, u32_and_nat x 1 h (by omega), Nat.and_one_is_mod]
theorem u32_top (x : Nat) (h : x < 4294967296) : bits .and .u32 (x : Int) 2147483648 = ((x / 2147483648 % 2 * 2147483648 : Nat) : Int) := by
  rw [show (2147483648 : Int) = ((2147483648 : Nat) : Int) from rfl, u32_and_nat x _ h (by omega)]
  congr 1
  exact nat_bit 31 x
theorem u32_nib (x : Nat) (h : x < 4294967296) : bits .and .u32 (x : Int) 15 = ((x % 16 : Nat) : Int) := by
  rw [show (15 : Int) = ((15 : Nat) : Int) from rfl, u32_and_nat x 15 h (by omega)]
  congr 1
  exact Nat.and_two_pow_sub_one_eq_mod x 4
theorem u32_st_odd (x : Nat) (h : x < 4294967296) (ho : x % 2 = 1) : bits .xor .u32 ((x : Int) / 2) 2197175160 = ((st x : Nat) : Int) := by
  rw [half_cast, show (2197175160 : Int) = ((2197175160 : Nat) : Int) from rfl, u32_xor_nat _ _ (by omega) (by omega)]
  unfold st
  rw [if_pos ho]
theorem st_even (x : Nat) (ho : x % 2 = 0) : (x : Int) / 2 = ((st x : Nat) : Int) := by
  unfold st
  rw [if_neg (by omega), Nat.xor_zero, half_cast]
theorem u32_not (x : Int) : bits .xor .u32 IntKind.u32.max (x % 4294967296) = ((ones (r32 x) : Nat) : Int) := by
  rw [r32_cast, show IntKind.u32.max = ((4294967295 : Nat) : Int) from rfl, u32_xor_nat _ _ (by omega) (r32_lt x), Nat.xor_comm]
  rfl
theorem u32_not_nat (x : Nat) (h : x < 4294967296) : bits .xor .u32 IntKind.u32.max (x : Int) = ((ones x : Nat) : Int) := by
  rw [show IntKind.u32.max = ((4294967295 : Nat) : Int) from rfl, u32_xor_nat _ _ (by omega) h, Nat.xor_comm]
  rfl

theorem ofInt_i64 (a : Nat) (h : a < 9223372036854775808) : (BitVec.ofInt 64 (a : Int)).toNat = a := by
  rw [BitVec.ofInt_natCast, BitVec.toNat_ofNat]; exact Nat.mod_eq_of_lt (by omega)
theorem i64_xor_nat (a b : Nat) (ha : a < 9223372036854775808) (hb : b < 9223372036854775808) : bits .xor .i64 (a : Int) (b : Int) = ((a ^^^ b : Nat) : Int) := by
  have hx : a ^^^ b < 2 ^ 63 := Nat.xor_lt_two_pow (by omega) (by omega)
  show IntKind.i64.wrap ((BitVec.ofInt 64 (a : Int) ^^^ BitVec.ofInt 64 (b : Int)).toNat : Int) = _
  rw [BitVec.toNat_xor, ofInt_i64 a ha, ofInt_i64 b hb, IntKind.wrap_i64]
  omega
theorem i64_or_nat (a b : Nat) (ha : a < 9223372036854775808) (hb : b < 9223372036854775808) : bits .or .i64 (a : Int) (b : Int) = ((a ||| b : Nat) : Int) := by
  have hx : a ||| b < 2 ^ 63 := Nat.or_lt_two_pow (by omega) (by omega)
  show IntKind.i64.wrap ((BitVec.ofInt 64 (a : Int) ||| BitVec.ofInt 64 (b : Int)).toNat : Int) = _
  rw [BitVec.toNat_or, ofInt_i64 a ha, ofInt_i64 b hb, IntKind.wrap_i64]
  omega
/-- 'x & (2^j - 1)' of any int, below 0 too. -/
theorem i64_mask (x : Int) (j : Nat) (hj : j ≤ 62) (m : Nat) (hm : m = 2 ^ j - 1) : bits .and .i64 x (m : Int) = x % ((2 ^ j : Nat) : Int) := by
  have hp : 2 ^ j ≤ 2 ^ 62 := Nat.pow_le_pow_right (by decide) hj
  have hpos := Nat.two_pow_pos j
  have hmlt : m < 9223372036854775808 := by omega
  have e1 : (BitVec.ofInt 64 x).toNat = (x % 18446744073709551616).toNat := by rw [BitVec.toNat_ofInt]; rfl
  show IntKind.i64.wrap ((BitVec.ofInt 64 x &&& BitVec.ofInt 64 (m : Int)).toNat : Int) = _
  rw [BitVec.toNat_and, e1, ofInt_i64 m hmlt, hm, Nat.and_two_pow_sub_one_eq_mod, IntKind.wrap_i64]
  have hlt : (x % 18446744073709551616).toNat % 2 ^ j < 2 ^ j := Nat.mod_lt _ hpos
  have e2 : (((x % 18446744073709551616).toNat % 2 ^ j : Nat) : Int) = x % ((2 ^ j : Nat) : Int) := by
    rw [Int.natCast_emod, Int.toNat_of_nonneg (Int.emod_nonneg _ (by omega))]
    apply Int.emod_emod_of_dvd
    refine ⟨((2 ^ (64 - j) : Nat) : Int), ?_⟩
    rw [← Int.natCast_mul, ← Nat.pow_add, show j + (64 - j) = 64 by omega]
    rfl
  rw [← e2]
  have hp' : 2 ^ j ≤ 4611686018427387904 := hp
  omega
theorem i64_rest (x : Int) : bits .and .i64 x 4294967295 = ((r32 x : Nat) : Int) := by
  have h := i64_mask x 32 (by omega) 4294967295 (by decide)
  rw [← r32_cast]
  exact h
theorem i64_low (x : Int) : bits .and .i64 x 1 = x % 2 := i64_mask x 1 (by omega) 1 (by decide)
theorem i64_st_odd (x : Nat) (h : x < 4294967296) (ho : x % 2 = 1) : bits .xor .i64 ((x : Int) / 2) 2197175160 = ((st x : Nat) : Int) := by
  rw [half_cast, show (2197175160 : Int) = ((2197175160 : Nat) : Int) from rfl, i64_xor_nat _ _ (by omega) (by omega)]
  unfold st
  rw [if_pos ho]
theorem i64_ones (x : Nat) (h : x < 4294967296) : bits .xor .i64 (x : Int) 4294967295 = ((ones x : Nat) : Int) := by
  rw [show (4294967295 : Int) = ((4294967295 : Nat) : Int) from rfl, i64_xor_nat _ _ (by omega) (by omega)]
  rfl

theorem dbl_or_one (y : Nat) : y * 2 ||| 1 = y * 2 + 1 := by
  have h := Nat.two_pow_add_eq_or_of_lt (i := 1) (b := 1) (by decide) y
  rw [Nat.pow_one, Nat.mul_comm 2 y] at h
  exact h.symm
theorem u32_xor_poly (x : Nat) (h : x < 4294967296) : bits .xor .u32 (x : Int) 2197175160 = ((x ^^^ 2197175160 : Nat) : Int) := by
  rw [show (2197175160 : Int) = ((2197175160 : Nat) : Int) from rfl, u32_xor_nat _ _ h (by omega)]
theorem u32_bk_odd (x : Nat) (ho : x / 2147483648 = 1) : bits .or .u32 (((x ^^^ 2197175160 : Nat) : Int) * 2) 1 = ((bk x : Nat) : Int) := by
  have h := top_xor ho
  unfold bk
  rw [if_pos ho, ← dbl_or_one, show (1 : Int) = ((1 : Nat) : Int) from rfl, show (((x ^^^ 2197175160 : Nat) : Int) * 2) = (((x ^^^ 2197175160) * 2 : Nat) : Int) from by omega, u32_or_nat _ _ (by omega) (by omega)]
theorem bk_even (x : Nat) (ho : ¬ x / 2147483648 = 1) : (x : Int) * 2 = ((bk x : Nat) : Int) := by
  unfold bk
  rw [if_neg ho]
  omega
theorem i64_xor_poly (x : Nat) (h : x < 4294967296) : bits .xor .i64 (x : Int) 2197175160 = ((x ^^^ 2197175160 : Nat) : Int) := by
  rw [show (2197175160 : Int) = ((2197175160 : Nat) : Int) from rfl, i64_xor_nat _ _ (by omega) (by omega)]
theorem i64_bk_odd (x : Nat) (ho : x / 2147483648 = 1) : bits .or .i64 (((x ^^^ 2197175160 : Nat) : Int) * 2) 1 = ((bk x : Nat) : Int) := by
  have h := top_xor ho
  unfold bk
  rw [if_pos ho, ← dbl_or_one, show (1 : Int) = ((1 : Nat) : Int) from rfl, show (((x ^^^ 2197175160 : Nat) : Int) * 2) = (((x ^^^ 2197175160) * 2 : Nat) : Int) from by omega, i64_or_nat _ _ (by omega) (by omega)]
theorem w64 (x : Nat) (h : x < 4294967296) : wrap64 (x : Int) = (x : Int) := IntWalk.wrap64_in _ ⟨by omega, by omega⟩

end Go.Proofs.YtjdacpnfgpdjhaaDoor
