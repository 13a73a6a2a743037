/- Joined: CrcBits, CrcLeaf, CrcTake, CrcRefs. -/
import Derived.Test.YtjdacpnfgpdjhaaDoorJoinDevAt
import Derived.Laws.BitsAllLaws
/-
  Go's '^', '&', '|', '<<' on uint32, int and byte, as plain numbers' own.
-/
namespace Go.Proofs.YtjdacpnfgpdjhaaDoor
open Go.RowKit
set_option linter.unusedVariables false
set_option linter.unusedSimpArgs false

/-- A number's rest by 2^32. -/
def r32 (x : Int) : Nat := (x % 4294967296).toNat
theorem r32_cast (x : Int) : x % 4294967296 = ((r32 x : Nat) : Int) := by unfold r32; omega
theorem r32_lt (x : Int) : r32 x < 4294967296 := by unfold r32; omega
theorem r32_nat {x : Nat} (h : x < 4294967296) : r32 (x : Int) = x := by unfold r32; omega

theorem half_cast (x : Nat) : (x : Int) / 2 = ((x / 2 : Nat) : Int) := by omega

theorem u32_low (x : Nat) (h : x < 4294967296) : bits .and .u32 (x : Int) 1 = ((x % 2 : Nat) : Int) := by
  rw [show (1 : Int) = ((1 : Nat) : Int) from rfl, u32_and_nat x 1 h (by omega), Nat.and_one_is_mod]
theorem u32_top (x : Nat) (h : x < 4294967296) : bits .and .u32 (x : Int) 2147483648 = ((x / 2147483648 % 2 * 2147483648 : Nat) : Int) := by
  rw [show (2147483648 : Int) = ((2147483648 : Nat) : Int) from rfl, u32_and_nat x _ h (by omega)]
  congr 1
  exact nat_bit 31 x
theorem u32_nib (x : Nat) (h : x < 4294967296) : bits .and .u32 (x : Int) 15 = ((x % 16 : Nat) : Int) := by
  rw [show (15 : Int) = ((15 : Nat) : Int) from rfl, u32_and_nat x 15 h (by omega)]
  congr 1
  exact Nat.and_two_pow_sub_one_eq_mod x 4
theorem u32_st_odd (x : Nat) (h : x < 4294967296) (ho : x % 2 = 1) : bits .xor .u32 ((x : Int) / 2) 2197175160 = ((st x : Nat) : Int) := by
  rw [half_cast, show (2197175160 : Int) = ((2197175160 : Nat) : Int) from rfl, u32_xor_nat _ _ (by omega) (by omega)]
  unfold st
  rw [if_pos ho]
theorem st_even (x : Nat) (ho : x % 2 = 0) : (x : Int) / 2 = ((st x : Nat) : Int) := by
  unfold st
  rw [if_neg (by omega), Nat.xor_zero, half_cast]
theorem u32_not (x : Int) : bits .xor .u32 IntKind.u32.max (x % 4294967296) = ((ones (r32 x) : Nat) : Int) := by
  rw [r32_cast, show IntKind.u32.max = ((4294967295 : Nat) : Int) from rfl, u32_xor_nat _ _ (by omega) (r32_lt x), Nat.xor_comm]
  rfl
theorem u32_not_nat (x : Nat) (h : x < 4294967296) : bits .xor .u32 IntKind.u32.max (x : Int) = ((ones x : Nat) : Int) := by
  rw [show IntKind.u32.max = ((4294967295 : Nat) : Int) from rfl, u32_xor_nat _ _ (by omega) h, Nat.xor_comm]
  rfl

theorem ofInt_i64 (a : Nat) (h : a < 9223372036854775808) : (BitVec.ofInt 64 (a : Int)).toNat = a := by
  rw [BitVec.ofInt_natCast, BitVec.toNat_ofNat]; exact Nat.mod_eq_of_lt (by omega)
theorem i64_xor_nat (a b : Nat) (ha : a < 9223372036854775808) (hb : b < 9223372036854775808) : bits .xor .i64 (a : Int) (b : Int) = ((a ^^^ b : Nat) : Int) := by
  have hx : a ^^^ b < 2 ^ 63 := Nat.xor_lt_two_pow (by omega) (by omega)
  show IntKind.i64.wrap ((BitVec.ofInt 64 (a : Int) ^^^ BitVec.ofInt 64 (b : Int)).toNat : Int) = _
  rw [BitVec.toNat_xor, ofInt_i64 a ha, ofInt_i64 b hb, IntKind.wrap_i64]
  omega
theorem i64_or_nat (a b : Nat) (ha : a < 9223372036854775808) (hb : b < 9223372036854775808) : bits .or .i64 (a : Int) (b : Int) = ((a ||| b : Nat) : Int) := by
  have hx : a ||| b < 2 ^ 63 := Nat.or_lt_two_pow (by omega) (by omega)
  show IntKind.i64.wrap ((BitVec.ofInt 64 (a : Int) ||| BitVec.ofInt 64 (b : Int)).toNat : Int) = _
  rw [BitVec.toNat_or, ofInt_i64 a ha, ofInt_i64 b hb, IntKind.wrap_i64]
  omega
/-- 'x & (2^j - 1)' of any int, below 0 too. -/
theorem i64_mask (x : Int) (j : Nat) (hj : j ≤ 62) (m : Nat) (hm : m = 2 ^ j - 1) : bits .and .i64 x (m : Int) = x % ((2 ^ j : Nat) : Int) := by
  have hp : 2 ^ j ≤ 2 ^ 62 := Nat.pow_le_pow_right (by decide) hj
  have hpos := Nat.two_pow_pos j
  have hmlt : m < 9223372036854775808 := by omega
  have e1 : (BitVec.ofInt 64 x).toNat = (x % 18446744073709551616).toNat := by rw [BitVec.toNat_ofInt]; rfl
  show IntKind.i64.wrap ((BitVec.ofInt 64 x &&& BitVec.ofInt 64 (m : Int)).toNat : Int) = _
  rw [BitVec.toNat_and, e1, ofInt_i64 m hmlt, hm, Nat.and_two_pow_sub_one_eq_mod, IntKind.wrap_i64]
  have hlt : (x % 18446744073709551616).toNat % 2 ^ j < 2 ^ j := Nat.mod_lt _ hpos
  have e2 : (((x % 18446744073709551616).toNat % 2 ^ j : Nat) : Int) = x % ((2 ^ j : Nat) : Int) := by
    rw [Int.natCast_emod, Int.toNat_of_nonneg (Int.emod_nonneg _ (by omega))]
    apply Int.emod_emod_of_dvd
    refine ⟨((2 ^ (64 - j) : Nat) : Int), ?_⟩
    rw [← Int.natCast_mul, ← Nat.pow_add, show j + (64 - j) = 64 by omega]
    rfl
  rw [← e2]
  have hp' : 2 ^ j ≤ 4611686018427387904 := hp
  omega
theorem i64_rest (x : Int) : bits .and .i64 x 4294967295 = ((r32 x : Nat) : Int) := by
  have h := i64_mask x 32 (by omega) 4294967295 (by decide)
  rw [← r32_cast]
  exact h
theorem i64_low (x : Int) : bits .and .i64 x 1 = x % 2 := i64_mask x 1 (by omega) 1 (by decide)
theorem i64_st_odd (x : Nat) (h : x < 4294967296) (ho : x % 2 = 1) : bits .xor .i64 ((x : Int) / 2) 2197175160 = ((st x : Nat) : Int) := by
  rw [half_cast, show (2197175160 : Int) = ((2197175160 : Nat) : Int) from rfl, i64_xor_nat _ _ (by omega) (by omega)]
  unfold st
  rw [if_pos ho]
theorem i64_ones (x : Nat) (h : x < 4294967296) : bits .xor .i64 (x : Int) 4294967295 = ((ones x : Nat) : Int) := by
  rw [show (4294967295 : Int) = ((4294967295 : Nat) : Int) from rfl, i64_xor_nat _ _ (by omega) (by omega)]
  rfl

theorem dbl_or_one (y : Nat) : y * 2 ||| 1 = y * 2 + 1 := by
  have h := Nat.two_pow_add_eq_or_of_lt (i := 1) (b := 1) (by decide) y
  rw [Nat.pow_one, Nat.mul_comm 2 y] at h
  exact h.symm
theorem u32_xor_poly (x : Nat) (h : x < 4294967296) : bits .xor .u32 (x : Int) 2197175160 = ((x ^^^ 2197175160 : Nat) : Int) := by
  rw [show (2197175160 : Int) = ((2197175160 : Nat) : Int) from rfl, u32_xor_nat _ _ h (by omega)]
theorem u32_bk_odd (x : Nat) (ho : x / 2147483648 = 1) : bits .or .u32 (((x ^^^ 2197175160 : Nat) : Int) * 2) 1 = ((bk x : Nat) : Int) := by
  have h := top_xor ho
  unfold bk
  rw [if_pos ho, ← dbl_or_one, show (1 : Int) = ((1 : Nat) : Int) from rfl, show (((x ^^^ 2197175160 : Nat) : Int) * 2) = (((x ^^^ 2197175160) * 2 : Nat) : Int) from by omega, u32_or_nat _ _ (by omega) (by omega)]
theorem bk_even (x : Nat) (ho : ¬ x / 2147483648 = 1) : (x : Int) * 2 = ((bk x : Nat) : Int) := by
  unfold bk
  rw [if_neg ho]
  omega
theorem i64_xor_poly (x : Nat) (h : x < 4294967296) : bits .xor .i64 (x : Int) 2197175160 = ((x ^^^ 2197175160 : Nat) : Int) := by
  rw [show (2197175160 : Int) = ((2197175160 : Nat) : Int) from rfl, i64_xor_nat _ _ (by omega) (by omega)]
theorem i64_bk_odd (x : Nat) (ho : x / 2147483648 = 1) : bits .or .i64 (((x ^^^ 2197175160 : Nat) : Int) * 2) 1 = ((bk x : Nat) : Int) := by
  have h := top_xor ho
  unfold bk
  rw [if_pos ho, ← dbl_or_one, show (1 : Int) = ((1 : Nat) : Int) from rfl, show (((x ^^^ 2197175160 : Nat) : Int) * 2) = (((x ^^^ 2197175160) * 2 : Nat) : Int) from by omega, i64_or_nat _ _ (by omega) (by omega)]
theorem w64 (x : Nat) (h : x < 4294967296) : wrap64 (x : Int) = (x : Int) := IntWalk.wrap64_in _ ⟨by omega, by omega⟩

end Go.Proofs.YtjdacpnfgpdjhaaDoor

/-
  crc: moving a register by a bit, forth and back; the document's own step; the shell round a sum.
-/
namespace Go.Proofs.YtjdacpnfgpdjhaaDoor
open Go.RowKit
set_option linter.unusedVariables false
set_option linter.unusedSimpArgs false

set_option maxRecDepth 100000 in
theorem from_any (x : Int) (w : World) (h0 : -9223372036854775808 ≤ x) (h1 : x ≤ 9223372036854775807) :
    Calls Tryd.prog 93 #[.int .i64 x] w fun e w' => e = .returned (.agg #[.int .u32 (ones (r32 x) : Nat)]) ∧ Below w.heap.size w w' := by
  have hn := u32_not x
  go_enter Tryd.func93, Tryd.ntmps93
  go_wp2_with fail
  exact bodyPost_ret (v := .agg #[.int .u32 (ones (r32 x) : Nat)]) (by simp [results, Tryd.results93, go_sem]) rfl ⟨rfl, (Below.refl _ _).alloc (Nat.le_refl _) _⟩

set_option maxRecDepth 100000 in
theorem step_any (x : Nat) (w : World) (hx : x < 4294967296) :
    Calls Tryd.prog 96 #[.int .i64 x] w fun e w' => e = .returned (.int .i64 (st x : Nat)) ∧ w = w' := by
  have hl := i64_low x
  by_cases ho : x % 2 = 1
  · have hs := i64_st_odd x hx ho
    rw [show (x : Int) % 2 = 1 by omega] at hl
    clear ho
    go_enter Tryd.func96, Tryd.ntmps96
    go_wp2_with fail
    go_ret
    exact ⟨rfl, rfl⟩
  · have hs := st_even x (by omega)
    rw [show (x : Int) % 2 = 0 by omega] at hl
    clear ho
    go_enter Tryd.func96, Tryd.ntmps96
    go_wp2_with fail
    go_ret
    exact ⟨rfl, rfl⟩
set_option maxRecDepth 100000 in
theorem sum_any (b : Nat) (T : TypeId) (x : Nat) (w : World) (hx : x < 4294967296) (hr : RegAt w b T x) :
    Calls Tryd.prog 95 #[.pointer (some ⟨b, 0, none⟩)] w fun e w' => e = .returned (.int .i64 (ones x : Nat)) ∧ w = w' := by
  have hc := hr.cell
  have hn := u32_not_nat x hx
  have hl := w64 _ (ones_lt hx)
  clear hr
  go_enter Tryd.func95, Tryd.ntmps95
  go_wp2_with fail
  go_ret
  exact ⟨rfl, rfl⟩

end Go.Proofs.YtjdacpnfgpdjhaaDoor

/-
  crc: bytes taken into a register, four bits at a time by the table; Add, Sum.
-/
namespace Go.Proofs.YtjdacpnfgpdjhaaDoor
open Go.RowKit
set_option linter.unusedVariables false
set_option linter.unusedSimpArgs false

/-- The table's numbers, behind a name. -/
def nibAt (i : Nat) : Nat := nibs.getD i 0
/-- The package's table reads as its text lays it. -/
def TabOk (w : World) : Prop := 0 < w.heap.size ∧ ∀ i, i < 16 → w.cell? ⟨0, i, none⟩ = some (.int .u32 (nibAt i : Nat))
theorem TabOk.keep {w w' : World} (h : TabOk w) (hs : w.heap.size ≤ w'.heap.size) (hk : ∀ p : Addr, p.block = 0 → w'.cell? p = w.cell? p) : TabOk w' :=
  ⟨Nat.lt_of_lt_of_le h.1 hs, fun i hi => (hk _ rfl).trans (h.2 i hi)⟩
theorem TabOk.below {w w' : World} (h : TabOk w) (hb : Below w.heap.size w w') : TabOk w' := h.keep hb.size fun p hp => hb.cell (by rw [hp]; exact h.1)
theorem TabOk.alloc {w : World} (h : TabOk w) (o : Obj) : TabOk (w.alloc o) := h.below ((Below.refl _ _).alloc (Nat.le_refl _) o)


theorem u32_nb (y : Nat) (h : y < 4294967296) : bits .xor .u32 ((y : Int) / 16) ((nibAt (y % 16) : Nat) : Int) = ((nb y : Nat) : Int) := by
  rw [show (y : Int) / 16 = ((y / 16 : Nat) : Int) by omega, nibAt, u32_xor_nat _ _ (by omega) nib_at]
  rfl

theorem rg_take {l : List Nat} {x k : Nat} (h : k < l.length) (hb : Bytes l) (hx : x < 4294967296) : nb (nb (rg x (l.take k) ^^^ l[k])) = rg x (l.take (k + 1)) := by
  have h1 := hb _ (List.getElem_mem h)
  rw [nb_nb (xor_lt (rg_lt hx _ (fun b hm => hb b (List.mem_of_mem_take hm))) (by omega)), List.take_succ_eq_append_getElem h, rg_snoc]

set_option maxRecDepth 100000 in
set_option maxHeartbeats 1000000 in
theorem take_any (b : Nat) (T : TypeId) (x : Nat) (B n c : Nat) (A : Option Addr) (l : List Nat) (w : World) (hx : x < 4294967296) (hr : RegAt w b T x) (ht : TabOk w) (hA : Lies w B A n (bv l)) (hl : Bytes l) (hn : n ≤ 9223372036854775807) :
    Calls Tryd.prog 94 #[.pointer (some ⟨b, 0, none⟩), .slice A n c] w fun e w' => e = .returned (.tuple #[]) ∧ RegAt w' b T (rg x l) ∧ Only b w w' := by
  have HL : Hid (l.length = n) := by show _ = _; rw [← bv_length]; exact hA.1
  have hc := hr.cell
  have hf := hr.free
  have HG := Lib.hid hr
  clear hr
  go_enter Tryd.func94, Tryd.ntmps94
  go_wp2_with fail
  go_loop [4, 12] (fun u i => ∃ k : Nat, k ≤ n ∧ i = .int .i64 k ∧ ∃ X : Nat, u = .int .u32 X ∧ Hid (X = rg x (l.take k))) (fun _ i => n - (intOf i).toNat)
  case atStart => exact ⟨0, Nat.zero_le _, rfl, x, rfl, (rfl : x = rg x (l.take 0))⟩
  case round =>
    obtain ⟨k, hk, rfl, X, rfl, HX⟩ := hrel
    by_cases hlt : k < n
    · obtain ⟨ad, u, rfl, had, hu, hcell⟩ := hA.at_ hlt
      have hkl : k < l.length := by rw [HL.out]; exact hlt
      rw [bv_at hkl] at hu
      obtain rfl : u = .int .u8 (l[k] : Int) := (Option.some.inj hu).symm
      have hXl : X < 4294967296 := by rw [HX.out]; exact rg_lt hx _ (fun b hm => hl b (List.mem_of_mem_take hm))
      have hb1 := hl _ (List.getElem_mem hkl)
      have hN := rg_take (x := x) hkl hl hx
      rw [← HX.out] at hN
      generalize l[k] = q at *
      have hyl : X ^^^ q < 4294967296 := xor_lt hXl (by omega)
      have f1 := u32_xor_nat X q hXl (by omega)
      generalize X ^^^ q = y at *
      have f2 := u32_nib y hyl
      have f3 := ht.2 (y % 16) (Nat.mod_lt _ (by decide))
      have f4 := u32_nb y hyl
      have hzl := nb_lt hyl
      generalize nb y = z at *
      have g2 := u32_nib z hzl
      have g3 := ht.2 (z % 16) (Nat.mod_lt _ (by decide))
      have g4 := u32_nb z hzl
      generalize nb z = v at *
      have HN := Lib.hid hN
      have hy16 : y % 16 < 16 := Nat.mod_lt _ (by decide)
      have hz16 : z % 16 < 16 := Nat.mod_lt _ (by decide)
      clear hN hu
      go_wp2_with fail
      go_round
      case rel => exact ⟨k + 1, by omega, by go_num, v, rfl, HN⟩
      case measure => simp [intOf]; omega
    · have HE : Hid (X = rg x l) := by
        have h := HX.out
        rw [show k = n by omega, List.take_of_length_le (by rw [HL.out]; exact Nat.le_refl _)] at h
        exact h
      clear HX
      go_wp2_with fail
      go_end0
      exact ⟨rfl, by rw [← HE.out]; exact one_setCell HG.out, (Only.refl b w).set _⟩

/-- Some bytes' sum, out of whatever number. -/
def added (x : Int) (l : List Nat) : Nat := addS (r32 x) l
theorem added_lt {x : Int} {l : List Nat} (h : Bytes l) : added x l < 4294967296 := addS_lt (r32_lt x) h

set_option maxRecDepth 100000 in
set_option maxHeartbeats 1000000 in
theorem Add_any (x : Int) (B n c : Nat) (A : Option Addr) (l : List Nat) (w : World) (h0 : -9223372036854775808 ≤ x) (h1 : x ≤ 9223372036854775807) (ht : TabOk w) (hA : Lies w w.heap.size A n (bv l)) (hl : Bytes l) (hn : n ≤ 9223372036854775807) :
    Calls Tryd.prog 85 #[.int .i64 x, .slice A n c] w fun e w' => e = .returned (.int .i64 (added x l : Nat)) ∧ Below w.heap.size w w' := by
  go_enter Tryd.func85, Tryd.ntmps85
  go_wp2_with fail
  refine (from_any x _ h0 h1).mono ?_
  rintro e w1 ⟨rfl, hb1⟩
  have ht1 := (ht.below hb1).alloc (.cells #[.int .u32 (ones (r32 x) : Nat)] 132)
  have hb2 := hb1.alloc hb1.size (.cells #[.int .u32 (ones (r32 x) : Nat)] 132)
  have hA1 := hA.below hb2
  have hg := RegAt.new w1 132 (ones (r32 x))
  have HG := Lib.hid hg
  have hs1 := hb1.size
  clear hg hb1
  go_wp2_with fail
  refine (take_any _ _ _ _ _ _ _ l _ (ones_lt (r32_lt x)) HG.out ht1 hA1 hl hn).mono ?_
  rintro e w2 ⟨rfl, hg2, ho2⟩
  have HG2 := Lib.hid hg2
  have hb02 := hb2.trans (ho2.below (by simp; omega) hs1)
  clear hg2 ho2 HG hA1 ht1 hb2
  go_wp2_with fail
  refine (sum_any _ _ _ _ (rg_lt (ones_lt (r32_lt x)) l hl) HG2.out).mono ?_
  rintro e w3 ⟨rfl, rfl⟩
  go_wp2_with fail
  go_ret
  exact ⟨rfl, hb02⟩

set_option maxRecDepth 100000 in
theorem Sum_any (n c : Nat) (A : Option Addr) (l : List Nat) (w : World) (ht : TabOk w) (hA : Lies w w.heap.size A n (bv l)) (hl : Bytes l) (hn : n ≤ 9223372036854775807) :
    Calls Tryd.prog 61 #[.slice A n c] w fun e w' => e = .returned (.int .i64 (sumS l : Nat)) ∧ Below w.heap.size w w' := by
  go_enter Tryd.func61, Tryd.ntmps61
  go_wp2_with fail
  refine (Add_any 0 0 n c A l w (by omega) (by omega) ht hA hl hn).mono ?_
  rintro e w1 ⟨rfl, hb1⟩
  rw [show added 0 l = sumS l from rfl]
  go_wp2_with fail
  go_ret
  exact ⟨rfl, hb1⟩

end Go.Proofs.YtjdacpnfgpdjhaaDoor

/-
  The document's own answer for crc: Move, Back, Add, Sum, Both.
-/
namespace Go.Proofs.YtjdacpnfgpdjhaaDoor
open Go.RowKit
set_option linter.unusedVariables false
set_option linter.unusedSimpArgs false

def movedBy (d : Bool) (x n : Int) : Nat := mv d (8 * n.toNat) (r32 x)
theorem movedBy_lt (d : Bool) (x n : Int) : movedBy d x n < 4294967296 := mv_lt d _ (r32_lt x)

set_option maxRecDepth 100000 in
set_option maxHeartbeats 1000000 in
theorem refMove_any (x n : Int) (w : World) (hn : n ≤ 9223372036854775807) :
    Calls Tryd.prog 86 #[.int .i64 x, .int .i64 n] w fun e w' => e = .returned (.int .i64 (movedBy false x n : Nat)) ∧ w = w' := by
  have hr := i64_rest x
  go_enter Tryd.func86, Tryd.ntmps86
  go_wp2_with fail
  go_loop [0, 5] (fun u i => ∃ k : Nat, k ≤ n.toNat ∧ i = .int .i64 k ∧ ∃ X : Nat, u = .int .i64 X ∧ Hid (X = stN (8 * k) (r32 x))) (fun _ i => n.toNat - (intOf i).toNat)
  case atStart => exact ⟨0, Nat.zero_le _, rfl, r32 x, rfl, (rfl : r32 x = stN (8 * 0) (r32 x))⟩
  case round =>
    obtain ⟨k, hk, rfl, X, rfl, HX⟩ := hrel
    by_cases hlt : (k : Int) < n
    · go_wp2_with fail
      go_loop [0, 6] (fun u i => ∃ j : Nat, j ≤ 8 ∧ i = .int .i64 j ∧ ∃ Y : Nat, u = .int .i64 Y ∧ Hid (Y = stN j X)) (fun _ i => 8 - (intOf i).toNat)
      case atStart => exact ⟨0, Nat.zero_le _, rfl, X, rfl, (rfl : X = stN 0 X)⟩
      case round =>
        obtain ⟨j, hj, rfl, Y, rfl, HY⟩ := hrel
        have hYl : Y < 4294967296 := by rw [HY.out, HX.out]; exact stN_lt (stN_lt (r32_lt x) _) j
        by_cases hl8 : j < 8
        · have HN : Hid (st Y = stN (j + 1) X) := by show _ = _; rw [stN_succ', ← HY.out]
          go_wp2_with fail
          refine (step_any Y _ hYl).mono ?_
          rintro e w1 ⟨rfl, rfl⟩
          go_wp2_with fail
          go_round
          case rel => exact ⟨j + 1, by omega, by go_num, _, rfl, HN⟩
          case measure => simp [intOf]; omega
        · have HN : Hid (Y = stN (8 * (k + 1)) (r32 x)) := by
            have h := HY.out
            rw [show j = 8 by omega, HX.out, ← stN_add] at h
            rw [show 8 * (k + 1) = 8 * k + 8 by omega]
            exact h
          clear HY
          go_wp2_with fail
          go_round
          case rel => exact ⟨k + 1, by omega, by go_num, _, rfl, HN⟩
          case measure => simp [intOf]; omega
    · have HN : Hid (X = movedBy false x n) := by
        have h := HX.out
        rw [show k = n.toNat by omega] at h
        exact h
      clear HX
      go_wp2_with fail
      go_ret
      exact ⟨ret_int (by rw [HN.out]), rfl⟩

theorem moved_one {X q : Nat} (h : X ^^^ q < 4294967296) : movedBy false ((X ^^^ q : Nat) : Int) 1 = stN 8 (X ^^^ q) := by
  unfold movedBy
  rw [r32_nat h]
  rfl

set_option maxRecDepth 100000 in
set_option maxHeartbeats 1000000 in
theorem refAdd_any (x : Int) (B n c : Nat) (A : Option Addr) (l : List Nat) (w : World) (hA : Lies w B A n (bv l)) (hl : Bytes l) (hn : n ≤ 9223372036854775807) :
    Calls Tryd.prog 65 #[.int .i64 x, .slice A n c] w fun e w' => e = .returned (.int .i64 (added x l : Nat)) ∧ w = w' := by
  have HL : Hid (l.length = n) := by show _ = _; rw [← bv_length]; exact hA.1
  have hr := i64_rest x
  have ho := i64_ones _ (r32_lt x)
  go_enter Tryd.func65, Tryd.ntmps65
  go_wp2_with fail
  go_loop [5, 6] (fun u i => ∃ k : Nat, k ≤ n ∧ i = .int .i64 k ∧ ∃ X : Nat, u = .int .i64 X ∧ Hid (X = rg (ones (r32 x)) (l.take k))) (fun _ i => n - (intOf i).toNat)
  case atStart => exact ⟨0, Nat.zero_le _, rfl, ones (r32 x), rfl, (rfl : ones (r32 x) = rg (ones (r32 x)) (l.take 0))⟩
  case round =>
    clear hr ho
    obtain ⟨k, hk, rfl, X, rfl, HX⟩ := hrel
    have hXl : X < 4294967296 := by rw [HX.out]; exact rg_lt (ones_lt (r32_lt x)) _ (fun b hm => hl b (List.mem_of_mem_take hm))
    by_cases hlt : k < n
    · obtain ⟨ad, u, rfl, had, hu, hcell⟩ := hA.at_ hlt
      have hkl : k < l.length := by rw [HL.out]; exact hlt
      rw [bv_at hkl] at hu
      obtain rfl : u = .int .u8 (l[k] : Int) := (Option.some.inj hu).symm
      have hb1 := hl _ (List.getElem_mem hkl)
      have hN : stN 8 (X ^^^ l[k]) = rg (ones (r32 x)) (l.take (k + 1)) := by rw [List.take_succ_eq_append_getElem hkl, rg_snoc, ← HX.out]
      generalize l[k] = q at *
      have hyl : X ^^^ q < 4294967296 := xor_lt hXl (by omega)
      have f1 := i64_xor_nat X q (by omega) (by omega)
      have hm := moved_one hyl
      have HN := Lib.hid (hm.trans hN)
      clear hu hN hm
      go_wp2_with fail
      refine (refMove_any _ 1 _ (by omega)).mono ?_
      rintro e w1 ⟨rfl, rfl⟩
      clear f1
      go_wp2_with fail
      go_round
      case rel => exact ⟨k + 1, by omega, by go_num, _, rfl, HN⟩
      case measure => simp [intOf]; omega
    · have HN : Hid (ones X = added x l) := by
        have h := HX.out
        rw [show k = n by omega, List.take_of_length_le (by rw [HL.out]; exact Nat.le_refl _)] at h
        show _ = _
        rw [h]
        rfl
      clear HX
      have ho := i64_ones X hXl
      go_wp2_with fail
      go_ret
      exact ⟨ret_int (by rw [HN.out]), rfl⟩

set_option maxRecDepth 100000 in
theorem refSum_any (B n c : Nat) (A : Option Addr) (l : List Nat) (w : World) (hA : Lies w B A n (bv l)) (hl : Bytes l) (hn : n ≤ 9223372036854775807) :
    Calls Tryd.prog 46 #[.slice A n c] w fun e w' => e = .returned (.int .i64 (sumS l : Nat)) ∧ w = w' := by
  go_enter Tryd.func46, Tryd.ntmps46
  go_wp2_with fail
  refine (refAdd_any 0 B n c A l w hA hl hn).mono ?_
  rintro e w1 ⟨rfl, rfl⟩
  rw [show added 0 l = sumS l from rfl]
  go_wp2_with fail
  go_ret
  exact ⟨rfl, rfl⟩

end Go.Proofs.YtjdacpnfgpdjhaaDoor
