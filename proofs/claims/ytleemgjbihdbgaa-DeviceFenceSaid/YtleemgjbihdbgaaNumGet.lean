/-
  num and its reference: reading numbers, by contract.
-/
import Derived.Test.YtleemgjbihdbgaaJoinNumRefPut
import Derived.Lib.IndexBytes
namespace Go.Proofs.Ytleemgjbihdbgaa
open Go.RowKit
set_option linter.unusedVariables false
set_option linter.unusedSimpArgs false

/-- A string's bytes as numbers. -/
def bytesI (s : ByteArray) : List Int := s.data.toList.map fun b => (b.toNat : Int)
theorem bytesI_length (s : ByteArray) : (bytesI s).length = s.size := by simp [bytesI]
theorem bytesI_bytes (s : ByteArray) : IsBytes (bytesI s) := by
  intro b hb
  simp only [bytesI, List.mem_map] at hb
  obtain ⟨u, _, rfl⟩ := hb
  have := u.toNat_lt
  omega
theorem isBytes_take {l : List Int} (h : IsBytes l) (k : Nat) : IsBytes (l.take k) := fun b hb => h b (List.mem_of_mem_take hb)
theorem isBytes_drop {l : List Int} (h : IsBytes l) (k : Nat) : IsBytes (l.drop k) := fun b hb => h b (List.mem_of_mem_drop hb)

theorem or_i64_nat (a b : Nat) (ha : a < 9223372036854775808) (hb : b < 9223372036854775808) :
    bits .or .i64 (a : Int) (b : Int) = ((a ||| b : Nat) : Int) := by
  have hx : a ||| b < 2 ^ 63 := Nat.or_lt_two_pow (by omega) (by omega)
  have h1 : (BitVec.ofInt 64 (a : Int)).toNat = a := by
    rw [BitVec.ofInt_natCast, BitVec.toNat_ofNat]; exact Nat.mod_eq_of_lt (by omega)
  have h2 : (BitVec.ofInt 64 (b : Int)).toNat = b := by
    rw [BitVec.ofInt_natCast, BitVec.toNat_ofNat]; exact Nat.mod_eq_of_lt (by omega)
  show IntKind.i64.wrap ((BitVec.ofInt 64 (a : Int) ||| BitVec.ofInt 64 (b : Int)).toNat : Int) = _
  rw [BitVec.toNat_or, h1, h2, IntKind.wrap_i64]
  omega

theorem pw_two (k : Nat) : (2 : Int) ^ (8 * k) = pw k := by
  rw [Int.pow_mul]; rfl
theorem pw_nat (k : Nat) : pw k = ((256 ^ k : Nat) : Int) := by simp [pw]

/-- A byte laid at place k over a number of k bytes. -/
theorem or_place (k : Nat) (d b : Int) (hk : k ≤ 5) (hd0 : 0 ≤ d) (hd : d < pw k) (hb0 : 0 ≤ b) (hb : b < 256) :
    bits BinOp.or IntKind.i64 d (wrap64 (wrap64 b * 2 ^ (8 * k))) = d + b * pw k := by
  have hp := pw_pos k
  have hl := pw_le (k := k + 1) (by omega)
  rw [pw_succ] at hl
  have h0 : 0 ≤ b * pw k := Int.mul_nonneg hb0 (by omega)
  have h1 : b * pw k ≤ 255 * pw k := Int.mul_le_mul_of_nonneg_right (by omega) (by omega)
  rw [IntWalk.wrap64_in b (by omega), pw_two, IntWalk.wrap64_in (b * pw k) (by omega)]
  obtain ⟨D, rfl⟩ := Int.eq_ofNat_of_zero_le hd0
  obtain ⟨E, rfl⟩ := Int.eq_ofNat_of_zero_le hb0
  have e : ((E : Int) * pw k) = ((E * 256 ^ k : Nat) : Int) := by rw [pw_nat, Int.natCast_mul]
  rw [e] at h1 ⊢
  rw [or_i64_nat D (E * 256 ^ k) (by omega) (by omega), Nat.or_comm]
  have hj := nat_join (8 * k) (E * 256 ^ k) D (by rw [Nat.pow_mul]; exact Nat.mul_mod_left _ _) (by
    rw [Nat.pow_mul]
    have := pw_nat k
    show D < 256 ^ k
    omega)
  rw [hj]
  omega

theorem dec_take_succ (s : ByteArray) (k : Nat) (hk : k < s.size) : dec ((bytesI s).take (k + 1)) = dec ((bytesI s).take k) + (s[k].toNat : Int) * pw k := by
  have hl : k < (bytesI s).length := by rw [bytesI_length]; exact hk
  rw [List.take_succ_eq_append_getElem hl, dec_snoc, List.length_take, Nat.min_eq_left (by omega)]
  have e : (bytesI s)[k] = (s[k].toNat : Int) := by simp [bytesI]; rfl
  rw [e]; rfl

theorem dec_take_bd (s : ByteArray) (k : Nat) (hk : k ≤ s.size) : 0 ≤ dec ((bytesI s).take k) ∧ dec ((bytesI s).take k) < pw k := by
  have h := dec_bd (isBytes_take (bytesI_bytes s) k)
  rw [List.length_take, bytesI_length, Nat.min_eq_left hk] at h
  exact h

/-- What Get answers: the number and the error. -/
def getVal (s : List Int) (a x : Int) : Int := if mayB x = true ∧ 0 ≤ a ∧ a + x ≤ s.length ∧ fitsB x (dec ((s.drop a.toNat).take x.toNat)) = true then dec ((s.drop a.toNat).take x.toNat) else 0
def getErr (s : List Int) (a x : Int) : Int := if mayB x = false then 2 else if 0 ≤ a ∧ a + x ≤ s.length ∧ fitsB x (dec ((s.drop a.toNat).take x.toNat)) = true then 0 else 10
def getOut (s : List Int) (a x : Int) : Ending := .returned (.tuple #[.int .i64 (getVal s a x), .int .i64 (getErr s a x)])

theorem getOut_width {s : List Int} {a x : Int} (h : mayB x = false) : getOut s a x = .returned (.tuple #[.int .i64 0, .int .i64 2]) := by
  simp [getOut, getVal, getErr, h]
theorem getOut_out {s : List Int} {a x : Int} (hx : mayB x = true) (h : ¬ (0 ≤ a ∧ a + x ≤ s.length)) : getOut s a x = .returned (.tuple #[.int .i64 0, .int .i64 10]) := by
  have e1 : getVal s a x = 0 := by unfold getVal; rw [if_neg (fun k => h ⟨k.2.1, k.2.2.1⟩)]
  have e2 : getErr s a x = 10 := by unfold getErr; rw [hx, if_neg (by simp), if_neg (fun k => h ⟨k.1, k.2.1⟩)]
  rw [getOut, e1, e2]
theorem getOut_great {s : List Int} {a x : Int} (hx : mayB x = true) (h : fitsB x (dec ((s.drop a.toNat).take x.toNat)) = false) : getOut s a x = .returned (.tuple #[.int .i64 0, .int .i64 10]) := by
  have e1 : getVal s a x = 0 := by unfold getVal; rw [if_neg (fun k => by rw [h] at k; exact absurd k.2.2.2 (by simp))]
  have e2 : getErr s a x = 10 := by unfold getErr; rw [hx, if_neg (by simp), if_neg (fun k => by rw [h] at k; exact absurd k.2.2 (by simp))]
  rw [getOut, e1, e2]
theorem getOut_yes {s : List Int} {a x : Int} (hx : mayB x = true) (h0 : 0 ≤ a) (h1 : a + x ≤ s.length) (h : fitsB x (dec ((s.drop a.toNat).take x.toNat)) = true) :
    getOut s a x = .returned (.tuple #[.int .i64 (dec ((s.drop a.toNat).take x.toNat)), .int .i64 0]) := by
  have e1 : getVal s a x = dec ((s.drop a.toNat).take x.toNat) := by unfold getVal; rw [if_pos ⟨hx, h0, h1, h⟩]
  have e2 : getErr s a x = 0 := by unfold getErr; rw [hx, if_neg (by simp), if_pos ⟨h0, h1, h⟩]
  rw [getOut, e1, e2]

theorem bytesI_extract (s : ByteArray) (a : Nat) : bytesI (s.extract a s.size) = (bytesI s).drop a := by
  unfold bytesI
  rw [Lib.extract_to_end]
  simp [List.map_drop]

/-- The reference's reading goes from the last byte on. -/
theorem dec_back (l : List Int) (j : Nat) (hj : j < l.length) : dec (l.drop j) = dec (l.drop (j + 1)) * 256 + l[j] := by
  rw [List.drop_eq_getElem_cons hj]
  simp only [dec]
  omega

theorem le_of_fits {l : List Int} {x : Int} (hx : mayB x = true) (hl : IsBytes l) (hn : l.length = x.toNat) : fitsB x (dec l) = decide (dec l ≤ 1099511627776) := by
  obtain ⟨h1, h2⟩ := of_mayB hx
  have hb := dec_bd hl
  rw [hn] at hb
  by_cases h : dec l ≤ 1099511627776
  · rw [fitsB_yes h1 h2 hb.1 (le_mostOf h1 h2 hb.2 h)]; simp [h]
  · have : ¬ fitsB x (dec l) = true := fun k => h (Int.le_trans (of_fitsB k).2.2 mostOf_le)
    simp [h, this]

end Go.Proofs.Ytleemgjbihdbgaa
