/-
  The document's own answer for crc: Move, Back, Add, Sum, Both.
-/
import Derived.Test.YtjdacpnfgpdjhaaDoorCrcTake
namespace Go.Proofs.YtjdacpnfgpdjhaaDoor
open Go.RowKit
set_option linter.unusedVariables false
set_option linter.unusedSimpArgs false

def movedBy (d : Bool) (x n : Int) : Nat := mv d (8 * n.toNat) (r32 x)
theorem movedBy_lt (d : Bool) (x n : Int) : movedBy d x n < 4294967296 := mv_lt d _ (r32_lt x)

set_option maxRecDepth 100000 in
set_option maxHeartbeats 1000000 in
theorem refMove_any (x n : Int) (w : World) (hn : n ≤ 9223372036854775807) :
    Calls Tryd.prog 86 #[.int .i64 x, .int .i64 n] w fun e w' => e = .returned (.int .i64 (movedBy false x n : Nat)) ∧ w = w' := by
  have hr := i64_rest x
  go_enter Tryd.func86, Tryd.ntmps86
  go_wp2_with fail
  go_loop [0, 5] (fun u i => ∃ k : Nat, k ≤ n.toNat ∧ i = .int .i64 k ∧ ∃ X : Nat, u = .int .i64 X ∧ Hid (X = stN (8 * k) (r32 x))) (fun _ i => n.toNat - (intOf i).toNat)
  case atStart => exact ⟨0, Nat.zero_le _, rfl, r32 x, rfl, (rfl : r32 x = stN (8 * 0) (r32 x))⟩
  case round =>
    obtain ⟨k, hk, rfl, X, rfl, HX⟩ := hrel
    by_cases hlt : (k : Int) < n
    · go_wp2_with fail
      go_loop [0, 6] (fun u i => ∃ j : Nat, j ≤ 8 ∧ i = .int .i64 j ∧ ∃ Y : Nat, u = .int .i64 Y ∧ Hid (Y = stN j X)) (fun _ i => 8 - (intOf i).toNat)
      case atStart => exact ⟨0, Nat.zero_le _, rfl, X, rfl, (rfl : X = stN 0 X)⟩
      case round =>
        obtain ⟨j, hj, rfl, Y, rfl, HY⟩ := hrel
        have hYl : Y < 4294967296 := by rw [HY.out, HX.out]; exact stN_lt (stN_lt (r32_lt x) _) j
        by_cases hl8 : j < 8
        · have HN : Hid (st Y = stN (j + 1) X) := by show _ = _; rw [stN_succ', ← HY.out]
          go_wp2_with fail
          refine (step_any Y _ hYl).mono ?_
          rintro e w1 ⟨rfl, rfl⟩
          go_wp2_with fail
          go_round
          case rel => exact ⟨j + 1, by omega, by go_num, _, rfl, HN⟩
          case measure => simp [intOf]; omega
        · have HN : Hid (Y = stN (8 * (k + 1)) (r32 x)) := by
            have h := HY.out
            rw [show j = 8 by omega, HX.out, ← stN_add] at h
            rw [show 8 * (k + 1) = 8 * k + 8 by omega]
            exact h
          clear HY
          go_wp2_with fail
          go_round
          case rel => exact ⟨k + 1, by omega, by go_num, _, rfl, HN⟩
          case measure => simp [intOf]; omega
    · have HN : Hid (X = movedBy false x n) := by
        have h := HX.out
        rw [show k = n.toNat by omega] at h
        exact h
      clear HX
      go_wp2_with fail
      go_ret
      exact ⟨ret_int (by rw [HN.out]), rfl⟩

theorem moved_one {X q : Nat} (h : X ^^^ q < 4294967296) : movedBy false ((X ^^^ q : Nat) : Int) 1 = stN 8 (X ^^^ q) := by
  unfold movedBy
  rw [r32_nat h]
  rfl

set_option maxRecDepth 100000 in
set_option maxHeartbeats 1000000 in
theorem refAdd_any (x : Int) (B n c : Nat) (A : Option Addr) (l : List Nat) (w : World) (hA : Lies w B A n (bv l)) (hl : Bytes l) (hn : n ≤ 9223372036854775807) :
    Calls Tryd.prog 65 #[.int .i64 x, .slice A n c] w fun e w' => e = .returned (.int .i64 (added x l : Nat)) ∧ w = w' := by
  have HL : Hid (l.length = n) := by show _ = _; rw [← bv_length]; exact hA.1
  have hr := i64_rest x
  have ho := i64_ones _ (r32_lt x)
  go_enter Tryd.func65, Tryd.ntmps65
  go_wp2_with fail
  go_loop [5, 6] (fun u i => ∃ k : Nat, k ≤ n ∧ i = .int .i64 k ∧ ∃ X : Nat, u = .int .i64 X ∧ Hid (X = rg (ones (r32 x)) (l.take k))) (fun _ i => n - (intOf i).toNat)
  case atStart => exact ⟨0, Nat.zero_le _, rfl, ones (r32 x), rfl, (rfl : ones (r32 x) = rg (ones (r32 x)) (l.take 0))⟩
  case round =>
    clear hr ho
    obtain ⟨k, hk, rfl, X, rfl, HX⟩ := hrel
    have hXl : X < 4294967296 := by rw [HX.out]; exact rg_lt (ones_lt (r32_lt x)) _ (fun b hm => hl b (List.mem_of_mem_take hm))
    by_cases hlt : k < n
    · obtain ⟨ad, u, rfl, had, hu, hcell⟩ := hA.at_ hlt
      have hkl : k < l.length := by rw [HL.out]; exact hlt
      rw [bv_at hkl] at hu
      obtain rfl : u = .int .u8 (l[k] : Int) := (Option.some.inj hu).symm
      have hb1 := hl _ (List.getElem_mem hkl)
      have hN : stN 8 (X ^^^ l[k]) = rg (ones (r32 x)) (l.take (k + 1)) := by rw [List.take_succ_eq_append_getElem hkl, rg_snoc, ← HX.out]
      generalize l[k] = q at *
      have hyl : X ^^^ q < 4294967296 := xor_lt hXl (by omega)
      have f1 := i64_xor_nat X q (by omega) (by omega)
      have hm := moved_one hyl
      have HN := Lib.hid (hm.trans hN)
      clear hu hN hm
      go_wp2_with fail
      refine (refMove_any _ 1 _ (by omega)).mono ?_
      rintro e w1 ⟨rfl, rfl⟩
      clear f1
      go_wp2_with fail
      go_round
      case rel => exact ⟨k + 1, by omega, by go_num, _, rfl, HN⟩
      case measure => simp [intOf]; omega
    · have HN : Hid (ones X = added x l) := by
        have h := HX.out
        rw [show k = n by omega, List.take_of_length_le (by rw [HL.out]; exact Nat.le_refl _)] at h
        show _ = _
        rw [h]
        rfl
      clear HX
      have ho := i64_ones X hXl
      go_wp2_with fail
      go_ret
      exact ⟨ret_int (by rw [HN.out]), rfl⟩

set_option maxRecDepth 100000 in
theorem refSum_any (B n c : Nat) (A : Option Addr) (l : List Nat) (w : World) (hA : Lies w B A n (bv l)) (hl : Bytes l) (hn : n ≤ 9223372036854775807) :
    Calls Tryd.prog 46 #[.slice A n c] w fun e w' => e = .returned (.int .i64 (sumS l : Nat)) ∧ w = w' := by
  go_enter Tryd.func46, Tryd.ntmps46
  go_wp2_with fail
  refine (refAdd_any 0 B n c A l w hA hl hn).mono ?_
  rintro e w1 ⟨rfl, rfl⟩
  rw [show added 0 l = sumS l from rfl]
  go_wp2_with fail
  go_ret
  exact ⟨rfl, rfl⟩

end Go.Proofs.YtjdacpnfgpdjhaaDoor
