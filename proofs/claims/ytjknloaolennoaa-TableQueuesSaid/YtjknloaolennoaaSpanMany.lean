/-
  span: what is asked of many holds (Fits, some: Covers, Touches; All), and the document's: by contract.
-/
import Derived.Test.YtjknloaolennoaaSpanProg
namespace Go.Proofs.Ytjknloaolennoaa
open Go.RowKit
set_option linter.unusedVariables false
set_option linter.unusedSimpArgs false

set_option maxRecDepth 100000 in
set_option maxHeartbeats 1000000 in
theorem Hold_any (N S B P J L E T k lo hi m : Int) (w : World) :
    Calls Try.prog 57 #[.agg #[.int .i64 N, .int .i64 S, .int .i64 B, .int .i64 P, .int .i64 J, .int .i64 L, .int .i64 E, .int .i64 T], .agg #[.int .i64 k, .int .i64 lo, .int .i64 hi, .int .i8 m]] w fun e w' => e = .returned (.bool (sHoldB B ⟨k, ⟨lo, hi⟩, m⟩)) ∧ Below w.heap.size w w' := by
  obtain ⟨W0, hW⟩ : ∃ W0, W0 = (w.alloc (.cells #[.int .i64 N, .int .i64 S, .int .i64 B, .int .i64 P, .int .i64 J, .int .i64 L, .int .i64 E, .int .i64 T] 23)).alloc (.cells #[.int .i64 k, .int .i64 lo, .int .i64 hi, .int .i8 m] 43) := ⟨_, rfl⟩
  have hbw : Below w.heap.size w W0 := hW ▸ two_new _ _ _
  obtain ⟨p0, q0⟩ : Blk W0 w.heap.size #[.int .i64 N, .int .i64 S, .int .i64 B, .int .i64 P, .int .i64 J, .int .i64 L, .int .i64 E, .int .i64 T] 23 ∧ Blk W0 (w.heap.size + 1) #[.int .i64 k, .int .i64 lo, .int .i64 hi, .int .i8 m] 43 := hW ▸ blk2 w _ _ _ _
  have hS : ∀ W, Below W0.heap.size W0 W → W.cell? ⟨w.heap.size, 2, none⟩ = some (.int .i64 B) ∧ (W.cell? ⟨w.heap.size + 1, 0, none⟩ = some (.int .i64 k) ∧ W.cell? ⟨w.heap.size + 1, 1, none⟩ = some (.int .i64 lo) ∧ W.cell? ⟨w.heap.size + 1, 2, none⟩ = some (.int .i64 hi) ∧ W.cell? ⟨w.heap.size + 1, 3, none⟩ = some (.int .i8 m)) ∧ Below W0.heap.size W0 W := fun W h =>
    ⟨(p0.below h p0.lt).cell 2 _ rfl, hold_cells (q0.below h q0.lt), h⟩
  have hD := hS _ (Below.refl W0.heap.size W0).drew
  have hOf : ∀ k' lo' hi' m' W, W.cell? ⟨w.heap.size, 2, none⟩ = some (.int .i64 B) ∧ (W.cell? ⟨w.heap.size + 1, 0, none⟩ = some (.int .i64 k) ∧ W.cell? ⟨w.heap.size + 1, 1, none⟩ = some (.int .i64 lo) ∧ W.cell? ⟨w.heap.size + 1, 2, none⟩ = some (.int .i64 hi) ∧ W.cell? ⟨w.heap.size + 1, 3, none⟩ = some (.int .i8 m)) ∧ Below W0.heap.size W0 W →
      Calls Try.prog 67 #[.agg #[.int .i64 k', .int .i64 lo', .int .i64 hi', .int .i8 m']] W fun e W => e = .returned (.agg #[.int .i64 lo', .int .i64 hi', .int .i64 k', .int .i8 m']) ∧ W.cell? ⟨w.heap.size, 2, none⟩ = some (.int .i64 B) ∧ (W.cell? ⟨w.heap.size + 1, 0, none⟩ = some (.int .i64 k) ∧ W.cell? ⟨w.heap.size + 1, 1, none⟩ = some (.int .i64 lo) ∧ W.cell? ⟨w.heap.size + 1, 2, none⟩ = some (.int .i64 hi) ∧ W.cell? ⟨w.heap.size + 1, 3, none⟩ = some (.int .i8 m)) ∧ Below W0.heap.size W0 W :=
    fun k lo hi m W h => (of_any k lo hi m W).mono (by rintro e w' ⟨rfl, hb⟩; exact ⟨rfl, hS _ (h.2.2.trans (hb.mono h.2.2.size))⟩)
  have hMay : ∀ W, W.cell? ⟨w.heap.size, 2, none⟩ = some (.int .i64 B) ∧ (W.cell? ⟨w.heap.size + 1, 0, none⟩ = some (.int .i64 k) ∧ W.cell? ⟨w.heap.size + 1, 1, none⟩ = some (.int .i64 lo) ∧ W.cell? ⟨w.heap.size + 1, 2, none⟩ = some (.int .i64 hi) ∧ W.cell? ⟨w.heap.size + 1, 3, none⟩ = some (.int .i8 m)) ∧ Below W0.heap.size W0 W →
      Calls Try.prog 68 #[.agg #[.int .i64 lo, .int .i64 hi, .int .i64 k, .int .i8 m], .int .i64 B] W fun e W => e = .returned (.bool (sHoldB B ⟨k, ⟨lo, hi⟩, m⟩)) ∧ W.cell? ⟨w.heap.size, 2, none⟩ = some (.int .i64 B) ∧ (W.cell? ⟨w.heap.size + 1, 0, none⟩ = some (.int .i64 k) ∧ W.cell? ⟨w.heap.size + 1, 1, none⟩ = some (.int .i64 lo) ∧ W.cell? ⟨w.heap.size + 1, 2, none⟩ = some (.int .i64 hi) ∧ W.cell? ⟨w.heap.size + 1, 3, none⟩ = some (.int .i8 m)) ∧ Below W0.heap.size W0 W :=
    fun W h => (hmay_any k lo hi m B W).mono (by rintro e w' ⟨rfl, hb⟩; exact ⟨rfl, hS _ (h.2.2.trans (hb.mono h.2.2.size))⟩)
  clear hS p0 q0
  go_enter Try.func57, Try.ntmps57
  go_upto_region 1 with fail
  rw [← hW]
  clear hW
  go_region_held3 (fun W => W.cell? ⟨w.heap.size, 2, none⟩ = some (.int .i64 B) ∧ (W.cell? ⟨w.heap.size + 1, 0, none⟩ = some (.int .i64 k) ∧ W.cell? ⟨w.heap.size + 1, 1, none⟩ = some (.int .i64 lo) ∧ W.cell? ⟨w.heap.size + 1, 2, none⟩ = some (.int .i64 hi) ∧ W.cell? ⟨w.heap.size + 1, 3, none⟩ = some (.int .i8 m)) ∧ Below W0.heap.size W0 W) (first | assumption)
    (first
      | (go_at_call 67; (with_reducible refine (hOf _ _ _ _ _ ?_).mono ?_); assumption; rintro e W1 ⟨rfl, hN⟩)
      | (go_at_call 68; (with_reducible refine (hMay _ ?_).mono ?_); assumption; rintro e W2 ⟨rfl, hN⟩))
  have hb := hN.2.2
  go_wp2_with fail
  go_ret
  exact ⟨rfl, below_then hbw hb⟩

/-! ### Fits -/
theorem fits_no_letters {h : HoldM} {l : List HoldM} {k : Nat} (hk : k < l.length) {x : HoldM} (e : l[k] = x) (ht : sTog h x = false) : sFits h l = false := s_fits_no hk (e ▸ ht)
theorem fits_next {h : HoldM} {l : List HoldM} {k : Nat} (hk : k < l.length) {x : HoldM} (e : l[k] = x) (hf : sFits h (l.take k) = true) (ht : sTog h x = true) : sFits h (l.take (k + 1)) = true := by
  rw [s_fits_take hk, hf, e, ht]; rfl
theorem fits_all {h : HoldM} {l : List HoldM} {k n : Nat} (hl : l.length = n) (hk : k = n) (hf : sFits h (l.take k) = true) : sFits h l = true := by
  rwa [hk, ← hl, List.take_length] at hf

set_option maxRecDepth 100000 in
set_option maxHeartbeats 1000000 in
theorem Fits_any (ka la ha ma : Int) (A : Option Addr) (n c : Nat) (l : List HoldM) (w : World) (hA : LiesH w w.heap.size A n l) (hn : n ≤ maxLen) :
    Calls Try.prog 53 #[.agg #[.int .i64 ka, .int .i64 la, .int .i64 ha, .int .i8 ma], .slice A n c] w fun e w' => e = .returned (.bool (sFits ⟨ka, ⟨la, ha⟩, ma⟩ l)) ∧ Below w.heap.size w w' := by
  have HL : Hid (l.length = n) := hA.1
  unfold maxLen at hn
  obtain ⟨W0, hW⟩ : ∃ W0, W0 = w.alloc (.cells #[.int .i64 ka, .int .i64 la, .int .i64 ha, .int .i8 ma] 43) := ⟨_, rfl⟩
  have hbw : Below w.heap.size w W0 := hW ▸ one_new _ _
  have p0 : Blk W0 w.heap.size #[.int .i64 ka, .int .i64 la, .int .i64 ha, .int .i8 ma] 43 := hW ▸ Blk.new w _ _
  have HA : Hid (∀ W, Below W0.heap.size W0 W → LiesH W W.heap.size A n l) := fun W h => hA.below (below_then hbw h)
  have hp : w.heap.size < W0.heap.size := p0.lt
  clear hA
  go_enter Try.func53, Try.ntmps53
  go_wp2_with fail
  rw [← hW]
  clear hW
  go_loopw [9] (fun i wr => ∃ k : Nat, k ≤ n ∧ i = .int .i64 k ∧ Below W0.heap.size W0 wr ∧ Hid (sFits ⟨ka, ⟨la, ha⟩, ma⟩ (l.take k) = true)) (fun i _ => n - (intOf i).toNat)
  case atStart => exact ⟨0, Nat.zero_le _, rfl, Below.refl _ _, rfl⟩
  case round =>
    obtain ⟨k, hk, rfl, hb, HF⟩ := hrel
    obtain ⟨b0, b1, b2, b3⟩ := hold_cells (p0.below hb hp)
    have hpw : w.heap.size < wr.heap.size := Nat.lt_of_lt_of_le hp hb.size
    by_cases hlt : k < n
    · have hkl : k < l.length := by rw [HL.out]; exact hlt
      obtain ⟨ad, e1, had, c0, c1, c2, c3⟩ := hol_cells (HA.out _ hb) hlt hkl
      subst e1
      obtain ⟨kb, lb, hb', mb, hx⟩ : ∃ kb lb hb' mb, l[k] = (⟨kb, ⟨lb, hb'⟩, mb⟩ : HoldM) := ⟨_, _, _, _, rfl⟩
      have HX : Hid (∃ h : k < l.length, l[k] = (⟨kb, ⟨lb, hb'⟩, mb⟩ : HoldM)) := ⟨hkl, hx⟩
      rw [hx] at c0 c1 c2 c3
      clear hx hkl

      go_wp2_with fail
      refine (Together_any ka la ha ma kb lb hb' mb _).mono ?_
      rintro e w2 ⟨rfl, hb2⟩
      have hb3 : Below W0.heap.size W0 w2 := below_then (hb.alloc hb.size _) hb2

      obtain ⟨r, hr⟩ : ∃ r, Hid (sTog ⟨ka, ⟨la, ha⟩, ma⟩ ⟨kb, ⟨lb, hb'⟩, mb⟩ = r) := ⟨_, rfl⟩
      rw [hr.out]
      cases r
      · have HO : Hid (sFits ⟨ka, ⟨la, ha⟩, ma⟩ l = false) := fits_no_letters HX.out.1 HX.out.2 hr.out
        go_wp2_with fail
        go_ret
        exact ⟨by rw [HO.out]; rfl, below_then hbw hb3⟩
      · have HF' : Hid (sFits ⟨ka, ⟨la, ha⟩, ma⟩ (l.take (k + 1)) = true) := fits_next HX.out.1 HX.out.2 HF.out hr.out
        go_wp2_with fail
        go_roundw
        case rel => exact ⟨k + 1, by omega, by go_num, hb3, HF'⟩
        case measure => simp [intOf]; omega
    · have HO : Hid (sFits ⟨ka, ⟨la, ha⟩, ma⟩ l = true) := fits_all HL.out (by omega : k = n) HF.out
      have hkn : k = n := by omega
      clear hlt HF
      go_wp2_with fail
      go_ret
      exact ⟨by rw [HO.out]; rfl, below_then hbw hb⟩

set_option maxRecDepth 100000 in
set_option maxHeartbeats 1000000 in
theorem refFits_any (ka la ha ma : Int) (A : Option Addr) (n c : Nat) (l : List HoldM) (w : World) (hA : LiesH w w.heap.size A n l) (hn : n ≤ maxLen) :
    Calls Try.prog 38 #[.agg #[.int .i64 ka, .int .i64 la, .int .i64 ha, .int .i8 ma], .slice A n c] w fun e w' => e = .returned (.bool (sFits ⟨ka, ⟨la, ha⟩, ma⟩ l)) ∧ Below w.heap.size w w' := by
  have HL : Hid (l.length = n) := hA.1
  unfold maxLen at hn
  obtain ⟨W0, hW⟩ : ∃ W0, W0 = w.alloc (.cells #[.int .i64 ka, .int .i64 la, .int .i64 ha, .int .i8 ma] 43) := ⟨_, rfl⟩
  have hbw : Below w.heap.size w W0 := hW ▸ one_new _ _
  have p0 : Blk W0 w.heap.size #[.int .i64 ka, .int .i64 la, .int .i64 ha, .int .i8 ma] 43 := hW ▸ Blk.new w _ _
  have HA : Hid (∀ W, Below W0.heap.size W0 W → LiesH W W.heap.size A n l) := fun W h => hA.below (below_then hbw h)
  have hp : w.heap.size < W0.heap.size := p0.lt
  clear hA
  go_enter Try.func38, Try.ntmps38
  go_wp2_with fail
  rw [← hW]
  clear hW
  go_loopw [5] (fun i wr => ∃ k : Nat, k ≤ n ∧ i = .int .i64 k ∧ Below W0.heap.size W0 wr ∧ Hid (sFits ⟨ka, ⟨la, ha⟩, ma⟩ (l.take k) = true)) (fun i _ => n - (intOf i).toNat)
  case atStart => exact ⟨0, Nat.zero_le _, rfl, Below.refl _ _, rfl⟩
  case round =>
    obtain ⟨k, hk, rfl, hb, HF⟩ := hrel
    obtain ⟨b0, b1, b2, b3⟩ := hold_cells (p0.below hb hp)
    have hpw : w.heap.size < wr.heap.size := Nat.lt_of_lt_of_le hp hb.size
    by_cases hlt : k < n
    · have hkl : k < l.length := by rw [HL.out]; exact hlt
      obtain ⟨ad, e1, had, c0, c1, c2, c3⟩ := hol_cells (HA.out _ hb) hlt hkl
      subst e1
      obtain ⟨kb, lb, hb', mb, hx⟩ : ∃ kb lb hb' mb, l[k] = (⟨kb, ⟨lb, hb'⟩, mb⟩ : HoldM) := ⟨_, _, _, _, rfl⟩
      have HX : Hid (∃ h : k < l.length, l[k] = (⟨kb, ⟨lb, hb'⟩, mb⟩ : HoldM)) := ⟨hkl, hx⟩
      rw [hx] at c0 c1 c2 c3
      clear hx hkl

      have hS : ∀ W, Below wr.heap.size wr W → (W.cell? ⟨w.heap.size, 0, none⟩ = some (.int .i64 ka) ∧ W.cell? ⟨w.heap.size, 1, none⟩ = some (.int .i64 la) ∧ W.cell? ⟨w.heap.size, 2, none⟩ = some (.int .i64 ha) ∧ W.cell? ⟨w.heap.size, 3, none⟩ = some (.int .i8 ma)) ∧ (W.cell? (ad.add (k * 4)) = some (.int .i64 kb) ∧ W.cell? ⟨(ad.add (k * 4)).block, (ad.add (k * 4)).off + 1, none⟩ = some (.int .i64 lb) ∧ W.cell? ⟨(ad.add (k * 4)).block, (ad.add (k * 4)).off + 2, none⟩ = some (.int .i64 hb') ∧ W.cell? ⟨(ad.add (k * 4)).block, (ad.add (k * 4)).off + 3, none⟩ = some (.int .i8 mb)) ∧ Below wr.heap.size wr W := fun W h =>
        ⟨hold_cells ((p0.below hb hp).below h (Nat.lt_of_lt_of_le hp hb.size)), ⟨(h.cell (by rw [add_block]; exact had)).trans c0, (h.cell (by show (ad.add (k * 4)).block < _; rw [add_block]; exact had)).trans c1, (h.cell (by show (ad.add (k * 4)).block < _; rw [add_block]; exact had)).trans c2, (h.cell (by show (ad.add (k * 4)).block < _; rw [add_block]; exact had)).trans c3⟩, h⟩
      have hD := hS _ (Below.refl wr.heap.size wr).drew
      have hTog : ∀ W, (W.cell? ⟨w.heap.size, 0, none⟩ = some (.int .i64 ka) ∧ W.cell? ⟨w.heap.size, 1, none⟩ = some (.int .i64 la) ∧ W.cell? ⟨w.heap.size, 2, none⟩ = some (.int .i64 ha) ∧ W.cell? ⟨w.heap.size, 3, none⟩ = some (.int .i8 ma)) ∧ (W.cell? (ad.add (k * 4)) = some (.int .i64 kb) ∧ W.cell? ⟨(ad.add (k * 4)).block, (ad.add (k * 4)).off + 1, none⟩ = some (.int .i64 lb) ∧ W.cell? ⟨(ad.add (k * 4)).block, (ad.add (k * 4)).off + 2, none⟩ = some (.int .i64 hb') ∧ W.cell? ⟨(ad.add (k * 4)).block, (ad.add (k * 4)).off + 3, none⟩ = some (.int .i8 mb)) ∧ Below wr.heap.size wr W → Calls Try.prog 14 #[.agg #[.int .i64 ka, .int .i64 la, .int .i64 ha, .int .i8 ma], .agg #[.int .i64 kb, .int .i64 lb, .int .i64 hb', .int .i8 mb]] W fun e W => e = .returned (.bool (sTog ⟨ka, ⟨la, ha⟩, ma⟩ ⟨kb, ⟨lb, hb'⟩, mb⟩)) ∧ (W.cell? ⟨w.heap.size, 0, none⟩ = some (.int .i64 ka) ∧ W.cell? ⟨w.heap.size, 1, none⟩ = some (.int .i64 la) ∧ W.cell? ⟨w.heap.size, 2, none⟩ = some (.int .i64 ha) ∧ W.cell? ⟨w.heap.size, 3, none⟩ = some (.int .i8 ma)) ∧ (W.cell? (ad.add (k * 4)) = some (.int .i64 kb) ∧ W.cell? ⟨(ad.add (k * 4)).block, (ad.add (k * 4)).off + 1, none⟩ = some (.int .i64 lb) ∧ W.cell? ⟨(ad.add (k * 4)).block, (ad.add (k * 4)).off + 2, none⟩ = some (.int .i64 hb') ∧ W.cell? ⟨(ad.add (k * 4)).block, (ad.add (k * 4)).off + 3, none⟩ = some (.int .i8 mb)) ∧ Below wr.heap.size wr W :=
        fun W h => (refTogether_any ka la ha ma kb lb hb' mb W).mono (by rintro e w' ⟨rfl, hx⟩; exact ⟨rfl, hS _ (h.2.2.trans (hx.mono h.2.2.size))⟩)
      clear hS
      go_upto_region 4 with fail
      clear c0 c1 c2 c3 b0 b1 b2 b3
      go_region_held3 (fun W => (W.cell? ⟨w.heap.size, 0, none⟩ = some (.int .i64 ka) ∧ W.cell? ⟨w.heap.size, 1, none⟩ = some (.int .i64 la) ∧ W.cell? ⟨w.heap.size, 2, none⟩ = some (.int .i64 ha) ∧ W.cell? ⟨w.heap.size, 3, none⟩ = some (.int .i8 ma)) ∧ (W.cell? (ad.add (k * 4)) = some (.int .i64 kb) ∧ W.cell? ⟨(ad.add (k * 4)).block, (ad.add (k * 4)).off + 1, none⟩ = some (.int .i64 lb) ∧ W.cell? ⟨(ad.add (k * 4)).block, (ad.add (k * 4)).off + 2, none⟩ = some (.int .i64 hb') ∧ W.cell? ⟨(ad.add (k * 4)).block, (ad.add (k * 4)).off + 3, none⟩ = some (.int .i8 mb)) ∧ Below wr.heap.size wr W) (first | assumption)
        (first
          | (go_at_call 14; (with_reducible refine (hTog _ ?_).mono ?_); assumption; rintro e w2 ⟨rfl, hN⟩))
      have hb3 : Below W0.heap.size W0 w2 := below_then hb hN.2.2
      clear hN hD hTog

      obtain ⟨r, hr⟩ : ∃ r, Hid (sTog ⟨ka, ⟨la, ha⟩, ma⟩ ⟨kb, ⟨lb, hb'⟩, mb⟩ = r) := ⟨_, rfl⟩
      rw [hr.out]
      cases r
      · have HO : Hid (sFits ⟨ka, ⟨la, ha⟩, ma⟩ l = false) := fits_no_letters HX.out.1 HX.out.2 hr.out
        go_wp2_with fail
        go_ret
        exact ⟨by rw [HO.out]; rfl, below_then hbw hb3⟩
      · have HF' : Hid (sFits ⟨ka, ⟨la, ha⟩, ma⟩ (l.take (k + 1)) = true) := fits_next HX.out.1 HX.out.2 HF.out hr.out
        go_wp2_with fail
        go_roundw
        case rel => exact ⟨k + 1, by omega, by go_num, hb3, HF'⟩
        case measure => simp [intOf]; omega
    · have HO : Hid (sFits ⟨ka, ⟨la, ha⟩, ma⟩ l = true) := fits_all HL.out (by omega : k = n) HF.out
      have hkn : k = n := by omega
      clear hlt HF
      go_wp2_with fail
      go_ret
      exact ⟨by rw [HO.out]; rfl, below_then hbw hb⟩

end Go.Proofs.Ytjknloaolennoaa
