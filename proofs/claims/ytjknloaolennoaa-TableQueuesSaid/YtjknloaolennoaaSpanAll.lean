/-
  span: do each two of the holds go together (All), and the document's: by contract.
-/
import Derived.Test.YtjknloaolennoaaSpanSome
namespace Go.Proofs.Ytjknloaolennoaa
open Go.Joins Go.ChangeShapes Go.WideShapes Go.RowKit Go.Deep
set_option linter.unusedVariables false
set_option linter.unusedSimpArgs false

/-- Each, as far as k, fits those behind it. -/
def sTailK (l : List HoldM) (n : Nat) : Bool := (List.range n).all fun i => sFits (l.getD i default) (l.drop (i + 1))
theorem s_tailK_succ {l : List HoldM} {k : Nat} (hk : k < l.length) : sTailK l (k + 1) = (sTailK l k && sFits l[k] (l.drop (k + 1))) := by
  unfold sTailK
  rw [List.range_succ, List.all_append, s_getD_hold hk |>.symm]
  simp
theorem s_fits_mem {h : HoldM} {l : List HoldM} (hf : sFits h l = true) {x : HoldM} (hx : x ∈ l) : sTog h x = true := List.all_eq_true.1 hf x hx
theorem s_tail_all {l : List HoldM} (h : sTailK l l.length = true) : sAll l = true := by
  refine s_all_of fun a b ha hb => ?_
  have h1 := List.all_eq_true.1 h b (List.mem_range.2 (by omega))
  rw [s_getD_hold (by omega)] at h1
  rw [s_tog_comm]
  refine s_fits_mem h1 ?_
  rw [List.mem_iff_getElem?]
  exact ⟨a - (b + 1), by rw [List.getElem?_drop, show b + 1 + (a - (b + 1)) = a by omega, List.getElem?_eq_getElem ha]⟩
theorem s_tail_no {l : List HoldM} {k : Nat} (hk : k < l.length) (h : sFits l[k] (l.drop (k + 1)) = false) : sAll l = false := by
  rcases ha : sAll l with _ | _
  · rfl
  · exfalso
    have h2 : sFits l[k] (l.drop (k + 1)) = true := by
      unfold sFits
      rw [List.all_eq_true]
      intro x hx
      exact s_fits_mem (s_all_fits ha hk) (List.mem_of_mem_drop hx)
    rw [h2] at h
    cases h
theorem tail_next {l : List HoldM} {k : Nat} (hk : k < l.length) {x : HoldM} (e : l[k] = x) (hf : sTailK l k = true) (h : sFits x (l.drop (k + 1)) = true) : sTailK l (k + 1) = true := by
  rw [s_tailK_succ hk, hf, e, h]; rfl
theorem tail_no {l : List HoldM} {k : Nat} (hk : k < l.length) {x : HoldM} (e : l[k] = x) (h : sFits x (l.drop (k + 1)) = false) : sAll l = false := s_tail_no hk (e ▸ h)
theorem tail_end {l : List HoldM} {k n : Nat} (hl : l.length = n) (hk : k = n) (h : sTailK l k = true) : sAll l = true := s_tail_all (by rw [hl, ← hk]; exact h)

/-- The rest of a row lies behind. -/
theorem LiesH.tail {w : World} {B n : Nat} {ad : Addr} {l : List HoldM} (h : LiesH w B (some ad) n l) (k : Nat) (hk : k ≤ n) : LiesH w B (some (ad.add (k * 4))) (n - k) (l.drop k) := by
  obtain ⟨h1, h2, h3⟩ := h
  refine ⟨by rw [List.length_drop, h1], by rw [holV_length, List.length_drop, h1], fun hn => ?_⟩
  obtain ⟨p, e, hb, hc⟩ := h3 (by omega)
  injection e with e
  subst e
  refine ⟨_, rfl, by rw [add_block]; exact hb, fun j u hj => ?_⟩
  rw [add_add]
  refine hc _ u ?_
  have hd : holV (l.drop k) = (holV l).drop (k * 4) := by
    have h4 := holV_append (l.take k) (l.drop k)
    rw [List.take_append_drop] at h4
    have h5 : (holV (l.take k)).length = k * 4 := by rw [holV_length, List.length_take]; omega
    rw [h4, ← h5, List.drop_left]
  rw [hd, List.getElem?_drop] at hj
  exact hj
theorem LiesH.length {w : World} {B n : Nat} {A : Option Addr} {l : List HoldM} (h : LiesH w B A n l) : l.length = n := h.1
theorem LiesH.none_tail {w : World} {B n : Nat} {A : Option Addr} {l : List HoldM} (hn : n = 0) (hl : l = []) : LiesH w B A n l := by
  subst hl hn
  exact ⟨rfl, rfl, fun hn => absurd hn (by omega)⟩

set_option maxRecDepth 100000 in
set_option maxHeartbeats 1000000 in
theorem All_any (A : Option Addr) (n c : Nat) (l : List HoldM) (w : World) (hA : LiesH w w.heap.size A n l) (hn : n ≤ maxLen) (hnc : n ≤ c) (hc : c ≤ maxLen) :
    Calls Try.prog 41 #[.slice A n c] w fun e w' => e = .returned (.bool (sAll l)) ∧ Below w.heap.size w w' := by
  have HL : Hid (l.length = n) := hA.1
  have HM := Lib.hid hn
  unfold maxLen at hn hc
  have HA : Hid (∀ W, Below w.heap.size w W → LiesH W W.heap.size A n l) := fun W h => hA.below h
  clear hA
  go_enter Try.func41, Try.ntmps41
  go_wp2_with fail
  go_loopw [7] (fun i wr => ∃ k : Nat, k ≤ n ∧ i = .int .i64 k ∧ Below w.heap.size w wr ∧ Hid (sTailK l k = true)) (fun i _ => n - (intOf i).toNat)
  case atStart => exact ⟨0, Nat.zero_le _, rfl, Below.refl _ _, rfl⟩
  case round =>
    obtain ⟨k, hk, rfl, hb, HF⟩ := hrel
    by_cases hlt : k < n
    · have hkl : k < l.length := by rw [HL.out]; exact hlt
      obtain ⟨ad, e1, had, c0, c1, c2, c3⟩ := hol_cells (HA.out _ hb) hlt hkl
      subst e1
      obtain ⟨kx, lx, hx_, mx, hx⟩ : ∃ kx lx hx' mx, l[k] = (⟨kx, ⟨lx, hx'⟩, mx⟩ : HoldM) := ⟨_, _, _, _, rfl⟩
      have HX : Hid (∃ h : k < l.length, l[k] = (⟨kx, ⟨lx, hx_⟩, mx⟩ : HoldM)) := ⟨hkl, hx⟩
      rw [hx] at c0 c1 c2 c3
      clear hx hkl
      have s1 : IntKind.i64.wrap ((k : Int) + 1) = (k : Int) + 1 := IntWalk.i64_in _ (by omega)
      have s2 : (0 : Int) ≤ (k : Int) + 1 := by omega
      have s3 : ((k : Int) + 1).toNat = k + 1 := by omega
      have s4 : k + 1 ≤ n := by omega
      have s5 : k + 1 ≤ c := by omega
      obtain ⟨W1, hW1⟩ : ∃ W1, W1 = wr.alloc (.cells #[.int .i64 kx, .int .i64 lx, .int .i64 hx_, .int .i8 mx] 43) := ⟨_, rfl⟩
      have hb1 : Below w.heap.size w W1 := hW1 ▸ hb.alloc hb.size _
      have p1 : Blk W1 wr.heap.size #[.int .i64 kx, .int .i64 lx, .int .i64 hx_, .int .i8 mx] 43 := hW1 ▸ Blk.new wr _ _
      have hS : ∀ W, Below W1.heap.size W1 W → (W.cell? ⟨wr.heap.size, 0, none⟩ = some (.int .i64 kx) ∧ W.cell? ⟨wr.heap.size, 1, none⟩ = some (.int .i64 lx) ∧ W.cell? ⟨wr.heap.size, 2, none⟩ = some (.int .i64 hx_) ∧ W.cell? ⟨wr.heap.size, 3, none⟩ = some (.int .i8 mx)) ∧ Below W1.heap.size W1 W := fun W h => ⟨hold_cells (p1.below h p1.lt), h⟩
      have hD := hS _ (Below.refl W1.heap.size W1).drew
      have s6 : (k : Int) + 1 ≤ (n : Int) := by omega
      have s7 : (k : Int) + 1 ≤ (c : Int) := by omega
      have s8 : (n : Int) ≤ (c : Int) := by omega
      have HT := Lib.hid (fun W h => (HA.out W h).tail (k + 1) s4)
      have HE := Lib.hid (LiesH.length (HA.out _ hb))
      by_cases hck : c = k + 1
      · have HNK : Hid (n - (k + 1) = 0) := by show _ = _; omega
        subst hck
        have hFits : ∀ W, (W.cell? ⟨wr.heap.size, 0, none⟩ = some (.int .i64 kx) ∧ W.cell? ⟨wr.heap.size, 1, none⟩ = some (.int .i64 lx) ∧ W.cell? ⟨wr.heap.size, 2, none⟩ = some (.int .i64 hx_) ∧ W.cell? ⟨wr.heap.size, 3, none⟩ = some (.int .i8 mx)) ∧ Below W1.heap.size W1 W → Calls Try.prog 53 #[.agg #[.int .i64 kx, .int .i64 lx, .int .i64 hx_, .int .i8 mx], .slice (some ad) 0 0] W fun e W => e = .returned (.bool (sFits ⟨kx, ⟨lx, hx_⟩, mx⟩ (l.drop (k + 1)))) ∧ (W.cell? ⟨wr.heap.size, 0, none⟩ = some (.int .i64 kx) ∧ W.cell? ⟨wr.heap.size, 1, none⟩ = some (.int .i64 lx) ∧ W.cell? ⟨wr.heap.size, 2, none⟩ = some (.int .i64 hx_) ∧ W.cell? ⟨wr.heap.size, 3, none⟩ = some (.int .i8 mx)) ∧ Below W1.heap.size W1 W :=
          fun W h => (Fits_any kx lx hx_ mx (some ad) 0 0 (l.drop (k + 1)) W (LiesH.none_tail rfl (List.drop_of_length_le (by rw [HE.out]; have := HNK.out; omega))) (Nat.zero_le _)).mono (by rintro e w' ⟨rfl, hx⟩; exact ⟨rfl, hS _ (h.2.trans (hx.mono h.2.size))⟩)
        clear hS
        go_upto_region 4 with fail
        rw [← hW1]
        clear c0 c1 c2 c3 hW1
        go_region_held3 (fun W => (W.cell? ⟨wr.heap.size, 0, none⟩ = some (.int .i64 kx) ∧ W.cell? ⟨wr.heap.size, 1, none⟩ = some (.int .i64 lx) ∧ W.cell? ⟨wr.heap.size, 2, none⟩ = some (.int .i64 hx_) ∧ W.cell? ⟨wr.heap.size, 3, none⟩ = some (.int .i8 mx)) ∧ Below W1.heap.size W1 W) (first | assumption)
          (first
            | (go_at_call 53; (with_reducible refine (hFits _ ?_).mono ?_); assumption; rintro e w2 ⟨rfl, hN⟩))
        have hb3 : Below w.heap.size w w2 := below_then hb1 hN.2
        clear hN hD hFits
        obtain ⟨r, hr⟩ : ∃ r, Hid (sFits ⟨kx, ⟨lx, hx_⟩, mx⟩ (l.drop (k + 1)) = r) := ⟨_, rfl⟩
        rw [hr.out]
        cases r
        · have HO : Hid (sAll l = false) := tail_no HX.out.1 HX.out.2 hr.out
          go_wp2_with fail
          go_ret
          exact ⟨by rw [HO.out]; rfl, hb3⟩
        · have HF' : Hid (sTailK l (k + 1) = true) := tail_next HX.out.1 HX.out.2 HF.out hr.out
          go_wp2_with fail
          go_roundw
          case rel => exact ⟨k + 1, by omega, by go_num, hb3, HF'⟩
          case measure => simp [intOf]; omega
      · have hFits : ∀ W, (W.cell? ⟨wr.heap.size, 0, none⟩ = some (.int .i64 kx) ∧ W.cell? ⟨wr.heap.size, 1, none⟩ = some (.int .i64 lx) ∧ W.cell? ⟨wr.heap.size, 2, none⟩ = some (.int .i64 hx_) ∧ W.cell? ⟨wr.heap.size, 3, none⟩ = some (.int .i8 mx)) ∧ Below W1.heap.size W1 W → Calls Try.prog 53 #[.agg #[.int .i64 kx, .int .i64 lx, .int .i64 hx_, .int .i8 mx], .slice (some (ad.add ((k + 1) * 4))) (n - (k + 1)) (c - (k + 1))] W fun e W => e = .returned (.bool (sFits ⟨kx, ⟨lx, hx_⟩, mx⟩ (l.drop (k + 1)))) ∧ (W.cell? ⟨wr.heap.size, 0, none⟩ = some (.int .i64 kx) ∧ W.cell? ⟨wr.heap.size, 1, none⟩ = some (.int .i64 lx) ∧ W.cell? ⟨wr.heap.size, 2, none⟩ = some (.int .i64 hx_) ∧ W.cell? ⟨wr.heap.size, 3, none⟩ = some (.int .i8 mx)) ∧ Below W1.heap.size W1 W :=
          fun W h => (Fits_any kx lx hx_ mx (some (ad.add ((k + 1) * 4))) (n - (k + 1)) (c - (k + 1)) (l.drop (k + 1)) W (HT.out W (below_then hb1 h.2)) (by have := HM.out; omega)).mono (by rintro e w' ⟨rfl, hx⟩; exact ⟨rfl, hS _ (h.2.trans (hx.mono h.2.size))⟩)
        clear hS
        go_upto_region 4 with fail
        rw [← hW1]
        clear c0 c1 c2 c3 hW1
        go_region_held3 (fun W => (W.cell? ⟨wr.heap.size, 0, none⟩ = some (.int .i64 kx) ∧ W.cell? ⟨wr.heap.size, 1, none⟩ = some (.int .i64 lx) ∧ W.cell? ⟨wr.heap.size, 2, none⟩ = some (.int .i64 hx_) ∧ W.cell? ⟨wr.heap.size, 3, none⟩ = some (.int .i8 mx)) ∧ Below W1.heap.size W1 W) (first | assumption)
          (first
            | (go_at_call 53; (with_reducible refine (hFits _ ?_).mono ?_); assumption; rintro e w2 ⟨rfl, hN⟩))
        have hb3 : Below w.heap.size w w2 := below_then hb1 hN.2
        clear hN hD hFits
        obtain ⟨r, hr⟩ : ∃ r, Hid (sFits ⟨kx, ⟨lx, hx_⟩, mx⟩ (l.drop (k + 1)) = r) := ⟨_, rfl⟩
        rw [hr.out]
        cases r
        · have HO : Hid (sAll l = false) := tail_no HX.out.1 HX.out.2 hr.out
          go_wp2_with fail
          go_ret
          exact ⟨by rw [HO.out]; rfl, hb3⟩
        · have HF' : Hid (sTailK l (k + 1) = true) := tail_next HX.out.1 HX.out.2 HF.out hr.out
          go_wp2_with fail
          go_roundw
          case rel => exact ⟨k + 1, by omega, by go_num, hb3, HF'⟩
          case measure => simp [intOf]; omega
    · have HO : Hid (sAll l = true) := tail_end HL.out (by omega : k = n) HF.out
      have hkn : k = n := by omega
      clear hlt HF
      go_wp2_with fail
      go_ret
      exact ⟨by rw [HO.out]; rfl, hb⟩

theorem allK_next {l : List HoldM} {k : Nat} (hk : k < l.length) {x : HoldM} (e : l[k] = x) (hf : sAllK l k = true) (h : sFits x (l.take k) = true) : sAllK l (k + 1) = true := by
  rw [s_allK_succ hk, hf, e, h]; rfl
theorem allK_no {l : List HoldM} {i j : Nat} (hi : i < l.length) (hj : j < i) {x y : HoldM} (e : l[i] = x) (e2 : l[j]'(by omega) = y) (h : sTog x y = false) : sAll l = false := s_all_no hi hj (by rw [e, e2]; exact h)
theorem allK_end {l : List HoldM} {k n : Nat} (hl : l.length = n) (hk : k = n) (h : sAllK l k = true) : sAll l = true := by rw [← s_allK_all, hl, ← hk]; exact h

set_option maxRecDepth 100000 in
set_option maxHeartbeats 1000000 in
theorem refAll_any (A : Option Addr) (n c : Nat) (l : List HoldM) (w : World) (hA : LiesH w w.heap.size A n l) (hn : n ≤ maxLen) :
    Calls Try.prog 11 #[.slice A n c] w fun e w' => e = .returned (.bool (sAll l)) ∧ Below w.heap.size w w' := by
  have HL : Hid (l.length = n) := hA.1
  unfold maxLen at hn
  have HA : Hid (∀ W, Below w.heap.size w W → LiesH W W.heap.size A n l) := fun W h => hA.below h
  clear hA
  go_enter Try.func11, Try.ntmps11
  go_wp2_with fail
  go_loopw [3] (fun i wr => ∃ k : Nat, k ≤ n ∧ i = .int .i64 k ∧ Below w.heap.size w wr ∧ Hid (sAllK l k = true)) (fun i _ => n - (intOf i).toNat)
  case atStart => exact ⟨0, Nat.zero_le _, rfl, Below.refl _ _, rfl⟩
  case round =>
    obtain ⟨i, hi, rfl, hb, HF⟩ := hrel
    by_cases hlt : i < n
    · have hkl : i < l.length := by rw [HL.out]; exact hlt
      obtain ⟨ka, la, ha, ma, hx⟩ : ∃ ka la ha ma, l[i] = (⟨ka, ⟨la, ha⟩, ma⟩ : HoldM) := ⟨_, _, _, _, rfl⟩
      have HX : Hid (∃ h : i < l.length, l[i] = (⟨ka, ⟨la, ha⟩, ma⟩ : HoldM)) := ⟨hkl, hx⟩
      clear hx hkl
      go_wp2_with fail
      go_loopw [4] (fun j wq => ∃ k : Nat, k ≤ i ∧ j = .int .i64 k ∧ Below w.heap.size w wq ∧ Hid (sFits ⟨ka, ⟨la, ha⟩, ma⟩ (l.take k) = true)) (fun j _ => i - (intOf j).toNat)
      case atStart => exact ⟨0, Nat.zero_le _, rfl, hb, rfl⟩
      case round =>
        obtain ⟨j, hj, rfl, hbq, HG⟩ := hrel
        by_cases hlj : j < i
        · have hjl : j < l.length := by rw [HL.out]; omega
          have hjn : j < n := by omega
          obtain ⟨ad, e1, had, c0, c1, c2, c3⟩ := hol_cells (HA.out _ hbq) hlt HX.out.1
          subst e1
          obtain ⟨ad', e1, _, d0, d1, d2, d3⟩ := hol_cells (HA.out _ hbq) hjn hjl
          injection e1 with e1
          subst e1
          obtain ⟨kb, lb, hb_, mb, hy⟩ : ∃ kb lb hb' mb, l[j] = (⟨kb, ⟨lb, hb'⟩, mb⟩ : HoldM) := ⟨_, _, _, _, rfl⟩
          have HY : Hid (∃ h : j < l.length, l[j] = (⟨kb, ⟨lb, hb_⟩, mb⟩ : HoldM)) := ⟨hjl, hy⟩
          rw [HX.out.2] at c0 c1 c2 c3
          rw [hy] at d0 d1 d2 d3
          clear hy hjl
          have hS : ∀ W, Below wr.heap.size wr W → (W.cell? (ad.add (i * 4)) = some (.int .i64 ka) ∧ W.cell? ⟨(ad.add (i * 4)).block, (ad.add (i * 4)).off + 1, none⟩ = some (.int .i64 la) ∧ W.cell? ⟨(ad.add (i * 4)).block, (ad.add (i * 4)).off + 2, none⟩ = some (.int .i64 ha) ∧ W.cell? ⟨(ad.add (i * 4)).block, (ad.add (i * 4)).off + 3, none⟩ = some (.int .i8 ma)) ∧ (W.cell? (ad.add (j * 4)) = some (.int .i64 kb) ∧ W.cell? ⟨(ad.add (j * 4)).block, (ad.add (j * 4)).off + 1, none⟩ = some (.int .i64 lb) ∧ W.cell? ⟨(ad.add (j * 4)).block, (ad.add (j * 4)).off + 2, none⟩ = some (.int .i64 hb_) ∧ W.cell? ⟨(ad.add (j * 4)).block, (ad.add (j * 4)).off + 3, none⟩ = some (.int .i8 mb)) ∧ Below wr.heap.size wr W := fun W h =>
            ⟨⟨(h.cell (by rw [add_block]; exact had)).trans c0, (h.cell (by show (ad.add (i * 4)).block < _; rw [add_block]; exact had)).trans c1, (h.cell (by show (ad.add (i * 4)).block < _; rw [add_block]; exact had)).trans c2, (h.cell (by show (ad.add (i * 4)).block < _; rw [add_block]; exact had)).trans c3⟩,
              ⟨(h.cell (by rw [add_block]; exact had)).trans d0, (h.cell (by show (ad.add (j * 4)).block < _; rw [add_block]; exact had)).trans d1, (h.cell (by show (ad.add (j * 4)).block < _; rw [add_block]; exact had)).trans d2, (h.cell (by show (ad.add (j * 4)).block < _; rw [add_block]; exact had)).trans d3⟩, h⟩
          have hD := hS _ (Below.refl wr.heap.size wr).drew
          have hTog : ∀ W, (W.cell? (ad.add (i * 4)) = some (.int .i64 ka) ∧ W.cell? ⟨(ad.add (i * 4)).block, (ad.add (i * 4)).off + 1, none⟩ = some (.int .i64 la) ∧ W.cell? ⟨(ad.add (i * 4)).block, (ad.add (i * 4)).off + 2, none⟩ = some (.int .i64 ha) ∧ W.cell? ⟨(ad.add (i * 4)).block, (ad.add (i * 4)).off + 3, none⟩ = some (.int .i8 ma)) ∧ (W.cell? (ad.add (j * 4)) = some (.int .i64 kb) ∧ W.cell? ⟨(ad.add (j * 4)).block, (ad.add (j * 4)).off + 1, none⟩ = some (.int .i64 lb) ∧ W.cell? ⟨(ad.add (j * 4)).block, (ad.add (j * 4)).off + 2, none⟩ = some (.int .i64 hb_) ∧ W.cell? ⟨(ad.add (j * 4)).block, (ad.add (j * 4)).off + 3, none⟩ = some (.int .i8 mb)) ∧ Below wr.heap.size wr W → Calls Try.prog 14 #[.agg #[.int .i64 ka, .int .i64 la, .int .i64 ha, .int .i8 ma], .agg #[.int .i64 kb, .int .i64 lb, .int .i64 hb_, .int .i8 mb]] W fun e W => e = .returned (.bool (sTog ⟨ka, ⟨la, ha⟩, ma⟩ ⟨kb, ⟨lb, hb_⟩, mb⟩)) ∧ (W.cell? (ad.add (i * 4)) = some (.int .i64 ka) ∧ W.cell? ⟨(ad.add (i * 4)).block, (ad.add (i * 4)).off + 1, none⟩ = some (.int .i64 la) ∧ W.cell? ⟨(ad.add (i * 4)).block, (ad.add (i * 4)).off + 2, none⟩ = some (.int .i64 ha) ∧ W.cell? ⟨(ad.add (i * 4)).block, (ad.add (i * 4)).off + 3, none⟩ = some (.int .i8 ma)) ∧ (W.cell? (ad.add (j * 4)) = some (.int .i64 kb) ∧ W.cell? ⟨(ad.add (j * 4)).block, (ad.add (j * 4)).off + 1, none⟩ = some (.int .i64 lb) ∧ W.cell? ⟨(ad.add (j * 4)).block, (ad.add (j * 4)).off + 2, none⟩ = some (.int .i64 hb_) ∧ W.cell? ⟨(ad.add (j * 4)).block, (ad.add (j * 4)).off + 3, none⟩ = some (.int .i8 mb)) ∧ Below wr.heap.size wr W :=
            fun W h => (refTogether_any ka la ha ma kb lb hb_ mb W).mono (by rintro e w' ⟨rfl, hx⟩; exact ⟨rfl, hS _ (h.2.2.trans (hx.mono h.2.2.size))⟩)
          clear hS
          go_upto_region 7 with fail
          clear c0 c1 c2 c3 d0 d1 d2 d3
          go_region_held3 (fun W => (W.cell? (ad.add (i * 4)) = some (.int .i64 ka) ∧ W.cell? ⟨(ad.add (i * 4)).block, (ad.add (i * 4)).off + 1, none⟩ = some (.int .i64 la) ∧ W.cell? ⟨(ad.add (i * 4)).block, (ad.add (i * 4)).off + 2, none⟩ = some (.int .i64 ha) ∧ W.cell? ⟨(ad.add (i * 4)).block, (ad.add (i * 4)).off + 3, none⟩ = some (.int .i8 ma)) ∧ (W.cell? (ad.add (j * 4)) = some (.int .i64 kb) ∧ W.cell? ⟨(ad.add (j * 4)).block, (ad.add (j * 4)).off + 1, none⟩ = some (.int .i64 lb) ∧ W.cell? ⟨(ad.add (j * 4)).block, (ad.add (j * 4)).off + 2, none⟩ = some (.int .i64 hb_) ∧ W.cell? ⟨(ad.add (j * 4)).block, (ad.add (j * 4)).off + 3, none⟩ = some (.int .i8 mb)) ∧ Below wr.heap.size wr W) (first | assumption)
            (first
              | (go_at_call 14; (with_reducible refine (hTog _ ?_).mono ?_); assumption; rintro e w2 ⟨rfl, hN⟩))
          have hb3 : Below w.heap.size w w2 := below_then hbq hN.2.2
          clear hN hD hTog
          obtain ⟨r, hr⟩ : ∃ r, Hid (sTog ⟨ka, ⟨la, ha⟩, ma⟩ ⟨kb, ⟨lb, hb_⟩, mb⟩ = r) := ⟨_, rfl⟩
          rw [hr.out]
          cases r
          · have HO : Hid (sAll l = false) := allK_no HX.out.1 hlj HX.out.2 HY.out.2 hr.out
            go_wp2_with fail
            go_ret
            exact ⟨by rw [HO.out]; rfl, hb3⟩
          · have HG' : Hid (sFits ⟨ka, ⟨la, ha⟩, ma⟩ (l.take (j + 1)) = true) := fits_next HY.out.1 HY.out.2 HG.out hr.out
            go_wp2_with fail
            go_roundw
            case rel => exact ⟨j + 1, by omega, by go_num, hb3, HG'⟩
            case measure => simp [intOf]; omega
        · have hji : j = i := by omega
          subst hji
          have HF' : Hid (sAllK l (j + 1) = true) := allK_next HX.out.1 HX.out.2 HF.out HG.out
          clear hlj HF HG
          go_wp2_with fail
          go_roundw
          case rel => exact ⟨j + 1, by omega, by go_num, hbq, HF'⟩
          case measure => simp [intOf]; omega
    · have HO : Hid (sAll l = true) := allK_end HL.out (by omega : i = n) HF.out
      have hkn : i = n := by omega
      clear hlt HF
      go_wp2_with fail
      go_ret
      exact ⟨by rw [HO.out]; rfl, hb⟩

end Go.Proofs.Ytjknloaolennoaa
