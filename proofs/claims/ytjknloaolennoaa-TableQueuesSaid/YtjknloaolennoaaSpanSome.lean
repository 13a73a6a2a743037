/-
  span: what some of many holds tell (some, Covers, Touches), and the document's: by contract.
-/
import Derived.Test.YtjknloaolennoaaSpanMany
import Derived.BigQuiet
namespace Go.Proofs.Ytjknloaolennoaa
open Go.RowKit
set_option linter.unusedVariables false
set_option linter.unusedSimpArgs false


set_option maxRecDepth 100000 in
theorem cloTou_any (k lo hi m sl sh : Int) (bs : Nat) (w : World) (h1 : w.cell? ⟨bs, 0, none⟩ = some (.int .i64 sl)) (h2 : w.cell? ⟨bs, 1, none⟩ = some (.int .i64 sh)) (l1 : bs < w.heap.size) :
    Calls Try.prog 77 #[.agg #[.int .i64 lo, .int .i64 hi, .int .i64 k, .int .i8 m], .pointer (some ⟨bs, 0, none⟩)] w fun e w' => e = .returned (.bool (sOv ⟨lo, hi⟩ ⟨sl, sh⟩)) ∧ Below w.heap.size w w' := by
  have b0 := one_new w (.cells #[.int .i64 lo, .int .i64 hi, .int .i64 k, .int .i8 m] 94)
  go_enter Try.func77, Try.ntmps77
  go_wp2_with fail
  refine (overlaps_any lo hi sl sh _).mono ?_
  rintro e w1 ⟨rfl, hb1⟩
  have b1 := below_then b0 hb1
  obtain ⟨r, hr⟩ : ∃ r, Hid (sOv ⟨lo, hi⟩ ⟨sl, sh⟩ = r) := ⟨_, rfl⟩
  rw [hr.out]
  go_wp2_with fail
  go_ret
  exact ⟨by rw [hr.out] <;> rfl, b1⟩

/-! ### Some hold of a key is such -/
/-- Is one of the holds the key's, and such? -/
def sSuch (key : Int) (such : SpanM → Int → Bool) (h : HoldM) : Bool := (h.key == key) && such h.s h.m
def sAny (l : List HoldM) (key : Int) (such : SpanM → Int → Bool) : Bool := l.any (sSuch key such)
theorem any_cov (l : List HoldM) (key b mode : Int) : sAny l key (hasC b mode) = sCov l key b mode := by
  unfold sAny sCov
  congr 1
  funext h
  exact (sHas_parts key b mode h).symm
theorem any_tou (l : List HoldM) (key : Int) (s : SpanM) : sAny l key (fun x _ => sOv x s) = sTou l key s := rfl
theorem any_yes {l : List HoldM} {key : Int} {such : SpanM → Int → Bool} {k : Nat} (hk : k < l.length) {x : HoldM} (e : l[k] = x) (h1 : (x.key == key) = true) (h2 : such x.s x.m = true) : sAny l key such = true :=
  List.any_eq_true.2 ⟨l[k], List.getElem_mem hk, by rw [e]; unfold sSuch; rw [h1, h2]; rfl⟩
theorem any_next {l : List HoldM} {key : Int} {such : SpanM → Int → Bool} {k : Nat} (hk : k < l.length) {x : HoldM} (e : l[k] = x) (hf : sAny (l.take k) key such = false) (h : (x.key == key) = false ∨ such x.s x.m = false) : sAny (l.take (k + 1)) key such = false := by
  unfold sAny at hf ⊢
  rw [List.take_succ_eq_append_getElem hk, List.any_append, hf, e]
  rcases h with h | h <;> simp [sSuch, h]
theorem any_all {l : List HoldM} {key : Int} {such : SpanM → Int → Bool} {k n : Nat} (hl : l.length = n) (hk : k = n) (hf : sAny (l.take k) key such = false) : sAny l key such = false := by
  rwa [hk, ← hl, List.take_length] at hf


set_option maxRecDepth 100000 in
set_option maxHeartbeats 1000000 in
theorem someTou_any (key sl sh : Int) (bs : Nat) (A : Option Addr) (n c : Nat) (l : List HoldM) (w : World) (hA : LiesH w w.heap.size A n l) (hn : n ≤ maxLen) (h1 : w.cell? ⟨bs, 0, none⟩ = some (.int .i64 sl)) (h2 : w.cell? ⟨bs, 1, none⟩ = some (.int .i64 sh)) (l1 : bs < w.heap.size) :
    Calls Try.prog 76 #[.int .i64 key, .func (.func 77) #[] #[.pointer (some ⟨bs, 0, none⟩)], .slice A n c] w fun e w' => e = .returned (.bool (sAny l key (fun x _ => sOv x ⟨sl, sh⟩))) ∧ Below w.heap.size w w' := by
  have HL : Hid (l.length = n) := hA.1
  unfold maxLen at hn
  have HA : Hid (∀ W, Below w.heap.size w W → LiesH W W.heap.size A n l) := fun W h => hA.below h
  have HC : Hid (∀ W k lo hi m, Below w.heap.size w W → Calls Try.prog 77 #[.agg #[.int .i64 lo, .int .i64 hi, .int .i64 k, .int .i8 m], .pointer (some ⟨bs, 0, none⟩)] W fun e w' => e = .returned (.bool ((fun x _ => sOv x ⟨sl, sh⟩) ⟨lo, hi⟩ m)) ∧ Below w.heap.size w w') := fun W k lo hi m h =>
    (cloTou_any k lo hi m sl sh bs W ((h.cell (p := ⟨bs, 0, none⟩) l1).trans h1) ((h.cell (p := ⟨bs, 1, none⟩) l1).trans h2) (Nat.lt_of_lt_of_le l1 h.size)).mono (by rintro e w' ⟨rfl, hb⟩; exact ⟨rfl, below_then h hb⟩)
  obtain ⟨such, hsuch⟩ : ∃ f : SpanM → Int → Bool, f = (fun x _ => sOv x ⟨sl, sh⟩) := ⟨_, rfl⟩
  rw [← hsuch] at HC ⊢
  clear hA h1 h2 l1 hsuch
  go_enter Try.func76, Try.ntmps76
  go_wp2_with fail
  go_loopw [12] (fun i wr => ∃ k : Nat, k ≤ n ∧ i = .int .i64 k ∧ Below w.heap.size w wr ∧ Hid (sAny (l.take k) key such = false)) (fun i _ => n - (intOf i).toNat)
  case atStart => exact ⟨0, Nat.zero_le _, rfl, Below.refl _ _, rfl⟩
  case round =>
    obtain ⟨k, hk, rfl, hb, HF⟩ := hrel
    by_cases hlt : k < n
    · have hkl : k < l.length := by rw [HL.out]; exact hlt
      obtain ⟨ad, e1, had, c0, c1, c2, c3⟩ := hol_cells (HA.out _ hb) hlt hkl
      subst e1
      obtain ⟨kx, lx, hx', mx, hx⟩ : ∃ kx lx hx' mx, l[k] = (⟨kx, ⟨lx, hx'⟩, mx⟩ : HoldM) := ⟨_, _, _, _, rfl⟩
      have HX : Hid (∃ h : k < l.length, l[k] = (⟨kx, ⟨lx, hx'⟩, mx⟩ : HoldM)) := ⟨hkl, hx⟩
      rw [hx] at c0 c1 c2 c3
      clear hx hkl
      have p0 := Blk.new wr #[.int .i64 kx, .int .i64 lx, .int .i64 hx', .int .i8 mx] 43
      have hb1 := hb.alloc hb.size (.cells #[.int .i64 kx, .int .i64 lx, .int .i64 hx', .int .i8 mx] 43)
      go_wp2_with fail
      refine (of_any kx lx hx' mx _).mono ?_
      rintro e w2 ⟨rfl, hb2⟩
      have hb3 := below_then hb1 hb2
      clear p0 hb1 hb2 c0 c1 c2 c3
      have hb4 := hb3.alloc hb3.size (.cells #[.int .i64 lx, .int .i64 hx', .int .i64 kx, .int .i8 mx] 94)
      cases he : kx == key with
      | false =>
        have HF' : Hid (sAny (l.take (k + 1)) key such = false) := any_next HX.out.1 HX.out.2 HF.out (.inl he)
        go_wp2_with fail
        go_roundw
        case rel => exact ⟨k + 1, by omega, by go_num, hb4, HF'⟩
        case measure => simp [intOf]; omega
      | true =>
        have HE := Lib.hid he
        go_wp2_with fail
        refine (HC.out _ kx lx hx' mx hb4).mono ?_
        rintro e w5 ⟨rfl, hb5⟩
        clear hb3 hb4
        obtain ⟨r, hr⟩ : ∃ r, Hid (such ⟨lx, hx'⟩ mx = r) := ⟨_, rfl⟩
        rw [hr.out]
        cases r
        · have HF' : Hid (sAny (l.take (k + 1)) key such = false) := any_next HX.out.1 HX.out.2 HF.out (.inr hr.out)
          go_wp2_with fail
          go_roundw
          case rel => exact ⟨k + 1, by omega, by go_num, hb5, HF'⟩
          case measure => simp [intOf]; omega
        · have HO : Hid (sAny l key such = true) := any_yes HX.out.1 HX.out.2 HE.out hr.out
          go_wp2_with fail
          go_ret
          exact ⟨by rw [HO.out]; rfl, hb5⟩
    · have HO : Hid (sAny l key such = false) := any_all HL.out (by omega : k = n) HF.out
      have hkn : k = n := by omega
      clear hlt HF
      go_wp2_with fail
      go_ret
      exact ⟨by rw [HO.out]; rfl, hb⟩


set_option maxRecDepth 100000 in
theorem Touches_any (A : Option Addr) (n c : Nat) (l : List HoldM) (key sl sh : Int) (w : World) (hA : LiesH w w.heap.size A n l) (hn : n ≤ maxLen) :
    Calls Try.prog 69 #[.slice A n c, .int .i64 key, .agg #[.int .i64 sl, .int .i64 sh]] w fun e w' => e = .returned (.bool (sTou l key ⟨sl, sh⟩)) ∧ Below w.heap.size w w' := by
  obtain ⟨W0, hW⟩ : ∃ W0, W0 = w.alloc (.cells #[.int .i64 sl, .int .i64 sh] 34) := ⟨_, rfl⟩
  have hbw : Below w.heap.size w W0 := hW ▸ one_new _ _
  have p0 : Blk W0 w.heap.size #[.int .i64 sl, .int .i64 sh] 34 := hW ▸ Blk.new w _ _
  have hcall := someTou_any key sl sh w.heap.size A n c l W0 (hA.below hbw) hn (p0.cell 0 _ rfl) (p0.cell 1 _ rfl) p0.lt
  rw [any_tou] at hcall
  clear p0 hA
  go_enter Try.func69, Try.ntmps69
  go_wp2_with fail
  rw [← hW]
  clear hW
  refine hcall.mono ?_
  rintro e w1 ⟨rfl, hb1⟩
  obtain ⟨r, hr⟩ : ∃ r, Hid (sTou l key ⟨sl, sh⟩ = r) := ⟨_, rfl⟩
  rw [hr.out]
  go_wp2_with fail
  go_ret
  exact ⟨by rw [hr.out] <;> rfl, below_then hbw hb1⟩

theorem hasC_no1 {b mode lo hi m : Int} (h : decide (lo ≤ b) = false) : hasC b mode ⟨lo, hi⟩ m = false := by unfold hasC; simp only; rw [h]; rfl
theorem hasC_no2 {b mode lo hi m : Int} (h : decide (b ≤ hi) = false) : hasC b mode ⟨lo, hi⟩ m = false := by unfold hasC; simp only; rw [h]; simp
theorem hasC_m {b mode lo hi m : Int} (h1 : decide (lo ≤ b) = true) (h2 : decide (b ≤ hi) = true) : hasC b mode ⟨lo, hi⟩ m = ((m == mode) || (m == 2)) := by unfold hasC; simp only; rw [h1, h2]; rfl


set_option maxRecDepth 100000 in
set_option maxHeartbeats 1000000 in
theorem refTouches_any (A : Option Addr) (n c : Nat) (l : List HoldM) (key sl sh : Int) (w : World) (hA : LiesH w w.heap.size A n l) (hn : n ≤ maxLen) :
    Calls Try.prog 23 #[.slice A n c, .int .i64 key, .agg #[.int .i64 sl, .int .i64 sh]] w fun e w' => e = .returned (.bool (sTou l key ⟨sl, sh⟩)) ∧ Below w.heap.size w w' := by
  have HL : Hid (l.length = n) := hA.1
  unfold maxLen at hn
  obtain ⟨W0, hW⟩ : ∃ W0, W0 = w.alloc (.cells #[.int .i64 sl, .int .i64 sh] 34) := ⟨_, rfl⟩
  have hbw : Below w.heap.size w W0 := hW ▸ one_new _ _
  have p0 : Blk W0 w.heap.size #[.int .i64 sl, .int .i64 sh] 34 := hW ▸ Blk.new w _ _
  have HA : Hid (∀ W, Below W0.heap.size W0 W → LiesH W W.heap.size A n l) := fun W h => hA.below (below_then hbw h)
  have hp : w.heap.size < W0.heap.size := p0.lt
  rw [← any_tou]
  obtain ⟨such, hsuch⟩ : ∃ f : SpanM → Int → Bool, f = (fun x _ => sOv x ⟨sl, sh⟩) := ⟨_, rfl⟩
  have HS : Hid (∀ a b m, such ⟨a, b⟩ m = sOv ⟨a, b⟩ ⟨sl, sh⟩) := fun a b m => by rw [hsuch]
  rw [← hsuch]
  clear hA hsuch
  go_enter Try.func23, Try.ntmps23
  go_wp2_with fail
  rw [← hW]
  clear hW
  go_loopw [7] (fun i wr => ∃ k : Nat, k ≤ n ∧ i = .int .i64 k ∧ Below W0.heap.size W0 wr ∧ Hid (sAny (l.take k) key such = false)) (fun i _ => n - (intOf i).toNat)
  case atStart => exact ⟨0, Nat.zero_le _, rfl, Below.refl _ _, rfl⟩
  case round =>
    obtain ⟨k, hk, rfl, hb, HF⟩ := hrel
    have hpw : w.heap.size < wr.heap.size := Nat.lt_of_lt_of_le hp hb.size
    obtain ⟨b0, b1⟩ := span_cells (p0.below hb hp)
    by_cases hlt : k < n
    · have hkl : k < l.length := by rw [HL.out]; exact hlt
      obtain ⟨ad, e1, had, c0, c1, c2, c3⟩ := hol_cells (HA.out _ hb) hlt hkl
      subst e1
      obtain ⟨kx, lx, hx', mx, hx⟩ : ∃ kx lx hx' mx, l[k] = (⟨kx, ⟨lx, hx'⟩, mx⟩ : HoldM) := ⟨_, _, _, _, rfl⟩
      have HX : Hid (∃ h : k < l.length, l[k] = (⟨kx, ⟨lx, hx'⟩, mx⟩ : HoldM)) := ⟨hkl, hx⟩
      rw [hx] at c0 c1 c2 c3
      clear hx hkl
      have HR := fun h => Lib.hid (any_next (such := such) HX.out.1 HX.out.2 HF.out h)
      have HY := fun h1 h2 => Lib.hid (any_yes (such := such) (key := key) HX.out.1 HX.out.2 h1 h2)
      cases he : kx == key with
      | false =>
        have HF' := HR (.inl he)
        clear HR HY
        go_upto_region 4 with fail
        go_quiet (fail)
        go_wp2_with fail
        go_roundw
        case rel => exact ⟨k + 1, by omega, by go_num, hb.trans (drewN_below _ _ _), HF'⟩
        case measure => simp [intOf]; omega
      | true =>
        have HY := HY he
        have hS : ∀ W, Below wr.heap.size wr W → (W.cell? ⟨w.heap.size, 0, none⟩ = some (.int .i64 sl) ∧ W.cell? ⟨w.heap.size, 1, none⟩ = some (.int .i64 sh)) ∧ (W.cell? (ad.add (k * 4)) = some (.int .i64 kx) ∧ W.cell? ⟨(ad.add (k * 4)).block, (ad.add (k * 4)).off + 1, none⟩ = some (.int .i64 lx) ∧ W.cell? ⟨(ad.add (k * 4)).block, (ad.add (k * 4)).off + 2, none⟩ = some (.int .i64 hx')) ∧ Below wr.heap.size wr W := fun W h =>
          ⟨⟨(h.cell (p := ⟨w.heap.size, 0, none⟩) hpw).trans b0, (h.cell (p := ⟨w.heap.size, 1, none⟩) hpw).trans b1⟩, ⟨(h.cell (by rw [add_block]; exact had)).trans c0, (h.cell (by show (ad.add (k * 4)).block < _; rw [add_block]; exact had)).trans c1, (h.cell (by show (ad.add (k * 4)).block < _; rw [add_block]; exact had)).trans c2⟩, h⟩
        have hD := hS _ (Below.refl wr.heap.size wr).drew
        have hOv : ∀ W, (W.cell? ⟨w.heap.size, 0, none⟩ = some (.int .i64 sl) ∧ W.cell? ⟨w.heap.size, 1, none⟩ = some (.int .i64 sh)) ∧ (W.cell? (ad.add (k * 4)) = some (.int .i64 kx) ∧ W.cell? ⟨(ad.add (k * 4)).block, (ad.add (k * 4)).off + 1, none⟩ = some (.int .i64 lx) ∧ W.cell? ⟨(ad.add (k * 4)).block, (ad.add (k * 4)).off + 2, none⟩ = some (.int .i64 hx')) ∧ Below wr.heap.size wr W → Calls Try.prog 27 #[.agg #[.int .i64 lx, .int .i64 hx'], .agg #[.int .i64 sl, .int .i64 sh]] W fun e W => e = .returned (.bool (sOv ⟨lx, hx'⟩ ⟨sl, sh⟩)) ∧ (W.cell? ⟨w.heap.size, 0, none⟩ = some (.int .i64 sl) ∧ W.cell? ⟨w.heap.size, 1, none⟩ = some (.int .i64 sh)) ∧ (W.cell? (ad.add (k * 4)) = some (.int .i64 kx) ∧ W.cell? ⟨(ad.add (k * 4)).block, (ad.add (k * 4)).off + 1, none⟩ = some (.int .i64 lx) ∧ W.cell? ⟨(ad.add (k * 4)).block, (ad.add (k * 4)).off + 2, none⟩ = some (.int .i64 hx')) ∧ Below wr.heap.size wr W :=
          fun W h => (refOverlap_any lx hx' sl sh W).mono (by rintro e w' ⟨rfl, hx⟩; exact ⟨rfl, hS _ (h.2.2.trans (hx.mono h.2.2.size))⟩)
        clear hS
        go_upto_region 4 with fail
        clear c0 c1 c2 c3 b0 b1
        go_region_held3 (fun W => (W.cell? ⟨w.heap.size, 0, none⟩ = some (.int .i64 sl) ∧ W.cell? ⟨w.heap.size, 1, none⟩ = some (.int .i64 sh)) ∧ (W.cell? (ad.add (k * 4)) = some (.int .i64 kx) ∧ W.cell? ⟨(ad.add (k * 4)).block, (ad.add (k * 4)).off + 1, none⟩ = some (.int .i64 lx) ∧ W.cell? ⟨(ad.add (k * 4)).block, (ad.add (k * 4)).off + 2, none⟩ = some (.int .i64 hx')) ∧ Below wr.heap.size wr W) (first | assumption)
          (first
            | (go_at_call 27; (with_reducible refine (hOv _ ?_).mono ?_); assumption; rintro e w2 ⟨rfl, hN⟩))
        have hb3 : Below W0.heap.size W0 w2 := below_then hb hN.2.2
        clear hN hD hOv
        obtain ⟨r, hr⟩ : ∃ r, Hid (sOv ⟨lx, hx'⟩ ⟨sl, sh⟩ = r) := ⟨_, rfl⟩
        rw [hr.out]
        cases r
        · have HF' := HR (.inr (by rw [HS.out]; exact hr.out))
          clear HR HY
          go_wp2_with fail
          go_roundw
          case rel => exact ⟨k + 1, by omega, by go_num, hb3, HF'⟩
          case measure => simp [intOf]; omega
        · have HO := HY (by rw [HS.out]; exact hr.out)
          clear HR HY
          go_wp2_with fail
          go_ret
          exact ⟨by rw [HO.out]; rfl, below_then hbw hb3⟩
    · have HO : Hid (sAny l key such = false) := any_all HL.out (by omega : k = n) HF.out
      have hkn : k = n := by omega
      clear hlt HF
      go_wp2_with fail
      go_ret
      exact ⟨by rw [HO.out]; rfl, below_then hbw hb⟩

end Go.Proofs.Ytjknloaolennoaa
