/-
  table: rows cloned, those that meet conditions found, counted, left out: by contract.
-/
import Derived.Test.YtjknloaolennoaaJoinTabMay
import Derived.Test.YtjknloaolennoaaOwnFresh
import Derived.Lib.SliceRun
import Derived.BigQuiet
namespace Go.Proofs.Ytjknloaolennoaa
open Go.RowKit
set_option linter.unusedVariables false
set_option linter.unusedSimpArgs false

/-- What a row is without some. -/
def notP (p : HoldM → Bool) (l : List HoldM) : List HoldM := l.filter fun h => !p h

/-! ### The closure of 'without' -/
def CloC (w : World) (B b : Nat) (p : HoldM → Bool) : Prop := ∀ W k lo hi m, Below B w W → Calls Try.prog 61 #[.agg #[.int .i64 k, .int .i64 lo, .int .i64 hi, .int .i8 m], .pointer (some ⟨b, 0, none⟩)] W fun e w' => e = .returned (.bool (p ⟨k, ⟨lo, hi⟩, m⟩)) ∧ Below W.heap.size W w'
set_option maxRecDepth 100000 in
theorem cloWithout_any (b : Nat) (VA : Option Addr) (vn vc : Nat) (p : HoldM → Bool) (w : World) (hb : Blk w b #[.slice VA vn vc] 86) (hm : MeetsC w (.slice VA vn vc) p) : CloC w w.heap.size b p := by
  intro W k lo hi m hW
  have hb0 := hb.below hW hb.lt
  have c0 := hb0.cell 0 _ rfl
  have lb := hb0.lt
  have b0 := one_new W (.cells #[.int .i64 k, .int .i64 lo, .int .i64 hi, .int .i8 m] 43)
  have HM := Lib.hid (hm _ k lo hi m (below_then hW b0))
  obtain ⟨r, hr⟩ : ∃ r, p ⟨k, ⟨lo, hi⟩, m⟩ = r := ⟨_, rfl⟩
  rw [hr] at HM
  have HR := Lib.hid hr
  clear hm hb hW hb0 hr
  go_enter Try.func61, Try.ntmps61
  go_wp2_with fail
  refine HM.out.mono ?_
  rintro e w1 ⟨rfl, hb1⟩
  have b1 := below_then b0 hb1
  go_wp2_with fail
  go_ret
  exact ⟨by rw [HR.out] <;> rfl, b1⟩

/-! ### A row cloned -/
set_option maxRecDepth 100000 in
theorem tcloneH_any (A : Option Addr) (n c : Nat) (l : List HoldM) (w : World) (lA : LiesH w w.heap.size A n l) (hn : n ≤ 1099511627776) (hc : A = none → c = 0) :
    Calls Try.prog 29 #[.slice A n c] w fun e w' => ∃ A' c', e = .returned (.slice A' n c') ∧ w'.ownsRow w.heap.size 43 4 (.slice A' n c') n (holV l) ∧ Below w.heap.size w w' := by
  have hq : ∀ W : World, (binOp .eql 27 (.slice A n c) (.slice none 0 0)).run Try.prog W = .ok (.bool A.isNone) W := fun W => Lib.run_eql_slice_nil W _ _ _ _ _ _ _ Try.underlying27
  cases A with
  | none =>
    obtain rfl : n = 0 := by
      rcases Nat.eq_zero_or_pos n with h | h
      · exact h
      · obtain ⟨_, e, _⟩ := lA.2.2 (by omega)
        cases e
    obtain rfl : l = [] := List.eq_nil_of_length_eq_zero lA.1
    obtain rfl := hc rfl
    clear lA hc
    simp only [Option.isNone_none] at hq
    go_enter Try.func29, Try.ntmps29
    go_wp2_with fail
    go_ret
    exact ⟨none, 0, rfl, World.ownsRow_nil _ _ _ _, Below.refl _ _⟩
  | some ad =>
    simp only [Option.isNone_some] at hq
    have b0 := one_new w (.cells #[] 43)
    obtain ⟨iH, hhi, hh0, hh1, hh2⟩ := info_parts tinfoHold
    obtain ⟨A', c', w1, hrun, hown, hb1⟩ := append_first (P := Try.prog) (w.alloc (.cells #[] 43)) _ w.heap.size 27 27 43 iH _ 4 32 Try.underlying27 hhi hh0 hh1 hh2 rfl (by omega) w.heap.size (World.ownsRow_lit w #[] 0 (Nat.le_refl _) (Nat.zero_le _) rfl) b0.size (some ad) n c (holV l) (lA.below b0).2 (by unfold maxLen; omega) (by omega)
    have HO : Hid (w1.ownsRow w.heap.size 43 4 (.slice A' n c') n (holV l) ∧ Below w.heap.size w w1) := ⟨hown, below_then b0 hb1⟩
    clear lA hc hown hb1 b0 hhi hh0 hh1 hh2
    go_enter Try.func29, Try.ntmps29
    go_wp2_with (at_builtin; refine wpl_append rfl _ _ 27 rfl rfl rfl hrun ?_)
    go_ret
    exact ⟨A', c', rfl, HO.out.1, HO.out.2⟩
set_option maxRecDepth 100000 in
theorem tcloneS_any (A : Option Addr) (n c : Nat) (l : List SlotM) (w : World) (lA : LiesS w w.heap.size A n l) (hn : n ≤ 1099511627776) (hc : A = none → c = 0) :
    Calls Try.prog 28 #[.slice A n c] w fun e w' => ∃ A' c', e = .returned (.slice A' n c') ∧ w'.ownsRow w.heap.size 48 2 (.slice A' n c') n (sloV l) ∧ Below w.heap.size w w' := by
  have hq : ∀ W : World, (binOp .eql 26 (.slice A n c) (.slice none 0 0)).run Try.prog W = .ok (.bool A.isNone) W := fun W => Lib.run_eql_slice_nil W _ _ _ _ _ _ _ Try.underlying26
  cases A with
  | none =>
    obtain rfl : n = 0 := by
      rcases Nat.eq_zero_or_pos n with h | h
      · exact h
      · obtain ⟨_, e, _⟩ := lA.2.2 (by omega)
        cases e
    obtain rfl : l = [] := List.eq_nil_of_length_eq_zero lA.1
    obtain rfl := hc rfl
    clear lA hc
    simp only [Option.isNone_none] at hq
    go_enter Try.func28, Try.ntmps28
    go_wp2_with fail
    go_ret
    exact ⟨none, 0, rfl, World.ownsRow_nil _ _ _ _, Below.refl _ _⟩
  | some ad =>
    simp only [Option.isNone_some] at hq
    have b0 := one_new w (.cells #[] 48)
    obtain ⟨iH, hhi, hh0, hh1, hh2⟩ := info_parts tinfoSlot
    obtain ⟨A', c', w1, hrun, hown, hb1⟩ := append_first (P := Try.prog) (w.alloc (.cells #[] 48)) _ w.heap.size 26 26 48 iH _ 2 16 Try.underlying26 hhi hh0 hh1 hh2 rfl (by omega) w.heap.size (World.ownsRow_lit w #[] 0 (Nat.le_refl _) (Nat.zero_le _) rfl) b0.size (some ad) n c (sloV l) (lA.below b0).2 (by unfold maxLen; omega) (by omega)
    have HO : Hid (w1.ownsRow w.heap.size 48 2 (.slice A' n c') n (sloV l) ∧ Below w.heap.size w w1) := ⟨hown, below_then b0 hb1⟩
    clear lA hc hown hb1 b0 hhi hh0 hh1 hh2
    go_enter Try.func28, Try.ntmps28
    go_wp2_with (at_builtin; refine wpl_append rfl _ _ 26 rfl rfl rfl hrun ?_)
    go_ret
    exact ⟨A', c', rfl, HO.out.1, HO.out.2⟩

/-! ### The first that meets the conditions -/
def idxI (o : Option Nat) : Int := match o with | some i => (i : Int) | none => -1
theorem idx_hit {α : Type} {l : List α} {p : α → Bool} {k : Nat} (hk : k < l.length) (h1 : p l[k] = true) (hf : ∀ j (hj : j < l.length), j < k → p l[j] = false) : l.findIdx? p = some k := by
  rw [List.findIdx?_eq_some_iff_getElem]
  exact ⟨hk, h1, fun j hj => by rw [hf j (by omega) hj]; simp⟩
theorem idx_miss {α : Type} {l : List α} {p : α → Bool} (hf : ∀ j (hj : j < l.length), p l[j] = false) : l.findIdx? p = none := by
  rw [List.findIdx?_eq_none_iff]
  intro x hx
  obtain ⟨j, hj, rfl⟩ := List.getElem_of_mem hx
  exact hf j hj
set_option maxRecDepth 100000 in
set_option maxHeartbeats 1000000 in
theorem tindexH_any (A : Option Addr) (n c b : Nat) (l : List HoldM) (p : HoldM → Bool) (w : World) (lA : LiesH w w.heap.size A n l) (hn : n ≤ maxLen) (hC : CloC w w.heap.size b p) :
    Calls Try.prog 71 #[.slice A n c, .func (.func 61) #[] #[.pointer (some ⟨b, 0, none⟩)]] w fun e w' => e = .returned (.int .i64 (idxI (l.findIdx? p))) ∧ Below w.heap.size w w' := by
  have HL : Hid (l.length = n) := lA.1
  unfold maxLen at hn
  have HA : Hid (∀ W, Below w.heap.size w W → LiesH W W.heap.size A n l) := fun W h => lA.below h
  have HC : Hid (CloC w w.heap.size b p) := hC
  clear lA hC
  go_enter Try.func71, Try.ntmps71
  go_wp2_with fail
  go_loopw [8] (fun i wr => ∃ k : Nat, k ≤ n ∧ i = .int .i64 k ∧ Below w.heap.size w wr ∧ Hid (∀ j (hj : j < l.length), j < k → p l[j] = false)) (fun i _ => n - (intOf i).toNat)
  case atStart => exact ⟨0, Nat.zero_le _, rfl, Below.refl _ _, fun j _ hj => by omega⟩
  case round =>
    obtain ⟨k, hk, rfl, hb, HF⟩ := hrel
    by_cases hlt : k < n
    · have hkl : k < l.length := by rw [HL.out]; exact hlt
      obtain ⟨ad, e1, had, c0, c1, c2, c3⟩ := hol_cells (HA.out _ hb) hlt hkl
      subst e1
      obtain ⟨kx, lx, hx', mx, hx⟩ : ∃ kx lx hx' mx, l[k] = (⟨kx, ⟨lx, hx'⟩, mx⟩ : HoldM) := ⟨_, _, _, _, rfl⟩
      have HX : Hid (∃ h : k < l.length, l[k] = (⟨kx, ⟨lx, hx'⟩, mx⟩ : HoldM)) := ⟨hkl, hx⟩
      rw [hx] at c0 c1 c2 c3
      clear hx hkl
      go_wp2_with fail
      refine (HC.out _ kx lx hx' mx hb).mono ?_
      rintro e w2 ⟨rfl, hb2⟩
      have hb3 := below_then hb hb2
      cases hr : p ⟨kx, ⟨lx, hx'⟩, mx⟩ with
      | true =>
        have HV : Hid (idxI (l.findIdx? p) = (k : Int)) := by
          show _ = _
          rw [idx_hit HX.out.1 (by rw [HX.out.2]; exact hr) HF.out]
          rfl
        clear c0 c1 c2 c3 HF
        go_wp2_with fail
        go_ret
        exact ⟨by rw [HV.out] <;> rfl, hb3⟩
      | false =>
        have HF' : Hid (∀ j (hj : j < l.length), j < k + 1 → p l[j] = false) := fun j hj hjk => by
          by_cases e : j = k
          · subst e
            rw [HX.out.2]; exact hr
          · exact HF.out j hj (by omega)
        go_wp2_with fail
        go_roundw
        case rel => exact ⟨k + 1, by omega, by go_num, hb3, HF'⟩
        case measure => simp [intOf]; omega
    · have HV : Hid (idxI (l.findIdx? p) = -1) := by
        show _ = _
        rw [idx_miss fun j hj => HF.out j hj (by have := HL.out; omega)]
        rfl
      have hkn : k = n := by omega
      clear hlt HF
      go_wp2_with fail
      go_ret
      exact ⟨by rw [HV.out] <;> rfl, hb⟩
set_option maxRecDepth 100000 in
set_option maxHeartbeats 1000000 in
theorem tindexS_any (A : Option Addr) (n c : Nat) (l : List SlotM) (w : World) (lA : LiesS w w.heap.size A n l) (hn : n ≤ maxLen) :
    Calls Try.prog 55 #[.slice A n c, .func (.func 56) #[] #[]] w fun e w' => e = .returned (.int .i64 (idxI (l.findIdx? fun x => x.key == 0))) ∧ Below w.heap.size w w' := by
  have HL : Hid (l.length = n) := lA.1
  unfold maxLen at hn
  have HA : Hid (∀ W, Below w.heap.size w W → LiesS W W.heap.size A n l) := fun W h => lA.below h
  clear lA
  go_enter Try.func55, Try.ntmps55
  go_wp2_with fail
  go_loopw [8] (fun i wr => ∃ k : Nat, k ≤ n ∧ i = .int .i64 k ∧ Below w.heap.size w wr ∧ Hid (∀ j (hj : j < l.length), j < k → ((l[j]).key == 0) = false)) (fun i _ => n - (intOf i).toNat)
  case atStart => exact ⟨0, Nat.zero_le _, rfl, Below.refl _ _, fun j _ hj => by omega⟩
  case round =>
    obtain ⟨k, hk, rfl, hb, HF⟩ := hrel
    by_cases hlt : k < n
    · have hkl : k < l.length := by rw [HL.out]; exact hlt
      obtain ⟨ad, e1, had, c0, c1⟩ := slo_cells (HA.out _ hb) hlt hkl
      subst e1
      obtain ⟨kx, cx, hx⟩ : ∃ kx cx, l[k] = (⟨kx, cx⟩ : SlotM) := ⟨_, _, rfl⟩
      have HX : Hid (∃ h : k < l.length, l[k] = (⟨kx, cx⟩ : SlotM)) := ⟨hkl, hx⟩
      rw [hx] at c0 c1
      clear hx hkl
      go_wp2_with fail
      refine (cloFree_any kx cx _).mono ?_
      rintro e w2 ⟨rfl, hb2⟩
      have hb3 := below_then hb hb2
      cases hr : kx == 0 with
      | true =>
        have HV : Hid (idxI (l.findIdx? fun x => x.key == 0) = (k : Int)) := by
          show _ = _
          rw [idx_hit HX.out.1 (by rw [HX.out.2]; exact hr) HF.out]
          rfl
        clear c0 c1 HF
        go_wp2_with fail
        go_ret
        exact ⟨by rw [HV.out] <;> rfl, hb3⟩
      | false =>
        have HF' : Hid (∀ j (hj : j < l.length), j < k + 1 → ((l[j]).key == 0) = false) := fun j hj hjk => by
          by_cases e : j = k
          · subst e
            rw [HX.out.2]; exact hr
          · exact HF.out j hj (by omega)
        go_wp2_with fail
        go_roundw
        case rel => exact ⟨k + 1, by omega, by go_num, hb3, HF'⟩
        case measure => simp [intOf]; omega
    · have HV : Hid (idxI (l.findIdx? fun x => x.key == 0) = -1) := by
        show _ = _
        rw [idx_miss fun j hj => HF.out j hj (by have := HL.out; omega)]
        rfl
      have hkn : k = n := by omega
      clear hlt HF
      go_wp2_with fail
      go_ret
      exact ⟨by rw [HV.out] <;> rfl, hb⟩

/-! ### How many meet the conditions -/
theorem count_step {l : List HoldM} {p : HoldM → Bool} {k : Nat} (hk : k < l.length) {x : HoldM} (e : l[k] = x) : ((l.take (k + 1)).filter p).length = ((l.take k).filter p).length + (if p x then 1 else 0) := by
  rw [List.take_succ_eq_append_getElem hk, List.filter_append, List.length_append, e]
  cases h : p x <;> simp [h]
set_option maxRecDepth 100000 in
set_option maxHeartbeats 1000000 in
theorem tcount_any (A : Option Addr) (n c : Nat) (l : List HoldM) (VA : Option Addr) (vn vc : Nat) (p : HoldM → Bool) (w : World) (lA : LiesH w w.heap.size A n l) (hn : n ≤ maxLen) (hM : MeetsC w (.slice VA vn vc) p) :
    Calls Try.prog 70 #[.slice A n c, .slice VA vn vc] w fun e w' => e = .returned (.int .i64 (l.filter p).length) ∧ Below w.heap.size w w' := by
  have HL : Hid (l.length = n) := lA.1
  unfold maxLen at hn
  have HA : Hid (∀ W, Below w.heap.size w W → LiesH W W.heap.size A n l) := fun W h => lA.below h
  have HM := Lib.hid hM
  clear lA hM
  go_enter Try.func70, Try.ntmps70
  go_wp2_with fail
  go_loopw [5, 10] (fun v i wr => ∃ k m : Nat, k ≤ n ∧ m ≤ k ∧ v = .int .i64 m ∧ i = .int .i64 k ∧ Below w.heap.size w wr ∧ Hid (((l.take k).filter p).length = m)) (fun _ i _ => n - (intOf i).toNat)
  case atStart => exact ⟨0, 0, Nat.zero_le _, Nat.le_refl _, rfl, rfl, Below.refl _ _, rfl⟩
  case round =>
    obtain ⟨k, m, hk, hmk, rfl, rfl, hb, HF⟩ := hrel
    by_cases hlt : k < n
    · have hkl : k < l.length := by rw [HL.out]; exact hlt
      obtain ⟨ad, e1, had, c0, c1, c2, c3⟩ := hol_cells (HA.out _ hb) hlt hkl
      subst e1
      obtain ⟨kx, lx, hx', mx, hx⟩ : ∃ kx lx hx' mx, l[k] = (⟨kx, ⟨lx, hx'⟩, mx⟩ : HoldM) := ⟨_, _, _, _, rfl⟩
      have HX : Hid (∃ h : k < l.length, l[k] = (⟨kx, ⟨lx, hx'⟩, mx⟩ : HoldM)) := ⟨hkl, hx⟩
      rw [hx] at c0 c1 c2 c3
      clear hx hkl
      have p0 := Blk.new wr #[.int .i64 kx, .int .i64 lx, .int .i64 hx', .int .i8 mx] 43
      have hb1 := hb.alloc hb.size (.cells #[.int .i64 kx, .int .i64 lx, .int .i64 hx', .int .i8 mx] 43)
      go_wp2_with fail
      refine (HM.out _ kx lx hx' mx hb1).mono ?_
      rintro e w2 ⟨rfl, hb2⟩
      have hb3 := below_then hb1 hb2
      cases hr : p ⟨kx, ⟨lx, hx'⟩, mx⟩ with
      | true =>
        have HF' : Hid (((l.take (k + 1)).filter p).length = m + 1) := by
          show _ = _
          rw [count_step HX.out.1 HX.out.2, HF.out, hr]
          rfl
        clear c0 c1 c2 c3 HF p0 hb1 hb2
        go_wp2_with fail
        go_roundw
        case rel => exact ⟨k + 1, m + 1, by omega, by omega, by go_num, by go_num, hb3, HF'⟩
        case measure => simp [intOf]; omega
      | false =>
        have HF' : Hid (((l.take (k + 1)).filter p).length = m) := by
          show _ = _
          rw [count_step HX.out.1 HX.out.2, HF.out, hr]
          rfl
        clear c0 c1 c2 c3 HF p0 hb1 hb2
        go_wp2_with fail
        go_roundw
        case rel => exact ⟨k + 1, m, by omega, by omega, rfl, by go_num, hb3, HF'⟩
        case measure => simp [intOf]; omega
    · have HV : Hid ((l.filter p).length = m) := by
        have h := HF.out
        rw [List.take_of_length_le (by have := HL.out; omega)] at h
        exact h
      have hkn : k = n := by omega
      clear hlt HF
      go_wp2_with fail
      go_ret
      exact ⟨by rw [HV.out] <;> rfl, hb⟩

end Go.Proofs.Ytjknloaolennoaa
