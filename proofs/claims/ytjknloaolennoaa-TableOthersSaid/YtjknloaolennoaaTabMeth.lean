/-
  table: a key's slot, the lowest free one, what a hold touches: by contract.
-/
import Derived.Test.YtjknloaolennoaaTabFilt
import Derived.Test.YtjknloaolennoaaSpanProg
namespace Go.Proofs.Ytjknloaolennoaa
open Go.RowKit
set_option linter.unusedVariables false
set_option linter.unusedSimpArgs false

set_option maxRecDepth 100000 in
set_option maxHeartbeats 1000000 in
theorem tslot_any (aS : Option Addr) (nS cS : Nat) (l : List SlotM) (vH vQ : Value) (key : Int) (w : World) (hS : LiesS w w.heap.size aS nS l) (hn : nS ≤ maxLen) :
    Calls Try.prog 45 #[.agg #[.slice aS nS cS, vH, vQ], .int .i64 key] w fun e w' => e = .returned (.tuple #[.int .i64 (slotO l key).1, .bool (slotO l key).2]) ∧ Below w.heap.size w w' := by
  have HL : Hid (l.length = nS) := hS.1
  unfold maxLen at hn
  obtain ⟨W0, hW⟩ : ∃ W0, W0 = w.alloc (.cells #[.slice aS nS cS, vH, vQ] 56) := ⟨_, rfl⟩
  have hbw : Below w.heap.size w W0 := hW ▸ one_new _ _
  have p0 : Blk W0 w.heap.size #[.slice aS nS cS, vH, vQ] 56 := hW ▸ Blk.new w _ _
  obtain ⟨t0, t1, t2⟩ := tab_cells p0
  have hA := hS.below hbw
  clear hS
  go_enter Try.func45, Try.ntmps45
  have HA : Hid (∀ W, Below W0.heap.size W0 W → LiesS W W.heap.size aS nS l) := fun W h => hA.below h
  clear hA t0 t1 t2
  go_wp2_with fail
  rw [← hW]
  clear hW
  go_loopw [12] (fun i wr => ∃ k : Nat, k ≤ nS ∧ i = .int .i64 k ∧ Below W0.heap.size W0 wr ∧ Hid (¬ 1 ≤ key ∨ ∀ j, ∀ hj : j < l.length, j < k → ((l[j]).key == key) = false)) (fun i _ => nS - (intOf i).toNat)
  case atStart => exact ⟨0, Nat.zero_le _, rfl, Below.refl _ _, .inr fun j _ hj => by omega⟩
  case round =>
    obtain ⟨k, hk, rfl, hb, HF⟩ := hrel
    obtain ⟨t0, t1, t2⟩ := tab_cells (p0.below hb p0.lt)
    by_cases hlt : k < nS
    · have hkl : k < l.length := by rw [HL.out]; exact hlt
      obtain ⟨ad, e1, had, c0, c1⟩ := slo_cells (HA.out _ hb) hlt hkl
      subst e1
      obtain ⟨kx, cx, hx⟩ : ∃ kx cx, l[k] = (⟨kx, cx⟩ : SlotM) := ⟨_, _, rfl⟩
      have HX : Hid (∃ h : k < l.length, l[k] = (⟨kx, cx⟩ : SlotM)) := ⟨hkl, hx⟩
      rw [hx] at c0 c1
      clear hx hkl
      have hbn := below_then hb (one_new wr (.cells #[.int .i64 kx, .int .i64 cx] 48))
      cases he : kx == key with
      | true =>
        by_cases h1 : 1 ≤ key
        · have z : decide ((0 : Int) < key) = true := decide_eq_true (by omega)
          have HV : Hid (slotO l key = ((k : Int), true)) := slot_hit HX.out.1 rfl h1 (by rw [HX.out.2]; exact he) fun j hj => by
            rcases HF.out with h | h
            · exact absurd h1 h
            · exact h j (by have := HX.out.1; omega) hj
          clear h1
          go_wp2_with fail
          go_ret2
          exact ⟨by rw [HV.out] <;> rfl, below_then hbw hbn⟩
        · have z : decide ((0 : Int) < key) = false := decide_eq_false (by omega)
          have HF' : Hid (¬ 1 ≤ key ∨ ∀ j, ∀ hj : j < l.length, j < k + 1 → ((l[j]).key == key) = false) := .inl h1
          clear h1
          go_wp2_with fail
          go_roundw
          case rel => exact ⟨k + 1, by omega, by go_num, hbn, HF'⟩
          case measure => simp [intOf]; omega
      | false =>
        have HF' : Hid (¬ 1 ≤ key ∨ ∀ j, ∀ hj : j < l.length, j < k + 1 → ((l[j]).key == key) = false) := by
          rcases HF.out with h | h
          · exact .inl h
          · refine .inr fun j hj hjk => ?_
            by_cases e : j = k
            · subst e
              rw [HX.out.2]; exact he
            · exact h j hj (by omega)
        go_wp2_with fail
        go_roundw
        case rel => exact ⟨k + 1, by omega, by go_num, hbn, HF'⟩
        case measure => simp [intOf]; omega
    · have HV : Hid (slotO l key = (0, false)) := slot_miss (by
        rcases HF.out with h | h
        · exact .inl h
        · exact .inr fun j hj => h j hj (by have := HL.out; omega))
      have hkn : k = nS := by omega
      clear hlt HF
      go_wp2_with fail
      go_ret2
      exact ⟨by rw [HV.out] <;> rfl, below_then hbw hb⟩

set_option maxRecDepth 100000 in
theorem tmember_any (aS : Option Addr) (nS cS : Nat) (l : List SlotM) (vH vQ : Value) (key : Int) (w : World) (hS : LiesS w w.heap.size aS nS l) (hn : nS ≤ maxLen) :
    Calls Try.prog 44 #[.agg #[.slice aS nS cS, vH, vQ], .int .i64 key] w fun e w' => e = .returned (.bool (slotO l key).2) ∧ Below w.heap.size w w' := by
  have b0 := one_new w (.cells #[.slice aS nS cS, vH, vQ] 56)
  have HK := Lib.hid (tslot_any aS nS cS l vH vQ key _ (hS.below b0) hn)
  obtain ⟨r, hr⟩ : ∃ r, slotO l key = r := ⟨_, rfl⟩
  rw [hr] at HK ⊢
  obtain ⟨r1, r2⟩ := r
  clear hr hS
  go_enter Try.func44, Try.ntmps44
  go_wp2_with fail
  refine HK.out.mono ?_
  rintro e w1 ⟨rfl, hb1⟩
  have b1 := below_then b0 hb1
  go_wp2_with fail
  go_ret
  exact ⟨rfl, b1⟩

set_option maxRecDepth 100000 in
theorem tfree_any (aS : Option Addr) (nS cS : Nat) (l : List SlotM) (vH vQ : Value) (w : World) (hS : LiesS w w.heap.size aS nS l) (hn : nS ≤ maxLen) :
    Calls Try.prog 43 #[.agg #[.slice aS nS cS, vH, vQ]] w fun e w' => e = .returned (.int .i64 (idxI (l.findIdx? fun x => x.key == 0))) ∧ Below w.heap.size w w' := by
  have b0 := one_new w (.cells #[.slice aS nS cS, vH, vQ] 56)
  have HK := Lib.hid (tindexS_any aS nS cS l _ (hS.below b0) hn)
  obtain ⟨r, hr⟩ : ∃ r, idxI (l.findIdx? fun x => x.key == 0) = r := ⟨_, rfl⟩
  rw [hr] at HK ⊢
  clear hr hS
  go_enter Try.func43, Try.ntmps43
  go_wp2_with fail
  refine HK.out.mono ?_
  rintro e w1 ⟨rfl, hb1⟩
  have b1 := below_then b0 hb1
  go_wp2_with fail
  go_ret
  exact ⟨rfl, b1⟩

set_option maxRecDepth 100000 in
set_option maxHeartbeats 1000000 in
theorem ttouched_any (vS : Value) (aH : Option Addr) (nH cH : Nat) (ho : List HoldM) (aQ : Option Addr) (nQ cQ : Nat) (qu : List HoldM) (k lo hi m : Int) (w : World) (hH : LiesH w w.heap.size aH nH ho) (hnH : nH ≤ maxLen) (hQ : LiesH w w.heap.size aQ nQ qu) (hnQ : nQ ≤ maxLen) :
    Calls Try.prog 58 #[.agg #[vS, .slice aH nH cH, .slice aQ nQ cQ], .agg #[.int .i64 k, .int .i64 lo, .int .i64 hi, .int .i8 m]] w fun e w' => e = .returned (.bool (sTou ho k ⟨lo, hi⟩ || sTou qu k ⟨lo, hi⟩)) ∧ Below w.heap.size w w' := by
  obtain ⟨W0, hW⟩ : ∃ W0, W0 = (w.alloc (.cells #[vS, .slice aH nH cH, .slice aQ nQ cQ] 56)).alloc (.cells #[.int .i64 k, .int .i64 lo, .int .i64 hi, .int .i8 m] 43) := ⟨_, rfl⟩
  have hbw : Below w.heap.size w W0 := hW ▸ two_new _ _ _
  obtain ⟨p0, q0⟩ : Blk W0 w.heap.size #[vS, .slice aH nH cH, .slice aQ nQ cQ] 56 ∧ Blk W0 (w.heap.size + 1) #[.int .i64 k, .int .i64 lo, .int .i64 hi, .int .i8 m] 43 := hW ▸ blk2 w _ _ _ _
  have HK := Lib.hid (Touches_any aH nH cH ho k lo hi W0 (hH.below hbw) hnH)
  have HQ : Hid (∀ W, Below W0.heap.size W0 W → Calls Try.prog 69 #[.slice aQ nQ cQ, .int .i64 k, .agg #[.int .i64 lo, .int .i64 hi]] W fun e w' => e = .returned (.bool (sTou qu k ⟨lo, hi⟩)) ∧ Below W.heap.size W w') := fun W h => Touches_any aQ nQ cQ qu k lo hi W (hQ.below (below_then hbw h)) hnQ
  obtain ⟨r1, hr1⟩ : ∃ r, sTou ho k ⟨lo, hi⟩ = r := ⟨_, rfl⟩
  obtain ⟨r2, hr2⟩ : ∃ r, sTou qu k ⟨lo, hi⟩ = r := ⟨_, rfl⟩
  rw [hr1] at HK ⊢
  rw [hr2] at HQ ⊢
  have HP := Lib.hid (And.intro p0 q0)
  clear hr1 hr2 hH hQ p0 q0
  go_enter Try.func58, Try.ntmps58
  obtain ⟨t0, t1, t2⟩ := tab_cells HP.out.1
  obtain ⟨c0, c1, c2, c3⟩ := hold_cells HP.out.2
  go_wp2_with fail
  rw [← hW]
  refine HK.out.mono ?_
  rintro e w1 ⟨rfl, hb1⟩
  clear t0 t1 t2 c0 c1 c2 c3 hW
  obtain ⟨t0, t1, t2⟩ := tab_cells (HP.out.1.below hb1 HP.out.1.lt)
  obtain ⟨c0, c1, c2, c3⟩ := hold_cells (HP.out.2.below hb1 HP.out.2.lt)
  cases r1
  · go_wp2_with fail
    refine (HQ.out _ hb1).mono ?_
    rintro e w2 ⟨rfl, hb2⟩
    have b2 := below_then hbw (below_then hb1 hb2)
    clear t0 t1 t2 c0 c1 c2 c3
    go_wp2_with fail
    go_ret
    exact ⟨rfl, b2⟩
  · clear t0 t1 t2 c0 c1 c2 c3
    go_wp2_with fail
    go_ret
    exact ⟨rfl, below_then hbw hb1⟩

end Go.Proofs.Ytjknloaolennoaa
