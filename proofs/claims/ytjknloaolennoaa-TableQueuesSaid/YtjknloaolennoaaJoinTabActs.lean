/- Joined: TabHas, TabTakes, TabWork, TabGrSt, TabActs. -/
import Derived.Test.YtjknloaolennoaaTabMeth
import Derived.Test.YtjknloaolennoaaLastCall
import Derived.Test.YtjknloaolennoaaTabVar
import Derived.Test.YtjknloaolennoaaTabDel
import Derived.Test.YtjknloaolennoaaLastTwo
/-
  table: how many a key has and waits for: by contract.
-/
namespace Go.Proofs.Ytjknloaolennoaa
open Go.RowKit
set_option linter.unusedVariables false
set_option linter.unusedSimpArgs false

/-- A condition of a key; a row of it alone. -/
def CondOf (key : Int) (v : Value) (w : World) : Prop := ∃ b, v = .func (.func 63) #[] #[.pointer (some ⟨b, 0, none⟩)] ∧ Blk w b #[.int .i64 key] 3
def CondRow (key : Int) (v : Value) (w : World) : Prop := ∃ q b, v = .slice (some ⟨q, 0, none⟩) 1 1 ∧ Blk w q #[.func (.func 63) #[] #[.pointer (some ⟨b, 0, none⟩)]] 78 ∧ Blk w b #[.int .i64 key] 3
theorem CondOf.below {key : Int} {v : Value} {w w' : World} (h : CondOf key v w) (hb : Below w.heap.size w w') : CondOf key v w' := by
  obtain ⟨b, e, h⟩ := h
  exact ⟨b, e, h.below hb h.lt⟩
theorem CondRow.below {key : Int} {v : Value} {w w' : World} (h : CondRow key v w) (hb : Below w.heap.size w w') : CondRow key v w' := by
  obtain ⟨q, b, e, h1, h2⟩ := h
  exact ⟨q, b, e, h1.below hb h1.lt, h2.below hb h2.lt⟩
theorem CondRow.meets {key : Int} {v : Value} {w : World} (h : CondRow key v w) : ∃ q, v = .slice (some ⟨q, 0, none⟩) 1 1 ∧ MeetsC w v fun h => h.key == key := by
  obtain ⟨q, b, rfl, h1, h2⟩ := h
  exact ⟨q, rfl, meets1_any q b key w h1 h2⟩

/-- What each operation yields. -/
def HasR (b : Nat) (key : Int) (sH sQ : Value) (cH cQ : Int) : Nat → Value → World → Prop
  | 0, v, _ => v = .pointer (some ⟨b, 0, none⟩)
  | 1, v, _ => v = .pointer (some ⟨b, 1, none⟩)
  | 2, v, _ => v = sH
  | 3, v, _ => v = .int .i64 key
  | 4, v, w => CondOf key v w
  | 5, v, w => CondRow key v w
  | 6, v, _ => v = .int .i64 cH
  | 7, v, _ => v = .pointer (some ⟨b, 0, none⟩)
  | 8, v, _ => v = .pointer (some ⟨b, 2, none⟩)
  | 9, v, _ => v = sQ
  | 10, v, _ => v = .int .i64 key
  | 11, v, w => CondOf key v w
  | 12, v, w => CondRow key v w
  | 13, v, _ => v = .int .i64 cQ
  | 14, v, _ => v = .int .i64 (cH + cQ)
  | _, _, _ => True
theorem hasR_keep {b : Nat} {key : Int} {sH sQ : Value} {cH cQ : Int} (i : Nat) (v : Value) (w w' : World) (hi : i < 15) (h : HasR b key sH sQ cH cQ i v w) (hb : Below w.heap.size w w') : HasR b key sH sQ cH cQ i v w' := by
  match i, hi, h with
  | 0, _, h => exact h
  | 1, _, h => exact h
  | 2, _, h => exact h
  | 3, _, h => exact h
  | 4, _, h => exact CondOf.below h hb
  | 5, _, h => exact CondRow.below h hb
  | 6, _, h => exact h
  | 7, _, h => exact h
  | 8, _, h => exact h
  | 9, _, h => exact h
  | 10, _, h => exact h
  | 11, _, h => exact CondOf.below h hb
  | 12, _, h => exact CondRow.below h hb
  | 13, _, h => exact h
  | 14, _, h => exact h
  | n + 15, hi, _ => exact absurd hi (by omega)

set_option maxRecDepth 100000 in
set_option maxHeartbeats 2000000 in
theorem thas_any (vS : Value) (aH : Option Addr) (nH cH : Nat) (ho : List HoldM) (aQ : Option Addr) (nQ cQ : Nat) (qu : List HoldM) (key : Int) (w : World) (hH : LiesH w w.heap.size aH nH ho) (hnH : nH ≤ 1099511627776) (hQ : LiesH w w.heap.size aQ nQ qu) (hnQ : nQ ≤ 1099511627776) :
    Calls Try.prog 59 #[.agg #[vS, .slice aH nH cH, .slice aQ nQ cQ], .int .i64 key] w fun e w' => e = .returned (.int .i64 ((countK ho key : Int) + (countK qu key : Int))) ∧ Below w.heap.size w w' := by
  obtain ⟨W0, hW⟩ : ∃ W0, W0 = w.alloc (.cells #[vS, .slice aH nH cH, .slice aQ nQ cQ] 56) := ⟨_, rfl⟩
  have hbw : Below w.heap.size w W0 := hW ▸ one_new _ _
  have p0 : Blk W0 w.heap.size #[vS, .slice aH nH cH, .slice aQ nQ cQ] 56 := hW ▸ Blk.new w _ _
  have HH : Hid (∀ W, Below W0.heap.size W0 W → LiesH W W.heap.size aH nH ho) := fun W h => hH.below (below_then hbw h)
  have HQ : Hid (∀ W, Below W0.heap.size W0 W → LiesH W W.heap.size aQ nQ qu) := fun W h => hQ.below (below_then hbw h)
  have hcH : countK ho key ≤ nH := by rw [← hH.1]; exact List.length_filter_le _ _
  have hcQ : countK qu key ≤ nQ := by rw [← hQ.1]; exact List.length_filter_le _ _
  obtain ⟨kH, hkH⟩ : ∃ k, countK ho key = k := ⟨_, rfl⟩
  obtain ⟨kQ, hkQ⟩ : ∃ k, countK qu key = k := ⟨_, rfl⟩
  rw [hkH] at hcH ⊢
  rw [hkQ] at hcQ ⊢
  have HKH := Lib.hid hkH
  have HKQ := Lib.hid hkQ
  have hlt := p0.lt
  have hw1 : IntKind.i64.wrap ((kH : Int) + (kQ : Int)) = (kH : Int) + (kQ : Int) := IntWalk.i64_in _ (by omega)
  clear hH hQ hkH hkQ
  obtain ⟨t0, t1, t2⟩ := tab_cells p0
  go_enter Try.func59, Try.ntmps59
  go_wp2_with fail
  rw [← hW]
  clear hW
  refine wp_region_last (HasR w.heap.size key (.slice aH nH cH) (.slice aQ nQ cQ) kH kQ) (fun W => Below W0.heap.size W0 W) 15 (by kernel_rfl) rfl (by kernel_rfl) (by kernel_rfl) (by kernel_rfl) ((Below.refl _ _).drew) (fun i v w w' hi h hb => hasR_keep i v w w' hi h hb) ?_ ?_
  · intro i o vs W hi ho hS hdep
    match i, hi with
    | 0, _ =>
      obtain rfl := Option.some.inj ho
      clear ho hdep
      refine wpOp_run (v := .pointer (some ⟨w.heap.size, 0, none⟩)) (w' := W) rfl rfl ?_ ⟨_, rfl, hS, rfl, Below.refl _ _⟩
      simp only [putAll, Act.put, List.setIfInBounds_toArray, List.set_cons_zero, List.set_cons_succ]
      go_simp
    | 1, _ =>
      obtain rfl := Option.some.inj ho
      have e1 : vs 0 = .pointer (some ⟨w.heap.size, 0, none⟩) := hdep ⟨0, .data⟩ (by simp) rfl
      clear ho hdep
      refine wpOp_run (v := .pointer (some ⟨w.heap.size, 1, none⟩)) (w' := W) rfl rfl ?_ ⟨_, rfl, hS, rfl, Below.refl _ _⟩
      simp only [putAll, Act.put, List.setIfInBounds_toArray, List.set_cons_zero, List.set_cons_succ, e1]
      go_simp
    | 2, _ =>
      obtain rfl := Option.some.inj ho
      have e1 : vs 1 = .pointer (some ⟨w.heap.size, 1, none⟩) := hdep ⟨1, .data⟩ (by simp) rfl
      have ec : W.cell? ⟨w.heap.size, 1, none⟩ = some (.slice aH nH cH) := (hS.cell (p := ⟨w.heap.size, 1, none⟩) hlt).trans t1
      clear ho hdep
      refine wpOp_run (v := .slice aH nH cH) (w' := W) rfl rfl ?_ ⟨_, rfl, hS, rfl, Below.refl _ _⟩
      simp only [putAll, Act.put, List.setIfInBounds_toArray, List.set_cons_zero, List.set_cons_succ, e1]
      go_simp
    | 3, _ =>
      obtain rfl := Option.some.inj ho
      clear ho hdep
      refine wpOp_run (v := .int .i64 key) (w' := W) rfl rfl ?_ ⟨_, rfl, hS, rfl, Below.refl _ _⟩
      simp only [putAll, Act.put, List.setIfInBounds_toArray, List.set_cons_zero, List.set_cons_succ]
      go_simp
    | 4, _ =>
      obtain rfl := Option.some.inj ho
      have e1 : vs 3 = .int .i64 key := hdep ⟨3, .data⟩ (by simp) rfl
      clear ho hdep
      refine wpOp_calls rfl rfl ?_ (tof_any key W) ?_
      · simp only [putAll, Act.put, List.setIfInBounds_toArray, List.set_cons_zero, List.set_cons_succ, e1]
        go_simp
      · rintro e w' ⟨rfl, rfl⟩
        exact ⟨_, rfl, _, rfl, hS.alloc hS.size _, ⟨W.heap.size, rfl, Blk.new W _ _⟩, one_new W _⟩
    | 5, _ =>
      obtain rfl := Option.some.inj ho
      obtain ⟨b, e1, hB⟩ : ∃ b, vs 4 = .func (.func 63) #[] #[.pointer (some ⟨b, 0, none⟩)] ∧ _ := hdep ⟨4, .data⟩ (by simp) rfl
      clear ho hdep
      refine wpOp_run (v := .slice (some ⟨W.heap.size, 0, none⟩) 1 1) (w' := W.alloc (.cells #[.func (.func 63) #[] #[.pointer (some ⟨b, 0, none⟩)]] 78)) rfl rfl ?_ ⟨_, rfl, hS.alloc hS.size _, ⟨W.heap.size, b, rfl, Blk.new W _ _, hB.below (one_new W _) hB.lt⟩, one_new W _⟩
      simp only [putAll, Act.put, List.setIfInBounds_toArray, List.set_cons_zero, List.set_cons_succ, e1]
      go_simp
    | 6, _ =>
      obtain rfl := Option.some.inj ho
      have e1 : vs 2 = .slice aH nH cH := hdep ⟨2, .data⟩ (by simp) rfl
      have hM : CondRow key (vs 5) W := hdep ⟨5, .data⟩ (by simp) rfl
      obtain ⟨q, e2, hM⟩ := hM.meets
      rw [e2] at hM
      clear ho hdep
      refine wpOp_calls rfl rfl ?_ (tcount_any aH nH cH ho (some ⟨q, 0, none⟩) 1 1 _ W (HH.out _ hS) (by unfold maxLen; omega) hM) ?_
      · simp only [putAll, Act.put, List.setIfInBounds_toArray, List.set_cons_zero, List.set_cons_succ, e1, e2]
        go_simp
      · rintro e w' ⟨rfl, hb⟩
        exact ⟨_, rfl, _, rfl, hS.trans (hb.mono hS.size), by rw [show (ho.filter fun h => h.key == key).length = kH from HKH.out]; rfl, hb⟩
    | 7, _ =>
      obtain rfl := Option.some.inj ho
      clear ho hdep
      refine wpOp_run (v := .pointer (some ⟨w.heap.size, 0, none⟩)) (w' := W) rfl rfl ?_ ⟨_, rfl, hS, rfl, Below.refl _ _⟩
      simp only [putAll, Act.put, List.setIfInBounds_toArray, List.set_cons_zero, List.set_cons_succ]
      go_simp
    | 8, _ =>
      obtain rfl := Option.some.inj ho
      have e1 : vs 7 = .pointer (some ⟨w.heap.size, 0, none⟩) := hdep ⟨7, .data⟩ (by simp) rfl
      clear ho hdep
      refine wpOp_run (v := .pointer (some ⟨w.heap.size, 2, none⟩)) (w' := W) rfl rfl ?_ ⟨_, rfl, hS, rfl, Below.refl _ _⟩
      simp only [putAll, Act.put, List.setIfInBounds_toArray, List.set_cons_zero, List.set_cons_succ, e1]
      go_simp
    | 9, _ =>
      obtain rfl := Option.some.inj ho
      have e1 : vs 8 = .pointer (some ⟨w.heap.size, 2, none⟩) := hdep ⟨8, .data⟩ (by simp) rfl
      have ec : W.cell? ⟨w.heap.size, 2, none⟩ = some (.slice aQ nQ cQ) := (hS.cell (p := ⟨w.heap.size, 2, none⟩) hlt).trans t2
      clear ho hdep
      refine wpOp_run (v := .slice aQ nQ cQ) (w' := W) rfl rfl ?_ ⟨_, rfl, hS, rfl, Below.refl _ _⟩
      simp only [putAll, Act.put, List.setIfInBounds_toArray, List.set_cons_zero, List.set_cons_succ, e1]
      go_simp
    | 10, _ =>
      obtain rfl := Option.some.inj ho
      clear ho hdep
      refine wpOp_run (v := .int .i64 key) (w' := W) rfl rfl ?_ ⟨_, rfl, hS, rfl, Below.refl _ _⟩
      simp only [putAll, Act.put, List.setIfInBounds_toArray, List.set_cons_zero, List.set_cons_succ]
      go_simp
    | 11, _ =>
      obtain rfl := Option.some.inj ho
      have e1 : vs 10 = .int .i64 key := hdep ⟨10, .data⟩ (by simp) rfl
      clear ho hdep
      refine wpOp_calls rfl rfl ?_ (tof_any key W) ?_
      · simp only [putAll, Act.put, List.setIfInBounds_toArray, List.set_cons_zero, List.set_cons_succ, e1]
        go_simp
      · rintro e w' ⟨rfl, rfl⟩
        exact ⟨_, rfl, _, rfl, hS.alloc hS.size _, ⟨W.heap.size, rfl, Blk.new W _ _⟩, one_new W _⟩
    | 12, _ =>
      obtain rfl := Option.some.inj ho
      obtain ⟨b, e1, hB⟩ : ∃ b, vs 11 = .func (.func 63) #[] #[.pointer (some ⟨b, 0, none⟩)] ∧ _ := hdep ⟨11, .data⟩ (by simp) rfl
      clear ho hdep
      refine wpOp_run (v := .slice (some ⟨W.heap.size, 0, none⟩) 1 1) (w' := W.alloc (.cells #[.func (.func 63) #[] #[.pointer (some ⟨b, 0, none⟩)]] 78)) rfl rfl ?_ ⟨_, rfl, hS.alloc hS.size _, ⟨W.heap.size, b, rfl, Blk.new W _ _, hB.below (one_new W _) hB.lt⟩, one_new W _⟩
      simp only [putAll, Act.put, List.setIfInBounds_toArray, List.set_cons_zero, List.set_cons_succ, e1]
      go_simp
    | 13, _ =>
      obtain rfl := Option.some.inj ho
      have e1 : vs 9 = .slice aQ nQ cQ := hdep ⟨9, .data⟩ (by simp) rfl
      have hM : CondRow key (vs 12) W := hdep ⟨12, .data⟩ (by simp) rfl
      obtain ⟨q, e2, hM⟩ := hM.meets
      rw [e2] at hM
      clear ho hdep
      refine wpOp_calls rfl rfl ?_ (tcount_any aQ nQ cQ qu (some ⟨q, 0, none⟩) 1 1 _ W (HQ.out _ hS) (by unfold maxLen; omega) hM) ?_
      · simp only [putAll, Act.put, List.setIfInBounds_toArray, List.set_cons_zero, List.set_cons_succ, e1, e2]
        go_simp
      · rintro e w' ⟨rfl, hb⟩
        exact ⟨_, rfl, _, rfl, hS.trans (hb.mono hS.size), by rw [show (qu.filter fun h => h.key == key).length = kQ from HKQ.out]; rfl, hb⟩
    | 14, _ =>
      obtain rfl := Option.some.inj ho
      have e1 : vs 6 = .int .i64 kH := hdep ⟨6, .data⟩ (by simp) rfl
      have e2 : vs 13 = .int .i64 kQ := hdep ⟨13, .data⟩ (by simp) rfl
      clear ho hdep
      refine wpOp_run (v := .int .i64 (kH + kQ)) (w' := W) rfl rfl ?_ ⟨_, rfl, hS, rfl, Below.refl _ _⟩
      simp only [putAll, Act.put, List.setIfInBounds_toArray, List.set_cons_zero, List.set_cons_succ, e1, e2]
      go_simp
    | n + 15, hi => exact absurd hi (by omega)
  · intro vs W hS hR
    have e14 : vs 14 = .int .i64 (kH + kQ) := hR 14 (by omega)
    have b1 := below_then hbw hS
    clear hR
    refine wpOp_step rfl (fun K hK => ?_)
    simp only [putAll, Act.put, List.setIfInBounds_toArray, List.set_cons_zero, List.set_cons_succ, e14]
    go_simp
    refine hK _ _ ?_
    clear hK t0 t1 t2
    go_wp2_with fail
    go_ret
    exact ⟨rfl, b1⟩

end Go.Proofs.Ytjknloaolennoaa

/-
  table: may one more be held or queued, as far as its own key goes: by contract.
-/
namespace Go.Proofs.Ytjknloaolennoaa
open Go.RowKit
set_option linter.unusedVariables false
set_option linter.unusedSimpArgs false

/-- As it is asked. -/
def takesB (B : Int) (sl : List SlotM) (ho qu : List HoldM) (h : HoldM) : Bool := sHoldB B h && ((slotO sl h.key).2 && (!(sTou ho h.key h.s || sTou qu h.key h.s) && decide ((countK ho h.key : Int) + (countK qu h.key : Int) < 64)))
set_option maxRecDepth 100000 in
set_option maxHeartbeats 4000000 in
theorem ttakes_any (N S B P J L E T : Int) (aS : Option Addr) (nS cS : Nat) (sl : List SlotM) (aH : Option Addr) (nH cH : Nat) (ho : List HoldM) (aQ : Option Addr) (nQ cQ : Nat) (qu : List HoldM) (k lo hi m : Int) (w : World)
    (hS : LiesS w w.heap.size aS nS sl) (hnS : nS ≤ 1099511627776) (hH : LiesH w w.heap.size aH nH ho) (hnH : nH ≤ 1099511627776) (hQ : LiesH w w.heap.size aQ nQ qu) (hnQ : nQ ≤ 1099511627776) :
    Calls Try.prog 47 #[.agg #[.slice aS nS cS, .slice aH nH cH, .slice aQ nQ cQ], .agg #[.int .i64 N, .int .i64 S, .int .i64 B, .int .i64 P, .int .i64 J, .int .i64 L, .int .i64 E, .int .i64 T], .agg #[.int .i64 k, .int .i64 lo, .int .i64 hi, .int .i8 m]] w fun e w' => e = .returned (.bool (takesB B sl ho qu ⟨k, ⟨lo, hi⟩, m⟩)) ∧ Below w.heap.size w w' := by
  obtain ⟨W1, hW1⟩ : ∃ W, W = w.alloc (.cells #[.slice aS nS cS, .slice aH nH cH, .slice aQ nQ cQ] 56) := ⟨_, rfl⟩
  have p1 : Blk W1 w.heap.size #[.slice aS nS cS, .slice aH nH cH, .slice aQ nQ cQ] 56 := hW1 ▸ Blk.new w _ _
  have b1 : Below w.heap.size w W1 := hW1 ▸ one_new _ _
  obtain ⟨W0, hW0⟩ : ∃ W, W = (W1.alloc (.cells #[.int .i64 N, .int .i64 S, .int .i64 B, .int .i64 P, .int .i64 J, .int .i64 L, .int .i64 E, .int .i64 T] 23)).alloc (.cells #[.int .i64 k, .int .i64 lo, .int .i64 hi, .int .i8 m] 43) := ⟨_, rfl⟩
  have b2 : Below W1.heap.size W1 W0 := hW0 ▸ two_new _ _ _
  obtain ⟨g0, h0⟩ : Blk W0 W1.heap.size #[.int .i64 N, .int .i64 S, .int .i64 B, .int .i64 P, .int .i64 J, .int .i64 L, .int .i64 E, .int .i64 T] 23 ∧ Blk W0 (W1.heap.size + 1) #[.int .i64 k, .int .i64 lo, .int .i64 hi, .int .i8 m] 43 := hW0 ▸ blk2 W1 _ _ _ _
  have t0 := p1.below b2 p1.lt
  have bw := below_then b1 b2
  have hsz : W1.heap.size = w.heap.size + 1 := by rw [hW1]; simp
  rw [hsz] at g0 h0
  rw [hW1] at hW0
  clear hW1 hsz p1 b1 b2
  have HB : Hid (∀ W, Below W0.heap.size W0 W → Blk W w.heap.size #[.slice aS nS cS, .slice aH nH cH, .slice aQ nQ cQ] 56 ∧ Blk W (w.heap.size + 1) #[.int .i64 N, .int .i64 S, .int .i64 B, .int .i64 P, .int .i64 J, .int .i64 L, .int .i64 E, .int .i64 T] 23 ∧ Blk W (w.heap.size + 1 + 1) #[.int .i64 k, .int .i64 lo, .int .i64 hi, .int .i8 m] 43) := fun W h => ⟨t0.below h t0.lt, g0.below h g0.lt, h0.below h h0.lt⟩
  have HM : Hid (∀ W, Below W0.heap.size W0 W → Calls Try.prog 44 #[.agg #[.slice aS nS cS, .slice aH nH cH, .slice aQ nQ cQ], .int .i64 k] W fun e w' => e = .returned (.bool (slotO sl k).2) ∧ Below W.heap.size W w') := fun W h => tmember_any aS nS cS sl _ _ k W (hS.below (below_then bw h)) (by unfold maxLen; omega)
  have HT : Hid (∀ W, Below W0.heap.size W0 W → Calls Try.prog 58 #[.agg #[.slice aS nS cS, .slice aH nH cH, .slice aQ nQ cQ], .agg #[.int .i64 k, .int .i64 lo, .int .i64 hi, .int .i8 m]] W fun e w' => e = .returned (.bool (sTou ho k ⟨lo, hi⟩ || sTou qu k ⟨lo, hi⟩)) ∧ Below W.heap.size W w') := fun W h => ttouched_any _ aH nH cH ho aQ nQ cQ qu k lo hi m W (hH.below (below_then bw h)) (by unfold maxLen; omega) (hQ.below (below_then bw h)) (by unfold maxLen; omega)
  have HH : Hid (∀ W, Below W0.heap.size W0 W → Calls Try.prog 59 #[.agg #[.slice aS nS cS, .slice aH nH cH, .slice aQ nQ cQ], .int .i64 k] W fun e w' => e = .returned (.int .i64 ((countK ho k : Int) + (countK qu k : Int))) ∧ Below W.heap.size W w') := fun W h => thas_any _ aH nH cH ho aQ nQ cQ qu k W (hH.below (below_then bw h)) hnH (hQ.below (below_then bw h)) hnQ
  clear hS hH hQ t0 g0 h0 hnS hnH hnQ
  obtain ⟨r1, hr1⟩ : ∃ r, sHoldB B ⟨k, ⟨lo, hi⟩, m⟩ = r := ⟨_, rfl⟩
  obtain ⟨r2, hr2⟩ : ∃ r, (slotO sl k).2 = r := ⟨_, rfl⟩
  obtain ⟨r3, hr3⟩ : ∃ r, (sTou ho k ⟨lo, hi⟩ || sTou qu k ⟨lo, hi⟩) = r := ⟨_, rfl⟩
  obtain ⟨n4, hn4⟩ : ∃ n, (countK ho k : Int) + (countK qu k : Int) = n := ⟨_, rfl⟩
  have HV : Hid (takesB B sl ho qu ⟨k, ⟨lo, hi⟩, m⟩ = (r1 && (r2 && (!r3 && decide (n4 < 64))))) := by
    show _ = _
    unfold takesB
    rw [hr1, hr2, hr3, hn4]
  rw [hr2] at HM
  rw [hr3] at HT
  rw [hn4] at HH
  rw [HV.out]
  have HG : Hid (∀ W, Calls Try.prog 57 #[.agg #[.int .i64 N, .int .i64 S, .int .i64 B, .int .i64 P, .int .i64 J, .int .i64 L, .int .i64 E, .int .i64 T], .agg #[.int .i64 k, .int .i64 lo, .int .i64 hi, .int .i8 m]] W fun e w' => e = .returned (.bool r1) ∧ Below W.heap.size W w') := fun W => hr1 ▸ Hold_any N S B P J L E T k lo hi m W
  clear hr1 hr2 hr3 hn4 HV
  obtain ⟨tb, gb, hb⟩ := HB.out W0 (Below.refl _ _)
  have lt := tb.lt
  have lg := gb.lt
  have lh := hb.lt
  obtain ⟨t0, t1, t2⟩ := tab_cells tb
  obtain ⟨g0, g1, g2, g3, g4, g5, g6, g7⟩ := tgeo_cells gb
  obtain ⟨h0, h1, h2, h3⟩ := hold_cells hb
  clear tb gb hb
  go_enter Try.func47, Try.ntmps47
  go_wp2_with fail
  rw [← hW0]
  refine (HG.out _).mono ?_
  rintro e w1 ⟨rfl, hb1⟩
  clear hW0 HG t0 t1 t2 g0 g1 g2 g3 g4 g5 g6 g7 h0 h1 h2 h3 lt lg lh
  cases r1
  · go_wp2_with fail
    go_ret
    exact ⟨rfl, below_then bw hb1⟩
  obtain ⟨tb, gb, hb⟩ := HB.out _ hb1
  have lt := tb.lt
  have lh := hb.lt
  obtain ⟨t0, t1, t2⟩ := tab_cells tb
  obtain ⟨h0, h1, h2, h3⟩ := hold_cells hb
  clear tb gb hb
  go_wp2_with fail
  refine (HM.out _ hb1).mono ?_
  rintro e w2 ⟨rfl, hb2⟩
  have hbb := below_then hb1 hb2
  clear hb1 hb2 HM t0 t1 t2 h0 h1 h2 h3 lt lh
  cases r2
  · go_wp2_with fail
    go_ret
    exact ⟨rfl, below_then bw hbb⟩
  obtain ⟨tb, gb, hb⟩ := HB.out _ hbb
  have lt := tb.lt
  have lh := hb.lt
  obtain ⟨t0, t1, t2⟩ := tab_cells tb
  obtain ⟨h0, h1, h2, h3⟩ := hold_cells hb
  clear tb gb hb
  go_wp2_with fail
  refine (HT.out _ hbb).mono ?_
  rintro e w3 ⟨rfl, hb3⟩
  have hbc := below_then hbb hb3
  clear hbb hb3 HT t0 t1 t2 h0 h1 h2 h3 lt lh
  cases r3
  · obtain ⟨tb, gb, hb⟩ := HB.out _ hbc
    have lt := tb.lt
    have lh := hb.lt
    obtain ⟨t0, t1, t2⟩ := tab_cells tb
    obtain ⟨h0, h1, h2, h3⟩ := hold_cells hb
    clear tb gb hb
    go_wp2_with fail
    refine (HH.out _ hbc).mono ?_
    rintro e w4 ⟨rfl, hb4⟩
    have hbd := below_then hbc hb4
    clear hbc hb4 HH t0 t1 t2 h0 h1 h2 h3 lt lh
    go_wp2_with fail
    go_ret
    exact ⟨by simp, below_then bw hbd⟩
  · go_wp2_with fail
    go_ret
    exact ⟨by simp, below_then bw hbc⟩

end Go.Proofs.Ytjknloaolennoaa

/-
  table: a table to work on: a copy of its own behind a pointer: by contract.
-/
namespace Go.Proofs.Ytjknloaolennoaa
open Go.RowKit
set_option linter.unusedVariables false
set_option linter.unusedSimpArgs false

/-- A working table behind a pointer: its block, its rows. -/
structure WorkAt (N S B P J L E T : Int) (w : World) (base p : Nat) (vS vH vQ : Value) (t : TabM) : Prop where
  blk : Blk w p #[vS, vH, vQ, .int .i64 N, .int .i64 S, .int .i64 B, .int .i64 P, .int .i64 J, .int .i64 L, .int .i64 E, .int .i64 T] 58
  own : OwnT w base vS vH vQ t
  bp : base ≤ p
theorem WorkAt.below {N S B P J L E T : Int} {w w' : World} {base p : Nat} {vS vH vQ : Value} {t : TabM} (h : WorkAt N S B P J L E T w base p vS vH vQ t) (hb : Below w.heap.size w w') : WorkAt N S B P J L E T w' base p vS vH vQ t := ⟨h.blk.below hb h.blk.lt, h.own.below hb, h.bp⟩
theorem WorkAt.size {N S B P J L E T : Int} {w : World} {base p : Nat} {vS vH vQ : Value} {t : TabM} (h : WorkAt N S B P J L E T w base p vS vH vQ t) : base ≤ w.heap.size := by have := h.blk.lt; have := h.bp; omega
theorem work_cells {w : World} {p : Nat} {vS vH vQ : Value} {N S B P J L E T : Int} {U : TypeId} (h : Blk w p #[vS, vH, vQ, .int .i64 N, .int .i64 S, .int .i64 B, .int .i64 P, .int .i64 J, .int .i64 L, .int .i64 E, .int .i64 T] U) :
    w.cell? ⟨p, 0, none⟩ = some vS ∧ w.cell? ⟨p, 1, none⟩ = some vH ∧ w.cell? ⟨p, 2, none⟩ = some vQ ∧ w.cell? ⟨p, 3, none⟩ = some (.int .i64 N) ∧ w.cell? ⟨p, 4, none⟩ = some (.int .i64 S) ∧ w.cell? ⟨p, 5, none⟩ = some (.int .i64 B) ∧ w.cell? ⟨p, 6, none⟩ = some (.int .i64 P) ∧ w.cell? ⟨p, 7, none⟩ = some (.int .i64 J) ∧ w.cell? ⟨p, 8, none⟩ = some (.int .i64 L) ∧ w.cell? ⟨p, 9, none⟩ = some (.int .i64 E) ∧ w.cell? ⟨p, 10, none⟩ = some (.int .i64 T) :=
  ⟨h.cell 0 _ rfl, h.cell 1 _ rfl, h.cell 2 _ rfl, h.cell 3 _ rfl, h.cell 4 _ rfl, h.cell 5 _ rfl, h.cell 6 _ rfl, h.cell 7 _ rfl, h.cell 8 _ rfl, h.cell 9 _ rfl, h.cell 10 _ rfl⟩

/-- The new block of a working table. -/
def WkPtr (N S B P J L E T : Int) (base : Nat) (t : TabM) (nS nH nQ : Nat) (v : Value) (w : World) : Prop := ∃ p aS cS aH cH aQ cQ, v = .pointer (some ⟨p, 0, none⟩) ∧ base ≤ p ∧ Blk w p #[.slice aS nS cS, .slice aH nH cH, .slice aQ nQ cQ, .int .i64 N, .int .i64 S, .int .i64 B, .int .i64 P, .int .i64 J, .int .i64 L, .int .i64 E, .int .i64 T] 58 ∧ TcAgg base t nS nH nQ (.agg #[.slice aS nS cS, .slice aH nH cH, .slice aQ nQ cQ]) w
theorem WkPtr.below {N S B P J L E T : Int} {base : Nat} {t : TabM} {nS nH nQ : Nat} {v : Value} {w w' : World} (h : WkPtr N S B P J L E T base t nS nH nQ v w) (hb : Below w.heap.size w w') : WkPtr N S B P J L E T base t nS nH nQ v w' := by
  obtain ⟨p, aS, cS, aH, cH, aQ, cQ, e, h1, h2, h3⟩ := h
  exact ⟨p, aS, cS, aH, cH, aQ, cQ, e, h1, h2.below hb h2.lt, h3.below hb⟩
/-- The same behind the geometry. -/
def WkAgg (N S B P J L E T : Int) (base : Nat) (t : TabM) (nS nH nQ : Nat) (v : Value) (w : World) : Prop := ∃ aS cS aH cH aQ cQ, v = .agg #[.slice aS nS cS, .slice aH nH cH, .slice aQ nQ cQ, .int .i64 N, .int .i64 S, .int .i64 B, .int .i64 P, .int .i64 J, .int .i64 L, .int .i64 E, .int .i64 T] ∧ TcAgg base t nS nH nQ (.agg #[.slice aS nS cS, .slice aH nH cH, .slice aQ nQ cQ]) w
theorem WkAgg.below {N S B P J L E T : Int} {base : Nat} {t : TabM} {nS nH nQ : Nat} {v : Value} {w w' : World} (h : WkAgg N S B P J L E T base t nS nH nQ v w) (hb : Below w.heap.size w w') : WkAgg N S B P J L E T base t nS nH nQ v w' := by
  obtain ⟨aS, cS, aH, cH, aQ, cQ, e, h3⟩ := h
  exact ⟨aS, cS, aH, cH, aQ, cQ, e, h3.below hb⟩
/-- What each operation yields. -/
def WkR (N S B P J L E T : Int) (base b : Nat) (t : TabM) (nS nH nQ : Nat) (sS sH sQ : Value) : Nat → Value → World → Prop
  | 0, v, _ => v = .pointer (some ⟨b, 0, none⟩)
  | 1, v, _ => v = sS
  | 2, v, w => RowR base 2 48 nS (sloV t.sl) v w
  | 3, v, _ => v = .pointer (some ⟨b, 1, none⟩)
  | 4, v, _ => v = sH
  | 5, v, w => RowR base 4 43 nH (holV t.ho) v w
  | 6, v, _ => v = .pointer (some ⟨b, 2, none⟩)
  | 7, v, _ => v = sQ
  | 8, v, w => RowR base 4 43 nQ (holV t.qu) v w
  | 9, v, w => TcAgg base t nS nH nQ v w
  | 10, v, w => TcAgg base t nS nH nQ v w
  | 11, v, _ => v = .agg #[.int .i64 N, .int .i64 S, .int .i64 B, .int .i64 P, .int .i64 J, .int .i64 L, .int .i64 E, .int .i64 T]
  | 12, v, w => WkAgg N S B P J L E T base t nS nH nQ v w
  | 13, v, w => WkPtr N S B P J L E T base t nS nH nQ v w
  | _, _, _ => True
theorem wkR_keep {N S B P J L E T : Int} {base b : Nat} {t : TabM} {nS nH nQ : Nat} {sS sH sQ : Value} (i : Nat) (v : Value) (w w' : World) (hi : i < 14) (h : WkR N S B P J L E T base b t nS nH nQ sS sH sQ i v w) (hb : Below w.heap.size w w') : WkR N S B P J L E T base b t nS nH nQ sS sH sQ i v w' := by
  match i, hi, h with
  | 0, _, h => exact h
  | 1, _, h => exact h
  | 2, _, h => exact RowR.below h hb
  | 3, _, h => exact h
  | 4, _, h => exact h
  | 5, _, h => exact RowR.below h hb
  | 6, _, h => exact h
  | 7, _, h => exact h
  | 8, _, h => exact RowR.below h hb
  | 9, _, h => exact TcAgg.below h hb
  | 10, _, h => exact TcAgg.below h hb
  | 11, _, h => exact h
  | 12, _, h => exact WkAgg.below h hb
  | 13, _, h => exact WkPtr.below h hb
  | n + 14, hi, _ => exact absurd hi (by omega)
/-- Two rows of holds lie apart. -/
def WkT (i j : Nat) (u v : Value) : Prop := (i = 5 ∧ j = 8 ∨ i = 8 ∧ j = 5) → ∀ g, u.ownBlock = some g → v.ownBlock ≠ some g
theorem wkT_new {N S B P J L E T : Int} {base b : Nat} {t : TabM} {nS nH nQ : Nat} {sS sH sQ : Value} {j i : Nat} {u v : Value} {w : World} (h : WkR N S B P J L E T base b t nS nH nQ sS sH sQ j u w) (hv : ∀ g, v.ownBlock = some g → w.heap.size ≤ g) : WkT j i u v ∧ WkT i j v u := by
  have hold : (j = 5 ∨ j = 8) → ∀ g, u.ownBlock = some g → g < w.heap.size := by
    rintro (rfl | rfl) g hg
    · exact RowR.old h hg
    · exact RowR.old h hg
  refine ⟨fun hh g hg hg' => ?_, fun hh g hg hg' => ?_⟩
  · have h1 := hold (by omega) g hg
    have h2 := hv g hg'
    omega
  · have h1 := hold (by omega) g hg'
    have h2 := hv g hg
    omega
def WorkPost (N S B P J L E T : Int) (base : Nat) (t : TabM) (e : Ending) (w' : World) : Prop := ∃ p vS vH vQ, e = .returned (.pointer (some ⟨p, 0, none⟩)) ∧ WorkAt N S B P J L E T w' base p vS vH vQ t

set_option maxRecDepth 100000 in
set_option maxHeartbeats 2000000 in
theorem twork_any (N S B P J L E T : Int) (aS : Option Addr) (cS : Nat) (aH : Option Addr) (cH : Nat) (aQ : Option Addr) (cQ : Nat) (nS nH nQ : Nat) (t : TabM) (w : World) (lS : LiesS w w.heap.size aS nS t.sl) (lH : LiesH w w.heap.size aH nH t.ho) (lQ : LiesH w w.heap.size aQ nQ t.qu)
    (hcS : aS = none → cS = 0) (hcH : aH = none → cH = 0) (hcQ : aQ = none → cQ = 0) (hnS : nS ≤ 1099511627776) (hnH : nH ≤ 1099511627776) (hnQ : nQ ≤ 1099511627776) :
    Calls Try.prog 18 #[.agg #[.int .i64 N, .int .i64 S, .int .i64 B, .int .i64 P, .int .i64 J, .int .i64 L, .int .i64 E, .int .i64 T], .agg #[.slice aS nS cS, .slice aH nH cH, .slice aQ nQ cQ]] w fun e w' => WorkPost N S B P J L E T w.heap.size t e w' ∧ Below w.heap.size w w' := by
  obtain ⟨W0, hW0⟩ : ∃ W0, W0 = (w.alloc (.cells #[.int .i64 N, .int .i64 S, .int .i64 B, .int .i64 P, .int .i64 J, .int .i64 L, .int .i64 E, .int .i64 T] 23)).alloc (.cells #[.slice aS nS cS, .slice aH nH cH, .slice aQ nQ cQ] 29) := ⟨_, rfl⟩
  have hb0 : Below w.heap.size w W0 := by rw [hW0]; exact two_new _ _ _
  obtain ⟨pg, pt⟩ : Blk W0 w.heap.size #[.int .i64 N, .int .i64 S, .int .i64 B, .int .i64 P, .int .i64 J, .int .i64 L, .int .i64 E, .int .i64 T] 23 ∧ Blk W0 (w.heap.size + 1) #[.slice aS nS cS, .slice aH nH cH, .slice aQ nQ cQ] 29 := hW0 ▸ blk2 w _ _ _ _
  have HN : Hid (t.sl.length = nS ∧ t.ho.length = nH ∧ t.qu.length = nQ) := ⟨lS.1, lH.1, lQ.1⟩
  have HS1 := Lib.hid (lS.below hb0)
  have HH1 := Lib.hid (lH.below hb0)
  have HQ1 := Lib.hid (lQ.below hb0)
  have HCS := Lib.hid hcS
  have HCH := Lib.hid hcH
  have HCQ := Lib.hid hcQ
  obtain ⟨q0, q1, q2⟩ := tab_cells pt
  obtain ⟨g0, g1, g2, g3, g4, g5, g6, g7⟩ := tgeo_cells pg
  have hbB := pt.lt
  have hbG := pg.lt
  clear lS lH lQ hcS hcH hcQ
  go_enter Try.func18, Try.ntmps18
  go_wp2_with fail
  rw [← hW0]
  clear hW0
  refine wp_region_last2 WkT (WkR N S B P J L E T W0.heap.size (w.heap.size + 1) t nS nH nQ (.slice aS nS cS) (.slice aH nH cH) (.slice aQ nQ cQ)) (fun W => Below W0.heap.size W0 W) 14 (by kernel_rfl) rfl (by kernel_rfl) (by kernel_rfl) (by kernel_rfl) ((Below.refl _ _).drew) (fun i v w w' hi h hb => wkR_keep i v w w' hi h hb) ?_ ?_
  · intro i o vs W hi ho hS hdep hTd
    match i, hi with
    | 0, _ =>
      obtain rfl := Option.some.inj ho
      clear ho hdep hTd
      refine wpOp_run (v := .pointer (some ⟨w.heap.size + 1, 0, none⟩)) (w' := W) rfl rfl ?_ ⟨_, rfl, hS, rfl, Below.refl _ _, fun j u _ _ _ _ => ⟨fun h => by omega, fun h => by omega⟩⟩
      simp only [putAll, Act.put, List.setIfInBounds_toArray, List.set_cons_zero, List.set_cons_succ]
      go_simp
    | 1, _ =>
      obtain rfl := Option.some.inj ho
      have e1 : vs 0 = .pointer (some ⟨w.heap.size + 1, 0, none⟩) := hdep ⟨0, .data⟩ (by simp) rfl
      have ec : W.cell? ⟨w.heap.size + 1, 0, none⟩ = some (.slice aS nS cS) := (hS.cell (p := ⟨w.heap.size + 1, 0, none⟩) hbB).trans q0
      clear ho hdep hTd
      refine wpOp_run (v := .slice aS nS cS) (w' := W) rfl rfl ?_ ⟨_, rfl, hS, rfl, Below.refl _ _, fun j u _ _ _ _ => ⟨fun h => by omega, fun h => by omega⟩⟩
      simp only [putAll, Act.put, List.setIfInBounds_toArray, List.set_cons_zero, List.set_cons_succ, e1]
      go_simp
    | 2, _ =>
      obtain rfl := Option.some.inj ho
      have e1 : vs 1 = .slice aS nS cS := hdep ⟨1, .data⟩ (by simp) rfl
      clear ho hdep hTd
      refine wpOp_calls rfl rfl ?_ (tcloneS_any aS nS cS t.sl W (HS1.out.below hS) (by omega) HCS.out) ?_
      · simp only [putAll, Act.put, List.setIfInBounds_toArray, List.set_cons_zero, List.set_cons_succ, e1]
        go_simp
      · rintro e w' ⟨A', c', rfl, hown, hb⟩
        exact ⟨_, rfl, _, rfl, hS.trans (hb.mono hS.size), ⟨A', c', rfl, ow_less hown hS.size⟩, hb, fun j u _ _ _ _ => ⟨fun h => by omega, fun h => by omega⟩⟩
    | 3, _ =>
      obtain rfl := Option.some.inj ho
      clear ho hdep hTd
      refine wpOp_run (v := .pointer (some ⟨w.heap.size + 1, 1, none⟩)) (w' := W) rfl rfl ?_ ⟨_, rfl, hS, rfl, Below.refl _ _, fun j u _ _ _ _ => ⟨fun h => by omega, fun h => by omega⟩⟩
      simp only [putAll, Act.put, List.setIfInBounds_toArray, List.set_cons_zero, List.set_cons_succ]
      go_simp
    | 4, _ =>
      obtain rfl := Option.some.inj ho
      have e1 : vs 3 = .pointer (some ⟨w.heap.size + 1, 1, none⟩) := hdep ⟨3, .data⟩ (by simp) rfl
      have ec : W.cell? ⟨w.heap.size + 1, 1, none⟩ = some (.slice aH nH cH) := (hS.cell (p := ⟨w.heap.size + 1, 1, none⟩) hbB).trans q1
      clear ho hdep hTd
      refine wpOp_run (v := .slice aH nH cH) (w' := W) rfl rfl ?_ ⟨_, rfl, hS, rfl, Below.refl _ _, fun j u _ _ _ _ => ⟨fun h => by omega, fun h => by omega⟩⟩
      simp only [putAll, Act.put, List.setIfInBounds_toArray, List.set_cons_zero, List.set_cons_succ, e1]
      go_simp
    | 5, _ =>
      obtain rfl := Option.some.inj ho
      have e1 : vs 4 = .slice aH nH cH := hdep ⟨4, .data⟩ (by simp) rfl
      clear ho hdep hTd
      refine wpOp_calls rfl rfl ?_ (tcloneH_any aH nH cH t.ho W (HH1.out.below hS) (by omega) HCH.out) ?_
      · simp only [putAll, Act.put, List.setIfInBounds_toArray, List.set_cons_zero, List.set_cons_succ, e1]
        go_simp
      · rintro e w' ⟨A', c', rfl, hown, hb⟩
        exact ⟨_, rfl, _, rfl, hS.trans (hb.mono hS.size), ⟨A', c', rfl, ow_less hown hS.size⟩, hb, fun j u _ _ hR _ => wkT_new hR fun g hg => (hown.lt g hg).1⟩
    | 6, _ =>
      obtain rfl := Option.some.inj ho
      clear ho hdep hTd
      refine wpOp_run (v := .pointer (some ⟨w.heap.size + 1, 2, none⟩)) (w' := W) rfl rfl ?_ ⟨_, rfl, hS, rfl, Below.refl _ _, fun j u _ _ _ _ => ⟨fun h => by omega, fun h => by omega⟩⟩
      simp only [putAll, Act.put, List.setIfInBounds_toArray, List.set_cons_zero, List.set_cons_succ]
      go_simp
    | 7, _ =>
      obtain rfl := Option.some.inj ho
      have e1 : vs 6 = .pointer (some ⟨w.heap.size + 1, 2, none⟩) := hdep ⟨6, .data⟩ (by simp) rfl
      have ec : W.cell? ⟨w.heap.size + 1, 2, none⟩ = some (.slice aQ nQ cQ) := (hS.cell (p := ⟨w.heap.size + 1, 2, none⟩) hbB).trans q2
      clear ho hdep hTd
      refine wpOp_run (v := .slice aQ nQ cQ) (w' := W) rfl rfl ?_ ⟨_, rfl, hS, rfl, Below.refl _ _, fun j u _ _ _ _ => ⟨fun h => by omega, fun h => by omega⟩⟩
      simp only [putAll, Act.put, List.setIfInBounds_toArray, List.set_cons_zero, List.set_cons_succ, e1]
      go_simp
    | 8, _ =>
      obtain rfl := Option.some.inj ho
      have e1 : vs 7 = .slice aQ nQ cQ := hdep ⟨7, .data⟩ (by simp) rfl
      clear ho hdep hTd
      refine wpOp_calls rfl rfl ?_ (tcloneH_any aQ nQ cQ t.qu W (HQ1.out.below hS) (by omega) HCQ.out) ?_
      · simp only [putAll, Act.put, List.setIfInBounds_toArray, List.set_cons_zero, List.set_cons_succ, e1]
        go_simp
      · rintro e w' ⟨A', c', rfl, hown, hb⟩
        exact ⟨_, rfl, _, rfl, hS.trans (hb.mono hS.size), ⟨A', c', rfl, ow_less hown hS.size⟩, hb, fun j u _ _ hR _ => wkT_new hR fun g hg => (hown.lt g hg).1⟩
    | 9, _ =>
      obtain rfl := Option.some.inj ho
      obtain ⟨A1, c1, e1, o1⟩ : ∃ A c, vs 2 = .slice A nS c ∧ _ := hdep ⟨2, .data⟩ (by simp) rfl
      obtain ⟨A2, c2, e2, o2⟩ : ∃ A c, vs 5 = .slice A nH c ∧ _ := hdep ⟨5, .data⟩ (by simp) rfl
      obtain ⟨A3, c3, e3, o3⟩ : ∃ A c, vs 8 = .slice A nQ c ∧ _ := hdep ⟨8, .data⟩ (by simp) rfl
      have hkf : WkT 5 8 (vs 5) (vs 8) := hTd ⟨5, .data⟩ (by simp) ⟨8, .data⟩ (by simp) rfl rfl (by decide)
      rw [e1] at o1
      rw [e2] at o2 hkf
      rw [e3] at o3 hkf
      clear ho hdep hTd
      refine wpOp_run (v := .agg #[.slice A1 nS c1, .slice A2 nH c2, .slice A3 nQ c3]) (w' := W) rfl rfl ?_ ⟨_, rfl, hS, ⟨A1, c1, A2, c2, A3, c3, rfl, o1, o2, o3, hkf (.inl ⟨rfl, rfl⟩)⟩, Below.refl _ _, fun j u _ _ _ _ => ⟨fun h => by omega, fun h => by omega⟩⟩
      simp only [putAll, Act.put, List.setIfInBounds_toArray, List.set_cons_zero, List.set_cons_succ, e1, e2, e3]
      go_simp
    | 10, _ =>
      obtain rfl := Option.some.inj ho
      obtain ⟨A1, c1, A2, c2, A3, c3, e1, h⟩ : ∃ A1 c1 A2 c2 A3 c3, vs 9 = .agg #[.slice A1 nS c1, .slice A2 nH c2, .slice A3 nQ c3] ∧ _ := hdep ⟨9, .data⟩ (by simp) rfl
      clear ho hdep hTd
      refine wpOp_run (v := .agg #[.slice A1 nS c1, .slice A2 nH c2, .slice A3 nQ c3]) (w' := W) rfl rfl ?_ ⟨_, rfl, hS, ⟨A1, c1, A2, c2, A3, c3, rfl, h⟩, Below.refl _ _, fun j u _ _ _ _ => ⟨fun h => by omega, fun h => by omega⟩⟩
      simp only [putAll, Act.put, List.setIfInBounds_toArray, List.set_cons_zero, List.set_cons_succ, e1]
      go_simp
    | 11, _ =>
      obtain rfl := Option.some.inj ho
      have c0 := (hS.cell (p := ⟨w.heap.size, 0, none⟩) hbG).trans g0
      have c1 := (hS.cell (p := ⟨w.heap.size, 1, none⟩) hbG).trans g1
      have c2 := (hS.cell (p := ⟨w.heap.size, 2, none⟩) hbG).trans g2
      have c3 := (hS.cell (p := ⟨w.heap.size, 3, none⟩) hbG).trans g3
      have c4 := (hS.cell (p := ⟨w.heap.size, 4, none⟩) hbG).trans g4
      have c5 := (hS.cell (p := ⟨w.heap.size, 5, none⟩) hbG).trans g5
      have c6 := (hS.cell (p := ⟨w.heap.size, 6, none⟩) hbG).trans g6
      have c7 := (hS.cell (p := ⟨w.heap.size, 7, none⟩) hbG).trans g7
      have hlt : w.heap.size < W.heap.size := Nat.lt_of_lt_of_le hbG hS.size
      clear ho hdep hTd
      refine wpOp_run (v := .agg #[.int .i64 N, .int .i64 S, .int .i64 B, .int .i64 P, .int .i64 J, .int .i64 L, .int .i64 E, .int .i64 T]) (w' := W) rfl rfl ?_ ⟨_, rfl, hS, rfl, Below.refl _ _, fun j u _ _ _ _ => ⟨fun h => by omega, fun h => by omega⟩⟩
      simp only [putAll, Act.put, List.setIfInBounds_toArray, List.set_cons_zero, List.set_cons_succ]
      go_simp
    | 12, _ =>
      obtain rfl := Option.some.inj ho
      obtain ⟨A1, c1, A2, c2, A3, c3, e1, h⟩ : ∃ A1 c1 A2 c2 A3 c3, vs 10 = .agg #[.slice A1 nS c1, .slice A2 nH c2, .slice A3 nQ c3] ∧ _ := hdep ⟨10, .data⟩ (by simp) rfl
      have e2 : vs 11 = .agg #[.int .i64 N, .int .i64 S, .int .i64 B, .int .i64 P, .int .i64 J, .int .i64 L, .int .i64 E, .int .i64 T] := hdep ⟨11, .data⟩ (by simp) rfl
      clear ho hdep hTd
      refine wpOp_run (v := .agg #[.slice A1 nS c1, .slice A2 nH c2, .slice A3 nQ c3, .int .i64 N, .int .i64 S, .int .i64 B, .int .i64 P, .int .i64 J, .int .i64 L, .int .i64 E, .int .i64 T]) (w' := W) rfl rfl ?_ ⟨_, rfl, hS, ⟨A1, c1, A2, c2, A3, c3, rfl, ⟨A1, c1, A2, c2, A3, c3, rfl, h⟩⟩, Below.refl _ _, fun j u _ _ _ _ => ⟨fun h => by omega, fun h => by omega⟩⟩
      simp only [putAll, Act.put, List.setIfInBounds_toArray, List.set_cons_zero, List.set_cons_succ, e1, e2]
      go_simp
    | 13, _ =>
      obtain rfl := Option.some.inj ho
      obtain ⟨A1, c1, A2, c2, A3, c3, e1, h⟩ : ∃ A1 c1 A2 c2 A3 c3, vs 12 = .agg #[.slice A1 nS c1, .slice A2 nH c2, .slice A3 nQ c3, .int .i64 N, .int .i64 S, .int .i64 B, .int .i64 P, .int .i64 J, .int .i64 L, .int .i64 E, .int .i64 T] ∧ TcAgg W0.heap.size t nS nH nQ (.agg #[.slice A1 nS c1, .slice A2 nH c2, .slice A3 nQ c3]) W := hdep ⟨12, .data⟩ (by simp) rfl
      clear ho hdep hTd
      refine wpOp_run (v := .pointer (some ⟨W.heap.size, 0, none⟩)) (w' := W.alloc (.cells #[.slice A1 nS c1, .slice A2 nH c2, .slice A3 nQ c3, .int .i64 N, .int .i64 S, .int .i64 B, .int .i64 P, .int .i64 J, .int .i64 L, .int .i64 E, .int .i64 T] 58)) rfl rfl ?_ ⟨_, rfl, hS.alloc hS.size _, ⟨W.heap.size, A1, c1, A2, c2, A3, c3, rfl, hS.size, Blk.new W _ _, h.below (one_new W _)⟩, one_new W _, fun j u _ _ _ _ => ⟨fun h => by omega, fun h => by omega⟩⟩
      simp only [putAll, Act.put, List.setIfInBounds_toArray, List.set_cons_zero, List.set_cons_succ, e1]
      go_simp
    | n + 14, hi => exact absurd hi (by omega)
  · intro vs W hS hR hT
    obtain ⟨p, A1, c1, A2, c2, A3, c3, e13, hp, hB, h⟩ : WkPtr N S B P J L E T W0.heap.size t nS nH nQ (vs 13) W := hR 13 (by omega)
    obtain ⟨B1, d1, B2, d2, B3, d3, ev, o1, o2, o3, hap⟩ := h
    injection ev with ev
    have ev := congrArg Array.toList ev
    simp only [List.cons.injEq, and_true] at ev
    obtain ⟨ev1, ev2, ev3⟩ := ev
    rw [← ev1] at o1
    rw [← ev2] at o2 hap
    rw [← ev3] at o3 hap
    have b1 := below_then hb0 hS
    have HW : Hid (WorkAt N S B P J L E T W w.heap.size p (.slice A1 nS c1) (.slice A2 nH c2) (.slice A3 nQ c3) t) := ⟨hB, (⟨by rw [HN.out.1]; exact o1, by rw [HN.out.2.1]; exact o2, by rw [HN.out.2.2]; exact o3, hap⟩ : OwnT W W0.heap.size (.slice A1 nS c1) (.slice A2 nH c2) (.slice A3 nQ c3) t).less hb0.size, Nat.le_trans hb0.size hp⟩
    clear hR hT o1 o2 o3 hap hB hp q0 q1 q2 g0 g1 g2 g3 g4 g5 g6 g7 hbB hbG pt pg HS1 HH1 HQ1 hS hb0
    refine wpOp_step rfl (fun K hK => ?_)
    simp only [putAll, Act.put, List.setIfInBounds_toArray, List.set_cons_zero, List.set_cons_succ, e13]
    go_simp
    refine hK _ _ ?_
    clear hK
    go_wp2_with fail
    go_ret
    exact ⟨⟨p, _, _, _, rfl, HW.out⟩, b1⟩

end Go.Proofs.Ytjknloaolennoaa

/-
  table: a working table whose queue is gone through: what stays where a row grows; over memory.
-/
namespace Go.Proofs.Ytjknloaolennoaa
open Go.RowKit
set_option linter.unusedVariables false
set_option linter.unusedSimpArgs false

theorem not_yetW {b : Bool} {p : Prop} (e : b = true) (h : b = false) : p := by rw [e] at h; cases h
/-- Two rows lie apart. -/
def ApV (u v : Value) : Prop := ∀ b, u.ownBlock = some b → v.ownBlock ≠ some b
theorem ApV.nil (v : Value) : ApV (.slice none 0 0) v := fun b h => by cases h
theorem OwnT.setW {w : World} {B : Nat} {vS vH vQ : Value} {t : TabM} {cs : Array Value} {o : Nat} (h : OwnT w B vS vH vQ t) (k : Blk w o cs 58) (i : Nat) (u : Value) : OwnT (w.setCell ⟨o, i, none⟩ u) B vS vH vQ t :=
  ⟨ownsRow_setCell_other h.s (ow_blk h.s k (by decide)) u, ownsRow_setCell_other h.h (ow_blk h.h k (by decide)) u, ownsRow_setCell_other h.q (ow_blk h.q k (by decide)) u, h.ap⟩
structure GrSt (N S B P J L E T : Int) (w : World) (base p : Nat) (vS vH vq vQ : Value) (sl : List SlotM) (hs qs qu : List HoldM) : Prop where
  own : OwnT w base vS vH vq ⟨sl, hs, qs⟩
  q0 : w.ownsRow base 43 4 vQ qu.length (holV qu)
  a1 : ApV vH vQ
  a2 : ApV vq vQ
  blk : Blk w p #[vS, vH, vQ, .int .i64 N, .int .i64 S, .int .i64 B, .int .i64 P, .int .i64 J, .int .i64 L, .int .i64 E, .int .i64 T] 58
  bp : base ≤ p
section
variable {N S B P J L E T : Int} {w w1 : World} {base p : Nat} {vS vH vq vQ v' : Value} {sl : List SlotM} {hs qs qu : List HoldM} {x : HoldM}
theorem GrSt.below (h : GrSt N S B P J L E T w base p vS vH vq vQ sl hs qs qu) (hb : Below w.heap.size w w1) : GrSt N S B P J L E T w1 base p vS vH vq vQ sl hs qs qu :=
  ⟨h.own.below hb, ow_up h.q0 hb, h.a1, h.a2, h.blk.below hb h.blk.lt, h.bp⟩
theorem GrSt.size (h : GrSt N S B P J L E T w base p vS vH vq vQ sl hs qs qu) : base ≤ w.heap.size := by have := h.blk.lt; have := h.bp; omega
theorem GrSt.start (h : WorkAt N S B P J L E T w base p vS vH vQ ⟨sl, hs, qu⟩) : GrSt N S B P J L E T w base p vS vH (.slice none 0 0) vQ sl hs [] qu :=
  ⟨h.own.noQ, h.own.q, h.own.ap, ApV.nil _, h.blk, h.bp⟩
theorem GrSt.pushH (h : GrSt N S B P J L E T w base p vS vH vq vQ sl hs qs qu) (hown : w1.ownsRow base 43 4 v' (hs.length + 1) (holV hs ++ holV [x])) (hg : w.grownBy w1 vH.ownBlock) (hat : v'.ownBlock = vH.ownBlock ∨ v'.ownBlock = some w.heap.size) :
    GrSt N S B P J L E T (w1.setCell ⟨p, 1, none⟩ v') base p vS v' vq vQ sl (hs ++ [x]) qs qu := by
  have hne := ow_blk h.own.h h.blk (by decide)
  have k1 := blk_grown h.blk hg hne
  have hq : w1.ownsRow base 43 4 vQ qu.length (holV qu) := h.q0.kept hg (by
    cases e1 : vQ.ownBlock with
    | none => exact .inl rfl
    | some g => exact .inr fun e2 => h.a1 g e2.symm e1)
  refine ⟨(h.own.pushH hown hg hat).setW k1 1 v', ownsRow_setCell_other hq (ow_blk hq k1 (by decide)) v', fun b hb => ?_, h.a2, k1.set 1 v', h.bp⟩
  rcases hat with e1 | e1
  · exact h.a1 b (e1 ▸ hb)
  · intro hq2
    have : b = w.heap.size := by rw [e1] at hb; injection hb with hb; exact hb.symm
    have h2 := (h.q0.lt b hq2).2
    omega
theorem GrSt.pushQ (h : GrSt N S B P J L E T w base p vS vH vq vQ sl hs qs qu) (hown : w1.ownsRow base 43 4 v' (qs.length + 1) (holV qs ++ holV [x])) (hg : w.grownBy w1 vq.ownBlock) (hat : v'.ownBlock = vq.ownBlock ∨ v'.ownBlock = some w.heap.size) :
    GrSt N S B P J L E T w1 base p vS vH v' vQ sl hs (qs ++ [x]) qu := by
  have hne := ow_blk h.own.q h.blk (by decide)
  have hq : w1.ownsRow base 43 4 vQ qu.length (holV qu) := h.q0.kept hg (by
    cases e1 : vQ.ownBlock with
    | none => exact .inl rfl
    | some g => exact .inr fun e2 => h.a2 g e2.symm e1)
  refine ⟨h.own.pushQ hown hg hat, hq, h.a1, fun b hb => ?_, blk_grown h.blk hg hne, h.bp⟩
  rcases hat with e1 | e1
  · exact h.a2 b (e1 ▸ hb)
  · intro hq2
    have : b = w.heap.size := by rw [e1] at hb; injection hb with hb; exact hb.symm
    have h2 := (h.q0.lt b hq2).2
    omega
theorem GrSt.finish (h : GrSt N S B P J L E T w base p vS vH vq vQ sl hs qs qu) : WorkAt N S B P J L E T (w.setCell ⟨p, 2, none⟩ vq) base p vS vH vq ⟨sl, hs, qs⟩ :=
  ⟨h.blk.set 2 vq, h.own.setW h.blk 2 vq, h.bp⟩
end

end Go.Proofs.Ytjknloaolennoaa

/-
  table: a working table: a slot is written, a row is replaced by another of its own; over memory.
-/
namespace Go.Proofs.Ytjknloaolennoaa
open Go.RowKit
set_option linter.unusedVariables false
set_option linter.unusedSimpArgs false

theorem set_same {α : Type} {l : List α} {i : Nat} {a : α} (h : l[i]? = some a) : l.set i a = l := by
  obtain ⟨hi, rfl⟩ := List.getElem?_eq_some_iff.1 h
  exact List.set_getElem_self hi
theorem sloV_set : ∀ (l : List SlotM) (i : Nat) (x : SlotM), i < l.length → ((sloV l).set (i * 2) (.int .i64 x.key)).set (i * 2 + 1) (.int .i64 x.claim) = sloV (l.set i x)
  | [], i, x, h => by simp at h
  | y :: r, 0, x, _ => rfl
  | y :: r, i + 1, x, h => by
    have ih := sloV_set r i x (by simpa using h)
    have e : ∀ (z : SlotM) (q : List SlotM), sloV (z :: q) = .int .i64 z.key :: .int .i64 z.claim :: sloV q := fun _ _ => rfl
    rw [List.set_cons_succ, e, e, ← ih, show (i + 1) * 2 = i * 2 + 1 + 1 by omega]
    rfl
theorem sloV_key (l : List SlotM) (i : Nat) (h : i < l.length) (key : Int) : (sloV l).set (i * 2) (.int .i64 key) = sloV (l.set i ⟨key, (l[i]).claim⟩) := by
  rw [← sloV_set l i _ h]
  obtain ⟨_, h1⟩ := sloV_at l h
  rw [List.set_comm _ _ (by omega)]
  congr 1
  exact (set_same h1).symm
theorem sloV_claim (l : List SlotM) (i : Nat) (h : i < l.length) (c : Int) : (sloV l).set (i * 2 + 1) (.int .i64 c) = sloV (l.set i ⟨(l[i]).key, c⟩) := by
  rw [← sloV_set l i _ h]
  obtain ⟨h0, _⟩ := sloV_at l h
  rw [set_same h0]

section
variable {N S B P J L E T : Int} {w w1 : World} {base p g n c i : Nat} {vS vH vQ v' : Value} {t : TabM} {l : List HoldM} {x : SlotM}
/-- A row of a call's own behind a write elsewhere. -/
theorem OwnT.slot (h : OwnT w base (.slice (some ⟨g, 0, none⟩) n c) vH vQ t) (j : Nat) (u : Value) {sl : List SlotM} (hs : (w.setCell ⟨g, j, none⟩ u).ownsRow base 48 2 (.slice (some ⟨g, 0, none⟩) n c) sl.length (sloV sl)) : OwnT (w.setCell ⟨g, j, none⟩ u) base (.slice (some ⟨g, 0, none⟩) n c) vH vQ { t with sl := sl } := by
  have h1 : vH.ownBlock ≠ some g := by
    rcases ow_types h.h h.s (by decide) with e | e
    · rw [e]; simp
    · exact e
  have h2 : vQ.ownBlock ≠ some g := by
    rcases ow_types h.q h.s (by decide) with e | e
    · rw [e]; simp
    · exact e
  exact ⟨hs, ownsRow_setCell_other h.h h1 u, ownsRow_setCell_other h.q h2 u, h.ap⟩
theorem WorkAt.ne (h : WorkAt N S B P J L E T w base p (.slice (some ⟨g, 0, none⟩) n c) vH vQ t) : p ≠ g := by
  have := ow_blk h.own.s h.blk (by decide)
  simp [Value.ownBlock] at this
  exact fun e => this e.symm
theorem WorkAt.key (h : WorkAt N S B P J L E T w base p (.slice (some ⟨g, 0, none⟩) n c) vH vQ t) (hn : t.sl.length = n) (hi : i < t.sl.length) (key : Int) :
    WorkAt N S B P J L E T (w.setCell ⟨g, i * 2, none⟩ (.int .i64 key)) base p (.slice (some ⟨g, 0, none⟩) n c) vH vQ { t with sl := t.sl.set i ⟨key, (t.sl[i]).claim⟩ } := by
  refine ⟨h.blk.other h.ne _ _, h.own.slot _ _ ?_, h.bp⟩
  have hs := h.own.s
  rw [hn] at hs
  rw [List.length_set, hn, ← sloV_key t.sl i hi key]
  exact (hs.stored (i * 2) _).1
theorem WorkAt.claim (h : WorkAt N S B P J L E T w base p (.slice (some ⟨g, 0, none⟩) n c) vH vQ t) (hn : t.sl.length = n) (hi : i < t.sl.length) (d : Int) :
    WorkAt N S B P J L E T (w.setCell ⟨g, i * 2 + 1, none⟩ (.int .i64 d)) base p (.slice (some ⟨g, 0, none⟩) n c) vH vQ { t with sl := t.sl.set i ⟨(t.sl[i]).key, d⟩ } := by
  refine ⟨h.blk.other h.ne _ _, h.own.slot _ _ ?_, h.bp⟩
  have hs := h.own.s
  rw [hn] at hs
  rw [List.length_set, hn, ← sloV_claim t.sl i hi d]
  exact (hs.stored (i * 2 + 1) _).1
theorem WorkAt.slot (h : WorkAt N S B P J L E T w base p (.slice (some ⟨g, 0, none⟩) n c) vH vQ t) (hn : t.sl.length = n) (hi : i < t.sl.length) (a b : Int) :
    WorkAt N S B P J L E T (w.setCells g (i * 2) [.int .i64 a, .int .i64 b]) base p (.slice (some ⟨g, 0, none⟩) n c) vH vQ { t with sl := t.sl.set i ⟨a, b⟩ } := by
  have h1 := h.key hn hi a
  have h2 := h1.claim (i := i) (by simpa using hn) (by simpa using hi) b
  rw [show w.setCells g (i * 2) [.int .i64 a, .int .i64 b] = (w.setCell ⟨g, i * 2, none⟩ (.int .i64 a)).setCell ⟨g, i * 2 + 1, none⟩ (.int .i64 b) from rfl]
  simpa using h2
/-- The slots' cells. -/
theorem WorkAt.slo (h : WorkAt N S B P J L E T w base p (.slice (some ⟨g, 0, none⟩) n c) vH vQ t) (hn : t.sl.length = n) (hi : i < t.sl.length) :
    w.cell? ⟨g, i * 2, none⟩ = some (.int .i64 (t.sl[i]).key) ∧ w.cell? ⟨g, i * 2 + 1, none⟩ = some (.int .i64 (t.sl[i]).claim) ∧ w.frozen? ⟨g, i * 2, none⟩ = false ∧ w.frozen? ⟨g, i * 2 + 1, none⟩ = false ∧ g < w.heap.size := by
  have hs := h.own.s
  rw [hn] at hs
  obtain ⟨h0, h1⟩ := sloV_at t.sl hi
  exact ⟨(hs.cellAt _ (by omega)).trans h0, (hs.cellAt _ (by omega)).trans h1, hs.frozenAt _, hs.frozenAt _, (hs.lt g rfl).2⟩
/-- The slots' row, where there is one. -/
theorem WorkAt.some_ {aS : Option Addr} (h : WorkAt N S B P J L E T w base p (.slice aS n c) vH vQ t) (hn : t.sl.length = n) (hi : i < n) : ∃ g, aS = some ⟨g, 0, none⟩ ∧ base ≤ g ∧ n ≤ c := by
  rcases h.own.s.2 with ⟨_, h0⟩ | ⟨g, cap, cur, hv, hb, _, hc, _⟩
  · omega
  · simp only [Value.slice.injEq] at hv
    obtain ⟨rfl, h1, rfl⟩ := hv
    exact ⟨g, rfl, hb, by omega⟩
/-- The holds are others now, in a row that is new. -/
theorem WorkAt.newH (h : WorkAt N S B P J L E T w base p vS vH vQ t) (hb : Below w.heap.size w w1) (hown : w1.ownsRow w.heap.size 43 4 v' l.length (holV l)) : WorkAt N S B P J L E T (w1.setCell ⟨p, 1, none⟩ v') base p vS v' vQ { t with ho := l } := by
  have h1 := h.below hb
  refine ⟨h1.blk.set 1 v', OwnT.setW (t := { t with ho := l }) ⟨h1.own.s, ow_less hown h.size, h1.own.q, fun b hb1 hb2 => ?_⟩ h1.blk 1 v', h.bp⟩
  have := (hown.lt b hb1).1
  have := (h.own.q.lt b hb2).2
  omega
theorem WorkAt.newQ (h : WorkAt N S B P J L E T w base p vS vH vQ t) (hb : Below w.heap.size w w1) (hown : w1.ownsRow w.heap.size 43 4 v' l.length (holV l)) : WorkAt N S B P J L E T (w1.setCell ⟨p, 2, none⟩ v') base p vS vH v' { t with qu := l } := by
  have h1 := h.below hb
  refine ⟨h1.blk.set 2 v', OwnT.setW (t := { t with qu := l }) ⟨h1.own.s, h1.own.h, ow_less hown h.size, fun b hb1 hb2 => ?_⟩ h1.blk 2 v', h.bp⟩
  have := (hown.lt b hb2).1
  have := (h.own.h.lt b hb1).2
  omega
/-- One more is queued. -/
theorem WorkAt.pushQ {y : HoldM} (h : WorkAt N S B P J L E T w base p vS vH vQ t) (hown : w1.ownsRow base 43 4 v' (t.qu.length + 1) (holV t.qu ++ holV [y])) (hg : w.grownBy w1 vQ.ownBlock) (hat : v'.ownBlock = vQ.ownBlock ∨ v'.ownBlock = some w.heap.size) :
    WorkAt N S B P J L E T (w1.setCell ⟨p, 2, none⟩ v') base p vS vH v' { t with qu := t.qu ++ [y] } := by
  have k1 := blk_grown h.blk hg (ow_blk h.own.q h.blk (by decide))
  exact ⟨k1.set 2 v', (h.own.pushQ hown hg hat).setW k1 2 v', h.bp⟩
end

/-- What 'without' of a key leaves. -/
def keyP (key : Int) (h : HoldM) : Bool := h.key == key
theorem notP_key (key : Int) (l : List HoldM) : notP (keyP key) l = without l key := rfl
/-- A row of two conditions. -/
def CondTwo (key sl sh : Int) (v : Value) (w : World) : Prop := ∃ q b d, v = .slice (some ⟨q, 0, none⟩) 2 2 ∧ Blk w q #[.func (.func 63) #[] #[.pointer (some ⟨b, 0, none⟩)], .func (.func 64) #[] #[.pointer (some ⟨d, 0, none⟩)]] 78 ∧ Blk w b #[.int .i64 key] 3 ∧ Blk w d #[.int .i64 sl, .int .i64 sh] 34

end Go.Proofs.Ytjknloaolennoaa
