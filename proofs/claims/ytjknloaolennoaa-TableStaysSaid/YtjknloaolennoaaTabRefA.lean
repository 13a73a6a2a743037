/-
  The document's tables: too great a table, a key's slot; the laws' 'has': by contract.
-/
import Derived.Test.YtjknloaolennoaaTabAt
import Derived.Test.YtjknloaolennoaaSpanAll
import Derived.BigQuiet
namespace Go.Proofs.Ytjknloaolennoaa
open Go.RowKit
set_option linter.unusedVariables false
set_option linter.unusedSimpArgs false

theorem tab_cells {w : World} {q : Nat} {a b c : Value} {T : TypeId} (p : Blk w q #[a, b, c] T) : w.cell? ⟨q, 0, none⟩ = some a ∧ w.cell? ⟨q, 1, none⟩ = some b ∧ w.cell? ⟨q, 2, none⟩ = some c :=
  ⟨p.cell 0 _ rfl, p.cell 1 _ rfl, p.cell 2 _ rfl⟩

def greatB (nS nH nQ : Nat) : Bool := decide (40 < nS) || (decide (100 < nH) || decide (100 < nQ))
set_option maxRecDepth 100000 in
theorem refGreat_any (aS aH aQ : Option Addr) (nS cS nH cH nQ cQ : Nat) (w : World) :
    Calls Try.prog 15 #[.agg #[.slice aS nS cS, .slice aH nH cH, .slice aQ nQ cQ]] w fun e w' => e = .returned (.bool (greatB nS nH nQ)) ∧ Below w.heap.size w w' := by
  have b0 : Below w.heap.size w (w.alloc (.cells #[.slice aS nS cS, .slice aH nH cH, .slice aQ nQ cQ] 29)) := one_new _ _
  by_cases h1 : 40 < nS
  · have HV : Hid (greatB nS nH nQ = true) := by show _ = _; simp [greatB, h1]
    go_enter Try.func15, Try.ntmps15
    go_wp2_with fail
    go_ret
    exact ⟨by rw [HV.out] <;> rfl, b0⟩
  · have z1 : decide ((40 : Int) < (nS : Int)) = false := decide_eq_false (by omega)
    by_cases h2 : 100 < nH
    · have HV : Hid (greatB nS nH nQ = true) := by show _ = _; simp [greatB, h2]
      clear h1
      go_enter Try.func15, Try.ntmps15
      go_wp2_with fail
      go_ret
      exact ⟨by rw [HV.out] <;> rfl, b0⟩
    · have z2 : decide ((100 : Int) < (nH : Int)) = false := decide_eq_false (by omega)
      by_cases h3 : 100 < nQ
      · have HV : Hid (greatB nS nH nQ = true) := by show _ = _; simp [greatB, h3]
        have z3 : decide ((100 : Int) < (nQ : Int)) = true := decide_eq_true (by omega)
        clear h1 h2 h3
        go_enter Try.func15, Try.ntmps15
        go_wp2_with fail
        go_ret
        exact ⟨by rw [HV.out] <;> rfl, b0⟩
      · have HV : Hid (greatB nS nH nQ = false) := by show _ = _; simp [greatB, h1, h2, h3]
        have z3 : decide ((100 : Int) < (nQ : Int)) = false := decide_eq_false (by omega)
        clear h1 h2 h3
        go_enter Try.func15, Try.ntmps15
        go_wp2_with fail
        go_ret
        exact ⟨by rw [HV.out] <;> rfl, b0⟩

/-! ### A key's slot -/
/-- The first slot of the key among those from k on. -/
def slotO (l : List SlotM) (key : Int) : Int × Bool := match (if 1 ≤ key then l.findIdx? fun x => x.key == key else none) with
  | some i => ((i : Int), true)
  | none => (0, false)
theorem slot_hit {l : List SlotM} {key : Int} {k : Nat} (hk : k < l.length) {x : SlotM} (e : l[k] = x) (h1 : 1 ≤ key) (h2 : (x.key == key) = true) (hf : ∀ j, ∀ hj : j < k, ((l[j]'(by omega)).key == key) = false) : slotO l key = ((k : Int), true) := by
  unfold slotO
  rw [if_pos h1]
  have h : (l.findIdx? fun x => x.key == key) = some k := by
    rw [List.findIdx?_eq_some_iff_getElem]
    exact ⟨hk, by rw [e]; exact h2, fun j hj => by rw [hf j hj]; simp⟩
  rw [h]
theorem slot_miss {l : List SlotM} {key : Int} (hf : ¬ 1 ≤ key ∨ ∀ j, ∀ hj : j < l.length, ((l[j]).key == key) = false) : slotO l key = (0, false) := by
  unfold slotO
  rcases hf with h | h
  · rw [if_neg h]
  · have h2 : (l.findIdx? fun x => x.key == key) = none := by
      rw [List.findIdx?_eq_none_iff]
      intro x hx
      obtain ⟨j, hj, rfl⟩ := List.getElem_of_mem hx
      exact h j hj
    split
    · rename_i i hi
      split at hi
      · rw [h2] at hi; cases hi
      · cases hi
    · rfl

set_option maxRecDepth 100000 in
set_option maxHeartbeats 1000000 in
theorem refSlot_any (aS : Option Addr) (nS cS : Nat) (l : List SlotM) (vH vQ : Value) (key : Int) (w : World) (hS : LiesS w w.heap.size aS nS l) (hn : nS ≤ maxLen) :
    Calls Try.prog 21 #[.agg #[.slice aS nS cS, vH, vQ], .int .i64 key] w fun e w' => e = .returned (.tuple #[.int .i64 (slotO l key).1, .bool (slotO l key).2]) ∧ Below w.heap.size w w' := by
  have HL : Hid (l.length = nS) := hS.1
  unfold maxLen at hn
  obtain ⟨W0, hW⟩ : ∃ W0, W0 = w.alloc (.cells #[.slice aS nS cS, vH, vQ] 29) := ⟨_, rfl⟩
  have hbw : Below w.heap.size w W0 := hW ▸ one_new _ _
  have p0 : Blk W0 w.heap.size #[.slice aS nS cS, vH, vQ] 29 := hW ▸ Blk.new w _ _
  obtain ⟨t0, t1, t2⟩ := tab_cells p0
  have hA := hS.below hbw
  clear hS
  go_enter Try.func21, Try.ntmps21
  have HA : Hid (∀ W, Below W0.heap.size W0 W → LiesS W W.heap.size aS nS l) := fun W h => hA.below h
  clear hA t0 t1 t2
  go_wp2_with fail
  rw [← hW]
  clear hW
  go_loopw [6] (fun i wr => ∃ k : Nat, k ≤ nS ∧ i = .int .i64 k ∧ Below W0.heap.size W0 wr ∧ Hid (¬ 1 ≤ key ∨ ∀ j, ∀ hj : j < l.length, j < k → ((l[j]).key == key) = false)) (fun i _ => nS - (intOf i).toNat)
  case atStart => exact ⟨0, Nat.zero_le _, rfl, Below.refl _ _, .inr fun j _ hj => by omega⟩
  case round =>
    obtain ⟨k, hk, rfl, hb, HF⟩ := hrel
    obtain ⟨t0, t1, t2⟩ := tab_cells (p0.below hb p0.lt)
    by_cases hlt : k < nS
    · have hkl : k < l.length := by rw [HL.out]; exact hlt
      obtain ⟨ad, e1, had, c0, c1⟩ := slo_cells (HA.out _ hb) hlt hkl
      subst e1
      obtain ⟨kx, hx⟩ : ∃ kx, (l[k]).key = kx := ⟨_, rfl⟩
      have HX : Hid (∃ h : k < l.length, (l[k]).key = kx) := ⟨hkl, hx⟩
      rw [hx] at c0
      clear hx hkl c1
      by_cases h1 : 1 ≤ key
      · cases he : kx == key with
        | true =>
          have HV : Hid (slotO l key = ((k : Int), true)) := slot_hit HX.out.1 rfl h1 (by rw [HX.out.2]; exact he) fun j hj => by
            rcases HF.out with h | h
            · exact absurd h1 h
            · exact h j (by have := HX.out.1; omega) hj
          go_wp2_with fail
          go_ret2
          exact ⟨by rw [HV.out] <;> rfl, below_then hbw hb⟩
        | false =>
          have HF' : Hid (¬ 1 ≤ key ∨ ∀ j, ∀ hj : j < l.length, j < k + 1 → ((l[j]).key == key) = false) := .inr fun j hj hjk => by
            by_cases e : j = k
            · subst e
              rw [HX.out.2]; exact he
            · rcases HF.out with h | h
              · exact absurd h1 h
              · exact h j hj (by omega)
          go_wp2_with fail
          go_roundw
          case rel => exact ⟨k + 1, by omega, by go_num, hb, HF'⟩
          case measure => simp [intOf]; omega
      · have z : decide (1 ≤ key) = false := decide_eq_false h1
        have HF' : Hid (¬ 1 ≤ key ∨ ∀ j, ∀ hj : j < l.length, j < k + 1 → ((l[j]).key == key) = false) := .inl h1
        clear h1
        go_wp2_with fail
        go_roundw
        case rel => exact ⟨k + 1, by omega, by go_num, hb, HF'⟩
        case measure => simp [intOf]; omega
    · have HV : Hid (slotO l key = (0, false)) := slot_miss (by
        rcases HF.out with h | h
        · exact .inl h
        · exact .inr fun j hj => h j hj (by have := HL.out; omega))
      have hkn : k = nS := by omega
      clear hlt HF
      go_wp2_with fail
      go_ret2
      exact ⟨by rw [HV.out] <;> rfl, below_then hbw hb⟩

/-! ### Is a hold among some? (the laws' own) -/
def hasB (l : List HoldM) (h : HoldM) : Bool := l.any fun x => decide (x = h)
theorem has_yes {l : List HoldM} {h : HoldM} {k : Nat} (hk : k < l.length) (e : l[k] = h) : hasB l h = true := List.any_eq_true.2 ⟨l[k], List.getElem_mem hk, by simp [e]⟩
theorem has_next {l : List HoldM} {h x : HoldM} {k : Nat} (hk : k < l.length) (e : l[k] = x) (hf : hasB (l.take k) h = false) (hne : x ≠ h) : hasB (l.take (k + 1)) h = false := by
  unfold hasB at hf ⊢
  rw [List.take_succ_eq_append_getElem hk, List.any_append, hf, e]
  simp [hne]
theorem has_all {l : List HoldM} {h : HoldM} {k n : Nat} (hl : l.length = n) (hk : k = n) (hf : hasB (l.take k) h = false) : hasB l h = false := by
  rwa [hk, ← hl, List.take_length] at hf
theorem hasB_iff {l : List HoldM} {h : HoldM} : hasB l h = true ↔ h ∈ l := by
  unfold hasB
  rw [List.any_eq_true]
  constructor
  · rintro ⟨x, hx, he⟩
    rw [← of_decide_eq_true he]
    exact hx
  · intro hx
    exact ⟨h, hx, by simp⟩

set_option maxRecDepth 100000 in
set_option maxHeartbeats 2000000 in
theorem has_law (A : Option Addr) (n c : Nat) (l : List HoldM) (ka la ha ma : Int) (w : World) (hA : LiesH w w.heap.size A n l) (hn : n ≤ maxLen) :
    Calls Try.prog 13 #[.slice A n c, .agg #[.int .i64 ka, .int .i64 la, .int .i64 ha, .int .i8 ma]] w fun e w' => e = .returned (.bool (hasB l ⟨ka, ⟨la, ha⟩, ma⟩)) ∧ Below w.heap.size w w' := by
  have HL : Hid (l.length = n) := hA.1
  unfold maxLen at hn
  obtain ⟨W0, hW⟩ : ∃ W0, W0 = w.alloc (.cells #[.int .i64 ka, .int .i64 la, .int .i64 ha, .int .i8 ma] 43) := ⟨_, rfl⟩
  have hbw : Below w.heap.size w W0 := hW ▸ one_new _ _
  have p0 : Blk W0 w.heap.size #[.int .i64 ka, .int .i64 la, .int .i64 ha, .int .i8 ma] 43 := hW ▸ Blk.new w _ _
  have HA : Hid (∀ W, Below W0.heap.size W0 W → LiesH W W.heap.size A n l) := fun W h => hA.below (below_then hbw h)
  have hp := p0.lt
  clear hA
  go_enter Try.func13, Try.ntmps13
  go_wp2_with fail
  rw [← hW]
  clear hW
  go_loopw [5] (fun i wr => ∃ k : Nat, k ≤ n ∧ i = .int .i64 k ∧ Below W0.heap.size W0 wr ∧ Hid (hasB (l.take k) ⟨ka, ⟨la, ha⟩, ma⟩ = false)) (fun i _ => n - (intOf i).toNat)
  case atStart => exact ⟨0, Nat.zero_le _, rfl, Below.refl _ _, rfl⟩
  case round =>
    obtain ⟨k, hk, rfl, hb, HF⟩ := hrel
    obtain ⟨b0, b1, b2, b3⟩ := hold_cells (p0.below hb hp)
    by_cases hlt : k < n
    · have hkl : k < l.length := by rw [HL.out]; exact hlt
      obtain ⟨ad, e1, had, c0, c1, c2, c3⟩ := hol_cells (HA.out _ hb) hlt hkl
      subst e1
      obtain ⟨kx, lx, hx, mx, hxx⟩ : ∃ kx lx hx' mx, l[k] = (⟨kx, ⟨lx, hx'⟩, mx⟩ : HoldM) := ⟨_, _, _, _, rfl⟩
      have HX : Hid (∃ h : k < l.length, l[k] = (⟨kx, ⟨lx, hx⟩, mx⟩ : HoldM)) := ⟨hkl, hxx⟩
      rw [hxx] at c0 c1 c2 c3
      clear hxx hkl
      by_cases f0 : kx = ka
      · subst f0
        by_cases f1 : lx = la
        · subst f1
          by_cases f2 : hx = ha
          · subst f2
            by_cases f3 : mx = ma
            · subst f3
              have HO : Hid (hasB l ⟨kx, ⟨lx, hx⟩, mx⟩ = true) := has_yes HX.out.1 HX.out.2
              clear HF
              go_upto_region 4 with fail
              go_quiet (fail)
              go_wp2_with fail
              go_ret
              exact ⟨by rw [HO.out] <;> rfl, below_then hbw (hb.trans (drewN_below _ _ _))⟩
            · have HF' := Lib.hid (has_next HX.out.1 HX.out.2 HF.out (by simp only [ne_eq, HoldM.mk.injEq, SpanM.mk.injEq]; intro hh; first | exact f3 hh.1 | exact f3 hh.2.1.1 | exact f3 hh.2.1.2 | exact f3 hh.2.2))
              go_upto_region 4 with fail
              go_quiet (fail)
              go_wp2_with fail
              go_roundw
              case rel => exact ⟨k + 1, by omega, by go_num, hb.trans (drewN_below _ _ _), HF'⟩
              case measure => simp [intOf]; omega
          · have HF' := Lib.hid (has_next HX.out.1 HX.out.2 HF.out (by simp only [ne_eq, HoldM.mk.injEq, SpanM.mk.injEq]; intro hh; first | exact f2 hh.1 | exact f2 hh.2.1.1 | exact f2 hh.2.1.2 | exact f2 hh.2.2))
            go_upto_region 4 with fail
            go_quiet (fail)
            go_wp2_with fail
            go_roundw
            case rel => exact ⟨k + 1, by omega, by go_num, hb.trans (drewN_below _ _ _), HF'⟩
            case measure => simp [intOf]; omega
        · have HF' := Lib.hid (has_next HX.out.1 HX.out.2 HF.out (by simp only [ne_eq, HoldM.mk.injEq, SpanM.mk.injEq]; intro hh; first | exact f1 hh.1 | exact f1 hh.2.1.1 | exact f1 hh.2.1.2 | exact f1 hh.2.2))
          go_upto_region 4 with fail
          go_quiet (fail)
          go_wp2_with fail
          go_roundw
          case rel => exact ⟨k + 1, by omega, by go_num, hb.trans (drewN_below _ _ _), HF'⟩
          case measure => simp [intOf]; omega
      · have HF' := Lib.hid (has_next HX.out.1 HX.out.2 HF.out (by simp only [ne_eq, HoldM.mk.injEq, SpanM.mk.injEq]; intro hh; first | exact f0 hh.1 | exact f0 hh.2.1.1 | exact f0 hh.2.1.2 | exact f0 hh.2.2))
        go_upto_region 4 with fail
        go_quiet (fail)
        go_wp2_with fail
        go_roundw
        case rel => exact ⟨k + 1, by omega, by go_num, hb.trans (drewN_below _ _ _), HF'⟩
        case measure => simp [intOf]; omega
    · have HO : Hid (hasB l ⟨ka, ⟨la, ha⟩, ma⟩ = false) := has_all HL.out (by omega : k = n) HF.out
      have hkn : k = n := by omega
      clear hlt HF
      go_wp2_with fail
      go_ret
      exact ⟨by rw [HO.out] <;> rfl, below_then hbw hb⟩

end Go.Proofs.Ytjknloaolennoaa
