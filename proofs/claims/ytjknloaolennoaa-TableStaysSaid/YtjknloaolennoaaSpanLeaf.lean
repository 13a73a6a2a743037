/-
  span: spans and holds by themselves (within, has, overlaps, of, shared, own, may, with, covers), and the document's: by contract.
-/
import Derived.Test.YtjknloaolennoaaSpanAt
namespace Go.Proofs.Ytjknloaolennoaa
open Go.RowKit
set_option linter.unusedVariables false
set_option linter.unusedSimpArgs false

theorem hold_cells {w : World} {q : Nat} {a b c d : Int} {T : TypeId} (p : Blk w q #[.int .i64 a, .int .i64 b, .int .i64 c, .int .i8 d] T) :
    w.cell? ⟨q, 0, none⟩ = some (.int .i64 a) ∧ w.cell? ⟨q, 1, none⟩ = some (.int .i64 b) ∧ w.cell? ⟨q, 2, none⟩ = some (.int .i64 c) ∧ w.cell? ⟨q, 3, none⟩ = some (.int .i8 d) :=
  ⟨p.cell 0 _ rfl, p.cell 1 _ rfl, p.cell 2 _ rfl, p.cell 3 _ rfl⟩
theorem span_cells {w : World} {q : Nat} {a b : Int} {T : TypeId} (p : Blk w q #[.int .i64 a, .int .i64 b] T) : w.cell? ⟨q, 0, none⟩ = some (.int .i64 a) ∧ w.cell? ⟨q, 1, none⟩ = some (.int .i64 b) :=
  ⟨p.cell 0 _ rfl, p.cell 1 _ rfl⟩
theorem one_new (w : World) (o : Obj) : Below w.heap.size w (w.alloc o) := (Below.refl _ _).alloc (Nat.le_refl _) _
theorem two_new (w : World) (o p : Obj) : Below w.heap.size w ((w.alloc o).alloc p) := ((Below.refl _ _).alloc (Nat.le_refl _) _).alloc (by simp) _

set_option maxRecDepth 100000 in
theorem overlaps_any (la ha lb hb : Int) (w : World) :
    Calls Try.prog 78 #[.agg #[.int .i64 la, .int .i64 ha], .agg #[.int .i64 lb, .int .i64 hb]] w fun e w' => e = .returned (.bool (sOv ⟨la, ha⟩ ⟨lb, hb⟩)) ∧ Below w.heap.size w w' := by
  go_enter Try.func78, Try.ntmps78
  go_wp2_with fail
  all_goals
    go_ret
    exact ⟨ret_bool (by rw [Bool.eq_iff_iff, decide_eq_true_eq, s_ov_iff]; simp only; omega), two_new _ _ _⟩

set_option maxRecDepth 100000 in
theorem of_any (k lo hi m : Int) (w : World) :
    Calls Try.prog 67 #[.agg #[.int .i64 k, .int .i64 lo, .int .i64 hi, .int .i8 m]] w fun e w' => e = .returned (.agg #[.int .i64 lo, .int .i64 hi, .int .i64 k, .int .i8 m]) ∧ Below w.heap.size w w' := by
  have q : Blk ((w.alloc (.cells #[.int .i64 k, .int .i64 lo, .int .i64 hi, .int .i8 m] 43)).alloc (.cells #[.int .i64 lo, .int .i64 hi, .int .i64 k, .int .i8 m] 94)) (w.heap.size + 1) #[.int .i64 lo, .int .i64 hi, .int .i64 k, .int .i8 m] 94 := by
    have h := Blk.new (w.alloc (.cells #[.int .i64 k, .int .i64 lo, .int .i64 hi, .int .i8 m] 43)) #[.int .i64 lo, .int .i64 hi, .int .i64 k, .int .i8 m] 94
    simpa using h
  go_enter Try.func67, Try.ntmps67
  go_wp2_with fail
  exact bodyPost_ret (results_cell (cs := [.int .i64 lo, .int .i64 hi, .int .i64 k, .int .i8 m]) Try.results67 (by rfl) q.range Try.underlying94 rfl (by kernel_rfl)) rfl ⟨rfl, two_new _ _ _⟩

set_option maxRecDepth 100000 in
theorem shared_any (k lo hi m : Int) (w : World) :
    Calls Try.prog 74 #[.agg #[.int .i64 lo, .int .i64 hi, .int .i64 k, .int .i8 m]] w fun e w' => e = .returned (.bool (m == 1)) ∧ Below w.heap.size w w' := by
  go_enter Try.func74, Try.ntmps74
  go_wp2_with fail
  go_ret
  exact ⟨rfl, one_new _ _⟩

set_option maxRecDepth 100000 in
theorem own_any (k lo hi m : Int) (w : World) :
    Calls Try.prog 75 #[.agg #[.int .i64 lo, .int .i64 hi, .int .i64 k, .int .i8 m]] w fun e w' => e = .returned (.bool (m == 2)) ∧ Below w.heap.size w w' := by
  go_enter Try.func75, Try.ntmps75
  go_wp2_with fail
  go_ret
  exact ⟨rfl, one_new _ _⟩

set_option maxRecDepth 100000 in
theorem within_any (lo hi B : Int) (w : World) :
    Calls Try.prog 73 #[.agg #[.int .i64 lo, .int .i64 hi], .int .i64 B] w fun e w' => e = .returned (.bool (sMayB B ⟨lo, hi⟩)) ∧ Below w.heap.size w w' := by
  by_cases h0 : 0 ≤ lo
  · by_cases h1 : lo ≤ hi
    · by_cases h2 : hi < B
      · have HV : Hid ((sMayB B ⟨lo, hi⟩) = true) := by show _ = _; simp [sMayB, sOv, h0, h1, h2]
        go_enter Try.func73, Try.ntmps73
        go_wp2_with fail
        go_ret
        exact ⟨by rw [HV.out] <;> rfl, one_new ..⟩
      · have HV : Hid ((sMayB B ⟨lo, hi⟩) = false) := by show _ = _; simp [sMayB, sOv, h2]
        have hd : decide (hi < B) = false := decide_eq_false h2
        clear h2
        go_enter Try.func73, Try.ntmps73
        go_wp2_with fail
        go_ret
        exact ⟨by rw [HV.out] <;> rfl, one_new ..⟩
    · have HV : Hid ((sMayB B ⟨lo, hi⟩) = false) := by show _ = _; simp [sMayB, sOv, h1]
      have hd : decide (lo ≤ hi) = false := decide_eq_false h1
      clear h1
      go_enter Try.func73, Try.ntmps73
      go_wp2_with fail
      go_ret
      exact ⟨by rw [HV.out] <;> rfl, one_new ..⟩
  · have HV : Hid ((sMayB B ⟨lo, hi⟩) = false) := by show _ = _; simp [sMayB, sOv, h0]
    have hd : decide (0 ≤ lo) = false := decide_eq_false h0
    clear h0
    go_enter Try.func73, Try.ntmps73
    go_wp2_with fail
    go_ret
    exact ⟨by rw [HV.out] <;> rfl, one_new ..⟩


set_option maxRecDepth 100000 in
theorem refSMay_any (N S B P J L E T lo hi : Int) (w : World) :
    Calls Try.prog 36 #[.agg #[.int .i64 N, .int .i64 S, .int .i64 B, .int .i64 P, .int .i64 J, .int .i64 L, .int .i64 E, .int .i64 T], .agg #[.int .i64 lo, .int .i64 hi]] w fun e w' => e = .returned (.bool (sMayB B ⟨lo, hi⟩)) ∧ Below w.heap.size w w' := by
  by_cases h0 : 0 ≤ lo
  · by_cases h1 : lo ≤ hi
    · by_cases h2 : hi < B
      · have HV : Hid ((sMayB B ⟨lo, hi⟩) = true) := by show _ = _; simp [sMayB, sOv, h0, h1, h2]
        go_enter Try.func36, Try.ntmps36
        go_wp2_with fail
        go_ret
        exact ⟨by rw [HV.out] <;> rfl, two_new ..⟩
      · have HV : Hid ((sMayB B ⟨lo, hi⟩) = false) := by show _ = _; simp [sMayB, sOv, h2]
        have hd : decide (hi < B) = false := decide_eq_false h2
        clear h2
        go_enter Try.func36, Try.ntmps36
        go_wp2_with fail
        go_ret
        exact ⟨by rw [HV.out] <;> rfl, two_new ..⟩
    · have HV : Hid ((sMayB B ⟨lo, hi⟩) = false) := by show _ = _; simp [sMayB, sOv, h1]
      have hd : decide (lo ≤ hi) = false := decide_eq_false h1
      clear h1
      go_enter Try.func36, Try.ntmps36
      go_wp2_with fail
      go_ret
      exact ⟨by rw [HV.out] <;> rfl, two_new ..⟩
  · have HV : Hid ((sMayB B ⟨lo, hi⟩) = false) := by show _ = _; simp [sMayB, sOv, h0]
    have hd : decide (0 ≤ lo) = false := decide_eq_false h0
    clear h0
    go_enter Try.func36, Try.ntmps36
    go_wp2_with fail
    go_ret
    exact ⟨by rw [HV.out] <;> rfl, two_new ..⟩

set_option maxRecDepth 100000 in
theorem refOverlap_any (la ha lb hb : Int) (w : World) :
    Calls Try.prog 27 #[.agg #[.int .i64 la, .int .i64 ha], .agg #[.int .i64 lb, .int .i64 hb]] w fun e w' => e = .returned (.bool (sOv ⟨la, ha⟩ ⟨lb, hb⟩)) ∧ Below w.heap.size w w' := by
  by_cases h0 : la ≤ ha
  · by_cases h1 : lb ≤ hb
    · by_cases h2 : la ≤ hb
      · by_cases h3 : lb ≤ ha
        · have HV : Hid ((sOv ⟨la, ha⟩ ⟨lb, hb⟩) = true) := by show _ = _; simp [sMayB, sOv, h0, h1, h2, h3]
          go_enter Try.func27, Try.ntmps27
          go_wp2_with fail
          go_ret
          exact ⟨by rw [HV.out] <;> rfl, two_new ..⟩
        · have HV : Hid ((sOv ⟨la, ha⟩ ⟨lb, hb⟩) = false) := by show _ = _; simp [sMayB, sOv, h3]
          have hd : decide (lb ≤ ha) = false := decide_eq_false h3
          clear h3
          go_enter Try.func27, Try.ntmps27
          go_wp2_with fail
          go_ret
          exact ⟨by rw [HV.out] <;> rfl, two_new ..⟩
      · have HV : Hid ((sOv ⟨la, ha⟩ ⟨lb, hb⟩) = false) := by show _ = _; simp [sMayB, sOv, h2]
        have hd : decide (la ≤ hb) = false := decide_eq_false h2
        clear h2
        go_enter Try.func27, Try.ntmps27
        go_wp2_with fail
        go_ret
        exact ⟨by rw [HV.out] <;> rfl, two_new ..⟩
    · have HV : Hid ((sOv ⟨la, ha⟩ ⟨lb, hb⟩) = false) := by show _ = _; simp [sMayB, sOv, h1]
      have hd : decide (lb ≤ hb) = false := decide_eq_false h1
      clear h1
      go_enter Try.func27, Try.ntmps27
      go_wp2_with fail
      go_ret
      exact ⟨by rw [HV.out] <;> rfl, two_new ..⟩
  · have HV : Hid ((sOv ⟨la, ha⟩ ⟨lb, hb⟩) = false) := by show _ = _; simp [sMayB, sOv, h0]
    have hd : decide (la ≤ ha) = false := decide_eq_false h0
    clear h0
    go_enter Try.func27, Try.ntmps27
    go_wp2_with fail
    go_ret
    exact ⟨by rw [HV.out] <;> rfl, two_new ..⟩

end Go.Proofs.Ytjknloaolennoaa
