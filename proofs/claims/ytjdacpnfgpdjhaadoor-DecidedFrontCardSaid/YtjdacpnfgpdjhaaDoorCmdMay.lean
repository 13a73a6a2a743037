/-
  The program's commands: whether a command may be: by contract.
-/
import Derived.Test.YtjdacpnfgpdjhaaDoorCmdLeaf
import Derived.Test.YtjdacpnfgpdjhaaDoorCmdRefMay
namespace Go.Proofs.YtjdacpnfgpdjhaaDoor
open Go.RowKit
set_option linter.unusedVariables false
set_option linter.unusedSimpArgs false

def nameB (k b s : Int) : Bool := withinB k 0 5 && (cKey b && withinB s 1 2147483648)
def spanMB (k lo hi : Int) : Bool := if hasSpanB k = true then withinB lo 0 hi && decide (hi < 64) else (lo == 0) && (hi == 0)
def modeMB (k m : Int) : Bool := if hasModeB k = true then (m == 1) || (m == 2) else (m == 0)
def deadMB (k d : Int) : Bool := if hasDeadB k = true then cKey d else (d == 0)
def wasMB (k a : Int) : Bool := (a == 0) || (hasWasB k && cKey a)
theorem may_parts (k b s d a lo hi m : Int) : cMay ⟨k, b, s, d, a, lo, hi, m⟩ = (nameB k b s && (spanMB k lo hi && (modeMB k m && (deadMB k d && wasMB k a)))) := by
  have h0 : withinB k 0 5 = true ↔ (k = 0 ∨ k = 1) ∨ k = 2 ∨ k = 3 ∨ k = 4 ∨ k = 5 := by simp [withinB]; omega
  rw [Bool.eq_iff_iff, cMay_iff]
  constructor
  · rintro ⟨hb, hs, hk⟩
    have hs' : withinB s 1 2147483648 = true := by simp only [withinB, Bool.and_eq_true, decide_eq_true_eq]; exact hs
    have fin : withinB k 0 5 = true → (spanMB k lo hi && (modeMB k m && (deadMB k d && wasMB k a))) = true → (nameB k b s && (spanMB k lo hi && (modeMB k m && (deadMB k d && wasMB k a)))) = true := by
      intro h1 h2
      simp only [nameB]
      simp only at hb
      rw [h1, hb, hs', h2]
      rfl
    rcases hk with ⟨h1 | h1, h2, h3, h4, h5, h6⟩ | ⟨h1, h2, h3, h4, h5⟩ | ⟨h1, h2, h3, h4, h5⟩ | ⟨h1, h2, h3, h4, h5, h6⟩ | ⟨h1, h2, h3, h4, h5, h6⟩
    · simp only at h1 h2 h3 h4 h5 h6
      subst h1 h2 h3 h4 h5 h6
      exact fin (by decide) (by decide)
    · simp only at h1 h2 h3 h4 h5 h6
      subst h1 h2 h3 h4 h5 h6
      exact fin (by decide) (by decide)
    · simp only at h1 h2 h3 h4 h5
      subst h1 h2 h3
      obtain ⟨l1, l2, l3⟩ := h4
      refine fin (by decide) ?_
      have e1 : spanMB 2 lo hi = true := by simp [spanMB, hasSpanB, withinB]; omega
      have e2 : modeMB 2 m = true := by simp [modeMB, hasModeB]; exact h5
      rw [e1, e2]; decide
    · simp only at h1 h2 h3 h4 h5
      subst h1 h2 h3 h5
      obtain ⟨l1, l2, l3⟩ := h4
      refine fin (by decide) ?_
      have e1 : spanMB 3 lo hi = true := by simp [spanMB, hasSpanB, withinB]; omega
      rw [e1]; decide
    · simp only at h1 h2 h3 h4 h5 h6
      subst h1 h4 h5 h6
      refine fin (by decide) ?_
      have e1 : deadMB 4 d = true := h2
      have e2 : wasMB 4 a = true := by
        rcases h3 with rfl | h3
        · rfl
        · simp [wasMB, hasWasB, h3]
      rw [e1, e2]; decide
    · simp only at h1 h2 h3 h4 h5 h6
      subst h1 h3 h4 h5 h6
      refine fin (by decide) ?_
      have e1 : deadMB 5 d = true := h2
      rw [e1]; decide
  · intro h
    simp only [nameB, Bool.and_eq_true] at h
    obtain ⟨⟨h1, h2, h3⟩, h4, h5, h6, h7⟩ := h
    have hs : 1 ≤ s ∧ s ≤ 2147483648 := by simpa only [withinB, Bool.and_eq_true, decide_eq_true_eq] using h3
    refine ⟨h2, hs, ?_⟩
    have no : ∀ {x : Int}, (x == 0) = true → x = 0 := fun h => by simpa using h
    have wno : hasWasB k = false → a = 0 := fun hw => by rw [wasMB, hw] at h7; simpa using h7
    have sno : hasSpanB k = false → lo = 0 ∧ hi = 0 := fun hw => by rw [spanMB, if_neg (by rw [hw]; simp)] at h4; simpa using h4
    have mno : hasModeB k = false → m = 0 := fun hw => by rw [modeMB, if_neg (by rw [hw]; simp)] at h5; simpa using h5
    have dno : hasDeadB k = false → d = 0 := fun hw => by rw [deadMB, if_neg (by rw [hw]; simp)] at h6; simpa using h6
    have syes : hasSpanB k = true → cSpan lo hi := fun hw => by
      rw [spanMB, if_pos hw] at h4
      simp only [withinB, Bool.and_eq_true, decide_eq_true_eq] at h4
      exact ⟨h4.1.1, h4.1.2, h4.2⟩
    rcases h0.1 h1 with hk | hk | hk | hk | hk
    · exact .inl ⟨hk, dno (by rcases hk with rfl | rfl <;> rfl), wno (by rcases hk with rfl | rfl <;> rfl), (sno (by rcases hk with rfl | rfl <;> rfl)).1, (sno (by rcases hk with rfl | rfl <;> rfl)).2, mno (by rcases hk with rfl | rfl <;> rfl)⟩
    · subst hk
      exact .inr (.inl ⟨rfl, dno rfl, wno rfl, syes rfl, by simpa [modeMB, hasModeB] using h5⟩)
    · subst hk
      exact .inr (.inr (.inl ⟨rfl, dno rfl, wno rfl, syes rfl, mno rfl⟩))
    · subst hk
      refine .inr (.inr (.inr (.inl ⟨rfl, h6, ?_, (sno rfl).1, (sno rfl).2, mno rfl⟩)))
      simpa [wasMB, hasWasB] using h7
    · subst hk
      exact .inr (.inr (.inr (.inr ⟨rfl, h6, wno rfl, (sno rfl).1, (sno rfl).2, mno rfl⟩)))

set_option maxRecDepth 100000 in
theorem nameMay_any (k b s d a lo hi m : Int) (w : World) : Calls Tryd.prog 72 #[.agg #[.int .i8 k, .int .i64 b, .int .i64 s, .int .i64 d, .int .i64 a, .int .i64 lo, .int .i64 hi, .int .i8 m]] w fun e w' => e = .returned (.bool (nameB k b s)) ∧ Below w.heap.size w w' := by
  have p0 := Blk.new w #[.int .i8 k, .int .i64 b, .int .i64 s, .int .i64 d, .int .i64 a, .int .i64 lo, .int .i64 hi, .int .i8 m] 74
  have b0 := boxed_new w (.cells #[.int .i8 k, .int .i64 b, .int .i64 s, .int .i64 d, .int .i64 a, .int .i64 lo, .int .i64 hi, .int .i8 m] 74)
  by_cases h0 : 0 ≤ k
  · by_cases h1 : k ≤ 5
    · have HV : Hid (nameB k b s = (cKey b && withinB s 1 2147483648)) := by show _ = _; simp [nameB, withinB, h0, h1]
      have d0 : decide (0 ≤ k) = true := decide_eq_true h0
      have d1 : decide (k ≤ 5) = true := decide_eq_true h1
      clear h0 h1
      go_enter Tryd.func72, Tryd.ntmps72
      cases hk : cKey b with
      | false =>
        have HK := Lib.hid hk
        go_wp2_with fail
        refine (cKey_any b _).mono ?_
        rintro e w1 ⟨rfl, rfl⟩
        rw [hk]
        clear hk
        go_wp2_with fail
        go_ret
        exact ⟨by rw [HV.out, HK.out] <;> rfl, b0⟩
      | true =>
        have HK := Lib.hid hk
        go_wp2_with fail
        refine (cKey_any b _).mono ?_
        rintro e w1 ⟨rfl, rfl⟩
        rw [hk]
        clear hk
        go_wp2_with fail
        refine (cwithin_any s 1 2147483648 _).mono ?_
        rintro e w1 ⟨rfl, rfl⟩
        obtain ⟨r, hr⟩ : ∃ r, Hid (withinB s 1 2147483648 = r) := ⟨_, rfl⟩
        rw [hr.out]
        go_wp2_with fail
        go_ret
        exact ⟨by rw [HV.out, HK.out, hr.out] <;> rfl, b0⟩
    · have HV : Hid (nameB k b s = false) := by show _ = _; simp [nameB, withinB, h1]
      have d0 : decide (0 ≤ k) = true := decide_eq_true h0
      have d1 : decide (k ≤ 5) = false := decide_eq_false h1
      clear h0 h1
      go_enter Tryd.func72, Tryd.ntmps72
      go_wp2_with fail
      go_ret
      exact ⟨by rw [HV.out] <;> rfl, b0⟩
  · have HV : Hid (nameB k b s = false) := by show _ = _; simp [nameB, withinB, h0]
    have d0 : decide (0 ≤ k) = false := decide_eq_false h0
    clear h0
    go_enter Tryd.func72, Tryd.ntmps72
    go_wp2_with fail
    go_ret
    exact ⟨by rw [HV.out] <;> rfl, b0⟩

set_option maxRecDepth 100000 in
theorem spanMay_any (k b s d a lo hi m : Int) (w : World) : Calls Tryd.prog 73 #[.agg #[.int .i8 k, .int .i64 b, .int .i64 s, .int .i64 d, .int .i64 a, .int .i64 lo, .int .i64 hi, .int .i8 m]] w fun e w' => e = .returned (.bool (spanMB k lo hi)) ∧ Below w.heap.size w w' := by
  have p0 := Blk.new w #[.int .i8 k, .int .i64 b, .int .i64 s, .int .i64 d, .int .i64 a, .int .i64 lo, .int .i64 hi, .int .i8 m] 74
  have b0 := boxed_new w (.cells #[.int .i8 k, .int .i64 b, .int .i64 s, .int .i64 d, .int .i64 a, .int .i64 lo, .int .i64 hi, .int .i8 m] 74)
  go_enter Tryd.func73, Tryd.ntmps73
  go_wp2_with fail
  refine (hasSpan_any k b s d a lo hi m _).mono ?_
  rintro e w1 ⟨rfl, hb1⟩
  have p1 := p0.below hb1 p0.lt
  have b1 := below_then b0 hb1
  obtain ⟨c0, c1, c2, c3, c4, c5, c6, c7⟩ := cmd_cells p1
  have l1 := p1.lt
  clear p0 b0 hb1
  cases hh : hasSpanB k with
  | false =>
    have HV : Hid (spanMB k lo hi = ((lo == 0) && (hi == 0))) := if_neg (by rw [hh]; simp)
    clear hh
    go_wp2_with fail
    all_goals
      go_ret
      exact ⟨ret_bool (by rw [HV.out]; simp [*]), b1⟩
  | true =>
    have HV : Hid (spanMB k lo hi = (withinB lo 0 hi && decide (hi < 64))) := if_pos hh
    clear hh
    go_wp2_with fail
    refine (cwithin_any lo 0 hi _).mono ?_
    rintro e w2 ⟨rfl, rfl⟩
    cases hr : withinB lo 0 hi with
    | false =>
      have HR := Lib.hid hr
      clear hr
      go_wp2_with fail
      go_ret
      exact ⟨by rw [HV.out, HR.out] <;> rfl, b1⟩
    | true =>
      have HR := Lib.hid hr
      clear hr
      go_wp2_with fail
      go_ret
      exact ⟨by rw [HV.out, HR.out] <;> rfl, b1⟩

set_option maxRecDepth 100000 in
theorem modeMay_any (k b s d a lo hi m : Int) (w : World) : Calls Tryd.prog 74 #[.agg #[.int .i8 k, .int .i64 b, .int .i64 s, .int .i64 d, .int .i64 a, .int .i64 lo, .int .i64 hi, .int .i8 m]] w fun e w' => e = .returned (.bool (modeMB k m)) ∧ Below w.heap.size w w' := by
  have p0 := Blk.new w #[.int .i8 k, .int .i64 b, .int .i64 s, .int .i64 d, .int .i64 a, .int .i64 lo, .int .i64 hi, .int .i8 m] 74
  have b0 := boxed_new w (.cells #[.int .i8 k, .int .i64 b, .int .i64 s, .int .i64 d, .int .i64 a, .int .i64 lo, .int .i64 hi, .int .i8 m] 74)
  go_enter Tryd.func74, Tryd.ntmps74
  go_wp2_with fail
  refine (hasMode_any k b s d a lo hi m _).mono ?_
  rintro e w1 ⟨rfl, hb1⟩
  have p1 := p0.below hb1 p0.lt
  have b1 := below_then b0 hb1
  obtain ⟨c0, c1, c2, c3, c4, c5, c6, c7⟩ := cmd_cells p1
  have l1 := p1.lt
  clear p0 b0 hb1
  cases hh : hasModeB k with
  | false =>
    have HV : Hid (modeMB k m = (m == 0)) := if_neg (by rw [hh]; simp)
    clear hh
    go_wp2_with fail
    go_ret
    exact ⟨by rw [HV.out] <;> rfl, b1⟩
  | true =>
    have HV : Hid (modeMB k m = ((m == 1) || (m == 2))) := if_pos hh
    clear hh
    cases hr : m == 1 with
    | false =>
      have HR := Lib.hid hr
      go_wp2_with fail
      go_ret
      exact ⟨by rw [HV.out, HR.out] <;> rfl, b1⟩
    | true =>
      have HR := Lib.hid hr
      go_wp2_with fail
      go_ret
      exact ⟨by rw [HV.out, HR.out] <;> rfl, b1⟩

set_option maxRecDepth 100000 in
theorem deadMay_any (k b s d a lo hi m : Int) (w : World) : Calls Tryd.prog 75 #[.agg #[.int .i8 k, .int .i64 b, .int .i64 s, .int .i64 d, .int .i64 a, .int .i64 lo, .int .i64 hi, .int .i8 m]] w fun e w' => e = .returned (.bool (deadMB k d)) ∧ Below w.heap.size w w' := by
  have p0 := Blk.new w #[.int .i8 k, .int .i64 b, .int .i64 s, .int .i64 d, .int .i64 a, .int .i64 lo, .int .i64 hi, .int .i8 m] 74
  have b0 := boxed_new w (.cells #[.int .i8 k, .int .i64 b, .int .i64 s, .int .i64 d, .int .i64 a, .int .i64 lo, .int .i64 hi, .int .i8 m] 74)
  go_enter Tryd.func75, Tryd.ntmps75
  go_wp2_with fail
  refine (hasDead_any k b s d a lo hi m _).mono ?_
  rintro e w1 ⟨rfl, hb1⟩
  have p1 := p0.below hb1 p0.lt
  have b1 := below_then b0 hb1
  obtain ⟨c0, c1, c2, c3, c4, c5, c6, c7⟩ := cmd_cells p1
  have l1 := p1.lt
  clear p0 b0 hb1
  cases hh : hasDeadB k with
  | false =>
    have HV : Hid (deadMB k d = (d == 0)) := if_neg (by rw [hh]; simp)
    clear hh
    go_wp2_with fail
    go_ret
    exact ⟨by rw [HV.out] <;> rfl, b1⟩
  | true =>
    have HV : Hid (deadMB k d = cKey d) := if_pos hh
    clear hh
    go_wp2_with fail
    refine (cKey_any d _).mono ?_
    rintro e w2 ⟨rfl, rfl⟩
    obtain ⟨r, hr⟩ : ∃ r, Hid (cKey d = r) := ⟨_, rfl⟩
    rw [hr.out]
    go_wp2_with fail
    go_ret
    exact ⟨by rw [HV.out, hr.out] <;> rfl, b1⟩

set_option maxRecDepth 100000 in
theorem wasMay_any (k b s d a lo hi m : Int) (w : World) : Calls Tryd.prog 76 #[.agg #[.int .i8 k, .int .i64 b, .int .i64 s, .int .i64 d, .int .i64 a, .int .i64 lo, .int .i64 hi, .int .i8 m]] w fun e w' => e = .returned (.bool (wasMB k a)) ∧ Below w.heap.size w w' := by
  have p0 := Blk.new w #[.int .i8 k, .int .i64 b, .int .i64 s, .int .i64 d, .int .i64 a, .int .i64 lo, .int .i64 hi, .int .i8 m] 74
  have b0 := boxed_new w (.cells #[.int .i8 k, .int .i64 b, .int .i64 s, .int .i64 d, .int .i64 a, .int .i64 lo, .int .i64 hi, .int .i8 m] 74)
  go_enter Tryd.func76, Tryd.ntmps76
  cases ha : a == 0 with
  | true =>
    have HV : Hid (wasMB k a = true) := by show _ = _; unfold wasMB; rw [ha]; rfl
    go_wp2_with fail
    go_ret
    exact ⟨by rw [HV.out] <;> rfl, b0⟩
  | false =>
    have HV : Hid (wasMB k a = (hasWasB k && cKey a)) := by show _ = _; unfold wasMB; rw [ha]; rfl
    go_wp2_with fail
    refine (hasWas_any k b s d a lo hi m _).mono ?_
    rintro e w1 ⟨rfl, hb1⟩
    have p1 := p0.below hb1 p0.lt
    have b1 := below_then b0 hb1
    obtain ⟨c0, c1, c2, c3, c4, c5, c6, c7⟩ := cmd_cells p1
    have l1 := p1.lt
    clear p0 b0 hb1
    cases hh : hasWasB k with
    | false =>
      have HH := Lib.hid hh
      clear hh
      go_wp2_with fail
      go_ret
      exact ⟨by rw [HV.out, HH.out] <;> rfl, b1⟩
    | true =>
      have HH := Lib.hid hh
      clear hh
      go_wp2_with fail
      refine (cKey_any a _).mono ?_
      rintro e w2 ⟨rfl, rfl⟩
      obtain ⟨r, hr⟩ : ∃ r, Hid (cKey a = r) := ⟨_, rfl⟩
      rw [hr.out]
      go_wp2_with fail
      go_ret
      exact ⟨by rw [HV.out, HH.out, hr.out] <;> rfl, b1⟩

set_option maxRecDepth 100000 in
theorem mayc_any (k b s d a lo hi m : Int) (w : World) : Calls Tryd.prog 56 #[.agg #[.int .i8 k, .int .i64 b, .int .i64 s, .int .i64 d, .int .i64 a, .int .i64 lo, .int .i64 hi, .int .i8 m]] w fun e w' => e = .returned (.bool (cMay ⟨k, b, s, d, a, lo, hi, m⟩)) ∧ Below w.heap.size w w' := by
  have p0 := Blk.new w #[.int .i8 k, .int .i64 b, .int .i64 s, .int .i64 d, .int .i64 a, .int .i64 lo, .int .i64 hi, .int .i8 m] 74
  have b0 := boxed_new w (.cells #[.int .i8 k, .int .i64 b, .int .i64 s, .int .i64 d, .int .i64 a, .int .i64 lo, .int .i64 hi, .int .i8 m] 74)
  have HP := Lib.hid (may_parts k b s d a lo hi m)
  go_enter Tryd.func56, Tryd.ntmps56
  go_wp2_with fail
  refine (nameMay_any k b s d a lo hi m _).mono ?_
  rintro e w1 ⟨rfl, hb1⟩
  have p1 := p0.below hb1 p0.lt
  have b1 := below_then b0 hb1
  obtain ⟨c0, c1, c2, c3, c4, c5, c6, c7⟩ := cmd_cells p1
  have l1 := p1.lt
  clear p0 b0 hb1
  cases h0 : nameB k b s with
  | false =>
    have H0 := Lib.hid h0
    clear h0
    go_wp2_with fail
    go_ret
    exact ⟨by rw [HP.out, H0.out] <;> rfl, b1⟩
  | true =>
    have H0 := Lib.hid h0
    clear h0
    go_wp2_with fail
    refine (spanMay_any k b s d a lo hi m _).mono ?_
    rintro e w2 ⟨rfl, hb2⟩
    have p2 := p1.below hb2 p1.lt
    have b2 := below_then b1 hb2
    obtain ⟨c0, c1, c2, c3, c4, c5, c6, c7⟩ := cmd_cells p2
    have l2 := p2.lt
    clear p1 b1 hb2
    cases h1 : spanMB k lo hi with
    | false =>
      have H1 := Lib.hid h1
      clear h1
      go_wp2_with fail
      go_ret
      exact ⟨by rw [HP.out, H0.out, H1.out] <;> rfl, b2⟩
    | true =>
      have H1 := Lib.hid h1
      clear h1
      go_wp2_with fail
      refine (modeMay_any k b s d a lo hi m _).mono ?_
      rintro e w3 ⟨rfl, hb3⟩
      have p3 := p2.below hb3 p2.lt
      have b3 := below_then b2 hb3
      obtain ⟨c0, c1, c2, c3, c4, c5, c6, c7⟩ := cmd_cells p3
      have l3 := p3.lt
      clear p2 b2 hb3
      cases h2 : modeMB k m with
      | false =>
        have H2 := Lib.hid h2
        clear h2
        go_wp2_with fail
        go_ret
        exact ⟨by rw [HP.out, H0.out, H1.out, H2.out] <;> rfl, b3⟩
      | true =>
        have H2 := Lib.hid h2
        clear h2
        go_wp2_with fail
        refine (deadMay_any k b s d a lo hi m _).mono ?_
        rintro e w4 ⟨rfl, hb4⟩
        have p4 := p3.below hb4 p3.lt
        have b4 := below_then b3 hb4
        obtain ⟨c0, c1, c2, c3, c4, c5, c6, c7⟩ := cmd_cells p4
        have l4 := p4.lt
        clear p3 b3 hb4
        cases h3 : deadMB k d with
        | false =>
          have H3 := Lib.hid h3
          clear h3
          go_wp2_with fail
          go_ret
          exact ⟨by rw [HP.out, H0.out, H1.out, H2.out, H3.out] <;> rfl, b4⟩
        | true =>
          have H3 := Lib.hid h3
          clear h3
          go_wp2_with fail
          refine (wasMay_any k b s d a lo hi m _).mono ?_
          rintro e w5 ⟨rfl, hb5⟩
          have p5 := p4.below hb5 p4.lt
          have b5 := below_then b4 hb5
          obtain ⟨c0, c1, c2, c3, c4, c5, c6, c7⟩ := cmd_cells p5
          have l5 := p5.lt
          clear p4 b4 hb5
          obtain ⟨r, hr⟩ : ∃ r, Hid (wasMB k a = r) := ⟨_, rfl⟩
          rw [hr.out]
          go_wp2_with fail
          go_ret
          exact ⟨by rw [HP.out, H0.out, H1.out, H2.out, H3.out, hr.out] <;> rfl, b5⟩


end Go.Proofs.YtjdacpnfgpdjhaaDoor
