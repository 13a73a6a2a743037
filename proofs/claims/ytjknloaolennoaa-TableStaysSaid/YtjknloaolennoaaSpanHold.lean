/-
  span: two holds together, a hold that may be, what a hold covers; the document's: by contract.
-/
import Derived.Test.YtjknloaolennoaaSpanLeaf
import Derived.Deep.RegionWith
namespace Go.Proofs.Ytjknloaolennoaa
open Go.RowKit
set_option linter.unusedVariables false
set_option linter.unusedSimpArgs false

theorem blk2 (w : World) (A B : Array Value) (T U : TypeId) : Blk ((w.alloc (.cells A T)).alloc (.cells B U)) w.heap.size A T ∧ Blk ((w.alloc (.cells A T)).alloc (.cells B U)) (w.heap.size + 1) B U :=
  ⟨(Blk.new w A T).alloc _, by have h := Blk.new (w.alloc (.cells A T)) B U; simpa using h⟩

theorem tog_key {ka la ha ma kb lb hb mb : Int} (h : ka = kb) : sTog ⟨ka, ⟨la, ha⟩, ma⟩ ⟨kb, ⟨lb, hb⟩, mb⟩ = true := by simp [sTog, h]
theorem tog_ov {ka la ha ma kb lb hb mb : Int} (h : (ka == kb) = false) (h2 : sOv ⟨la, ha⟩ ⟨lb, hb⟩ = false) : sTog ⟨ka, ⟨la, ha⟩, ma⟩ ⟨kb, ⟨lb, hb⟩, mb⟩ = true := by simp [sTog, h2]
theorem tog_m {ka la ha ma kb lb hb mb : Int} (h : (ka == kb) = false) (h2 : sOv ⟨la, ha⟩ ⟨lb, hb⟩ = true) : sTog ⟨ka, ⟨la, ha⟩, ma⟩ ⟨kb, ⟨lb, hb⟩, mb⟩ = ((ma == 1) && (mb == 1)) := by simp [sTog, h, h2]

set_option maxRecDepth 100000 in
set_option maxHeartbeats 1000000 in
theorem with_any (ka la ha ma kb lb hb mb : Int) (w : World) :
    Calls Try.prog 72 #[.agg #[.int .i64 la, .int .i64 ha, .int .i64 ka, .int .i8 ma], .agg #[.int .i64 lb, .int .i64 hb, .int .i64 kb, .int .i8 mb]] w fun e w' => e = .returned (.bool (sTog ⟨ka, ⟨la, ha⟩, ma⟩ ⟨kb, ⟨lb, hb⟩, mb⟩)) ∧ Below w.heap.size w w' := by
  obtain ⟨p0, q0⟩ := blk2 w #[.int .i64 la, .int .i64 ha, .int .i64 ka, .int .i8 ma] #[.int .i64 lb, .int .i64 hb, .int .i64 kb, .int .i8 mb] 94 94
  have b0 := two_new w (.cells #[.int .i64 la, .int .i64 ha, .int .i64 ka, .int .i8 ma] 94) (.cells #[.int .i64 lb, .int .i64 hb, .int .i64 kb, .int .i8 mb] 94)
  by_cases hk : ka = kb
  · have HV : Hid (sTog ⟨ka, ⟨la, ha⟩, ma⟩ ⟨kb, ⟨lb, hb⟩, mb⟩ = true) := tog_key hk
    have hk' := beq_yes hk
    clear hk p0 q0
    go_enter Try.func72, Try.ntmps72
    go_wp2_with fail
    go_ret
    exact ⟨by rw [HV.out] <;> rfl, b0⟩
  · have hk' := beq_no hk
    clear hk
    go_enter Try.func72, Try.ntmps72
    go_wp2_with fail
    refine (overlaps_any la ha lb hb _).mono ?_
    rintro e w1 ⟨rfl, hb1⟩
    have p1 := p0.below hb1 p0.lt
    have q1 := q0.below hb1 q0.lt
    have b1 := below_then b0 hb1
    clear p0 q0 b0 hb1
    cases ho : sOv ⟨la, ha⟩ ⟨lb, hb⟩ with
    | false =>
      have HV : Hid (sTog ⟨ka, ⟨la, ha⟩, ma⟩ ⟨kb, ⟨lb, hb⟩, mb⟩ = true) := tog_ov hk' ho
      clear ho p1 q1
      go_wp2_with fail
      go_ret
      exact ⟨by rw [HV.out] <;> rfl, b1⟩
    | true =>
      have HV : Hid (sTog ⟨ka, ⟨la, ha⟩, ma⟩ ⟨kb, ⟨lb, hb⟩, mb⟩ = ((ma == 1) && (mb == 1))) := tog_m hk' ho
      clear ho
      obtain ⟨c0, c1, c2, c3⟩ := hold_cells p1
      go_wp2_with fail
      refine (shared_any ka la ha ma _).mono ?_
      rintro e w2 ⟨rfl, hb2⟩
      have q2 := q1.below hb2 q1.lt
      have b2 := below_then b1 hb2
      clear p1 q1 b1 hb2 c0 c1 c2 c3
      obtain ⟨d0, d1, d2, d3⟩ := hold_cells q2
      cases hm : ma == 1 with
      | false =>
        rw [hm] at HV
        clear hm d0 d1 d2 d3 q2
        go_wp2_with fail
        go_ret
        exact ⟨by rw [HV.out] <;> rfl, b2⟩
      | true =>
        rw [hm] at HV
        clear hm
        go_wp2_with fail
        refine (shared_any kb lb hb mb _).mono ?_
        rintro e w3 ⟨rfl, hb3⟩
        have b3 := below_then b2 hb3
        clear b2 hb3 q2 d0 d1 d2 d3
        obtain ⟨r, hr⟩ : ∃ r, Hid ((mb == 1) = r) := ⟨_, rfl⟩
        rw [hr.out] at HV ⊢
        go_wp2_with fail
        go_ret
        exact ⟨by rw [HV.out] <;> rfl, b3⟩

set_option maxRecDepth 100000 in
set_option maxHeartbeats 1000000 in
theorem refTogether_any (ka la ha ma kb lb hb mb : Int) (w : World) :
    Calls Try.prog 14 #[.agg #[.int .i64 ka, .int .i64 la, .int .i64 ha, .int .i8 ma], .agg #[.int .i64 kb, .int .i64 lb, .int .i64 hb, .int .i8 mb]] w fun e w' => e = .returned (.bool (sTog ⟨ka, ⟨la, ha⟩, ma⟩ ⟨kb, ⟨lb, hb⟩, mb⟩)) ∧ Below w.heap.size w w' := by
  obtain ⟨p0, q0⟩ := blk2 w #[.int .i64 ka, .int .i64 la, .int .i64 ha, .int .i8 ma] #[.int .i64 kb, .int .i64 lb, .int .i64 hb, .int .i8 mb] 43 43
  have b0 := two_new w (.cells #[.int .i64 ka, .int .i64 la, .int .i64 ha, .int .i8 ma] 43) (.cells #[.int .i64 kb, .int .i64 lb, .int .i64 hb, .int .i8 mb] 43)
  by_cases hk : ka = kb
  · have HV : Hid (sTog ⟨ka, ⟨la, ha⟩, ma⟩ ⟨kb, ⟨lb, hb⟩, mb⟩ = true) := tog_key hk
    have hk' := beq_yes hk
    clear hk p0 q0
    go_enter Try.func14, Try.ntmps14
    go_wp2_with fail
    go_ret
    exact ⟨by rw [HV.out] <;> rfl, b0⟩
  · have hk' := beq_no hk
    clear hk
    go_enter Try.func14, Try.ntmps14
    go_wp2_with fail
    refine (refOverlap_any la ha lb hb _).mono ?_
    rintro e w1 ⟨rfl, hb1⟩
    have p1 := p0.below hb1 p0.lt
    have q1 := q0.below hb1 q0.lt
    have b1 := below_then b0 hb1
    clear p0 q0 b0 hb1
    cases ho : sOv ⟨la, ha⟩ ⟨lb, hb⟩ with
    | false =>
      have HV : Hid (sTog ⟨ka, ⟨la, ha⟩, ma⟩ ⟨kb, ⟨lb, hb⟩, mb⟩ = true) := tog_ov hk' ho
      clear ho p1 q1
      go_wp2_with fail
      go_ret
      exact ⟨by rw [HV.out] <;> rfl, b1⟩
    | true =>
      have HV : Hid (sTog ⟨ka, ⟨la, ha⟩, ma⟩ ⟨kb, ⟨lb, hb⟩, mb⟩ = ((ma == 1) && (mb == 1))) := tog_m hk' ho
      clear ho
      obtain ⟨c0, c1, c2, c3⟩ := hold_cells p1
      obtain ⟨d0, d1, d2, d3⟩ := hold_cells q1
      cases hm : ma == 1 with
      | false =>
        rw [hm] at HV
        go_wp2_with fail
        go_ret
        exact ⟨by rw [HV.out] <;> rfl, b1⟩
      | true =>
        rw [hm] at HV
        go_wp2_with fail
        go_ret
        exact ⟨by rw [HV.out] <;> rfl, b1⟩

theorem holdB_key {B k lo hi m : Int} (h : decide (1 ≤ k) = false) : sHoldB B ⟨k, ⟨lo, hi⟩, m⟩ = false := by unfold sHoldB; simp only; rw [h]; rfl
theorem holdB_may {B k lo hi m : Int} (h : sMayB B ⟨lo, hi⟩ = false) : sHoldB B ⟨k, ⟨lo, hi⟩, m⟩ = false := by unfold sHoldB; simp only; rw [h]; simp
theorem holdB_m {B k lo hi m : Int} (h1 : decide (1 ≤ k) = true) (h : sMayB B ⟨lo, hi⟩ = true) : sHoldB B ⟨k, ⟨lo, hi⟩, m⟩ = ((m == 1) || (m == 2)) := by unfold sHoldB; simp only; rw [h, h1]; rfl

set_option maxRecDepth 100000 in
set_option maxHeartbeats 1000000 in
theorem hmay_any (k lo hi m B : Int) (w : World) :
    Calls Try.prog 68 #[.agg #[.int .i64 lo, .int .i64 hi, .int .i64 k, .int .i8 m], .int .i64 B] w fun e w' => e = .returned (.bool (sHoldB B ⟨k, ⟨lo, hi⟩, m⟩)) ∧ Below w.heap.size w w' := by
  have p0 := Blk.new w #[.int .i64 lo, .int .i64 hi, .int .i64 k, .int .i8 m] 94
  have b0 := one_new w (.cells #[.int .i64 lo, .int .i64 hi, .int .i64 k, .int .i8 m] 94)
  cases h1 : decide (1 ≤ k) with
  | false =>
    have HV : Hid (sHoldB B ⟨k, ⟨lo, hi⟩, m⟩ = false) := holdB_key h1
    clear p0
    go_enter Try.func68, Try.ntmps68
    go_wp2_with fail
    go_ret
    exact ⟨by rw [HV.out] <;> rfl, b0⟩
  | true =>
    have H1 := Lib.hid h1
    go_enter Try.func68, Try.ntmps68
    go_wp2_with fail
    refine (within_any lo hi B _).mono ?_
    rintro e w1 ⟨rfl, hb1⟩
    have p1 := p0.below hb1 p0.lt
    have b1 := below_then b0 hb1
    clear p0 b0 hb1
    obtain ⟨c0, c1, c2, c3⟩ := hold_cells p1
    cases hs : sMayB B ⟨lo, hi⟩ with
    | false =>
      have HV : Hid (sHoldB B ⟨k, ⟨lo, hi⟩, m⟩ = false) := holdB_may hs
      clear hs
      go_wp2_with fail
      go_ret
      exact ⟨by rw [HV.out] <;> rfl, b1⟩
    | true =>
      have HV : Hid (sHoldB B ⟨k, ⟨lo, hi⟩, m⟩ = ((m == 1) || (m == 2))) := holdB_m H1.out hs
      clear hs h1
      go_wp2_with fail
      refine (shared_any k lo hi m _).mono ?_
      rintro e w2 ⟨rfl, hb2⟩
      have p2 := p1.below hb2 p1.lt
      have b2 := below_then b1 hb2
      clear p1 b1 hb2 c0 c1 c2 c3
      obtain ⟨c0, c1, c2, c3⟩ := hold_cells p2
      cases hm : m == 1 with
      | true =>
        rw [hm] at HV
        clear hm
        go_wp2_with fail
        go_ret
        exact ⟨by rw [HV.out] <;> rfl, b2⟩
      | false =>
        rw [hm] at HV
        clear hm
        go_wp2_with fail
        refine (own_any k lo hi m _).mono ?_
        rintro e w3 ⟨rfl, hb3⟩
        have b3 := below_then b2 hb3
        clear b2 hb3 p2 c0 c1 c2 c3
        obtain ⟨r, hr⟩ : ∃ r, Hid ((m == 2) = r) := ⟨_, rfl⟩
        rw [hr.out] at HV ⊢
        go_wp2_with fail
        go_ret
        exact ⟨by rw [HV.out] <;> rfl, b3⟩

set_option maxRecDepth 100000 in
set_option maxHeartbeats 1000000 in
theorem refHold_any (N S B P J L E T k lo hi m : Int) (w : World) :
    Calls Try.prog 22 #[.agg #[.int .i64 N, .int .i64 S, .int .i64 B, .int .i64 P, .int .i64 J, .int .i64 L, .int .i64 E, .int .i64 T], .agg #[.int .i64 k, .int .i64 lo, .int .i64 hi, .int .i8 m]] w fun e w' => e = .returned (.bool (sHoldB B ⟨k, ⟨lo, hi⟩, m⟩)) ∧ Below w.heap.size w w' := by
  obtain ⟨p0, q0⟩ := blk2 w #[.int .i64 N, .int .i64 S, .int .i64 B, .int .i64 P, .int .i64 J, .int .i64 L, .int .i64 E, .int .i64 T] #[.int .i64 k, .int .i64 lo, .int .i64 hi, .int .i8 m] 23 43
  have b0 := two_new w (.cells #[.int .i64 N, .int .i64 S, .int .i64 B, .int .i64 P, .int .i64 J, .int .i64 L, .int .i64 E, .int .i64 T] 23) (.cells #[.int .i64 k, .int .i64 lo, .int .i64 hi, .int .i8 m] 43)
  cases h1 : decide (1 ≤ k) with
  | false =>
    have HV : Hid (sHoldB B ⟨k, ⟨lo, hi⟩, m⟩ = false) := holdB_key h1
    clear p0 q0
    go_enter Try.func22, Try.ntmps22
    go_wp2_with fail
    go_ret
    exact ⟨by rw [HV.out] <;> rfl, b0⟩
  | true =>
    have H1 := Lib.hid h1
    go_enter Try.func22, Try.ntmps22
    go_wp2_with fail
    refine (refSMay_any N S B P J L E T lo hi _).mono ?_
    rintro e w1 ⟨rfl, hb1⟩
    have q1 := q0.below hb1 q0.lt
    have b1 := below_then b0 hb1
    clear p0 q0 b0 hb1
    obtain ⟨c0, c1, c2, c3⟩ := hold_cells q1
    cases hs : sMayB B ⟨lo, hi⟩ with
    | false =>
      have HV : Hid (sHoldB B ⟨k, ⟨lo, hi⟩, m⟩ = false) := holdB_may hs
      clear hs
      go_wp2_with fail
      go_ret
      exact ⟨by rw [HV.out] <;> rfl, b1⟩
    | true =>
      have HV : Hid (sHoldB B ⟨k, ⟨lo, hi⟩, m⟩ = ((m == 1) || (m == 2))) := holdB_m H1.out hs
      clear hs h1
      cases hm : m == 1 with
      | true =>
        rw [hm] at HV
        go_wp2_with fail
        go_ret
        exact ⟨by rw [HV.out] <;> rfl, b1⟩
      | false =>
        rw [hm] at HV
        go_wp2_with fail
        go_ret
        exact ⟨by rw [HV.out] <;> rfl, b1⟩

/-- Does a hold cover a block in a mode, whosever it is? -/
def hasC (block mode : Int) (s : SpanM) (m : Int) : Bool := (decide (s.lo ≤ block) && decide (block ≤ s.hi)) && ((m == mode) || (m == 2))
theorem sHas_parts (key block mode : Int) (h : HoldM) : sHas key block mode h = ((h.key == key) && hasC block mode h.s h.m) := by
  unfold sHas hasC
  simp only [Bool.and_assoc]

end Go.Proofs.Ytjknloaolennoaa
