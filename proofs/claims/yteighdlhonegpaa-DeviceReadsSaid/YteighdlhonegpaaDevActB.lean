/-
  The program's actor: whether it takes an act; why it refuses one: by contract.
-/
import Derived.Test.YteighdlhonegpaaDevActA
namespace Go.Proofs.Yteighdlhonegpaa
open Go.RowKit
set_option linter.unusedVariables false
set_option linter.unusedSimpArgs false

/-- An act as a value. -/
def actV (a : ActM) : Value := .agg #[.int .i8 a.k, .int .i64 a.s, .string a.b, .int .i64 a.key]
def takesB (D : Dev) (a : ActM) : Bool := decide (¬ (a.k < 1 ∨ 6 < a.k) ∧ ¬ (((a.k = 2 ∨ a.k = 3) ∧ 512 < a.b.size) ∨ (a.k = 5 ∧ ¬ Given D.K.length D.n a.key) ∨ (a.k = 6 ∧ 68719476736 ≤ D.n)))
theorem takes_no {D : Dev} {a : ActM} (i : Nat) (h : takesB D a = false) : actE D i a = 2 := by
  unfold takesB at h
  rw [decide_eq_false_iff_not] at h
  unfold actE
  by_cases h1 : a.k < 1 ∨ 6 < a.k
  · rw [if_pos h1]
  · rw [if_neg h1]
    by_cases h2 : ((a.k = 2 ∨ a.k = 3) ∧ 512 < a.b.size) ∨ (a.k = 5 ∧ ¬ Given D.K.length D.n a.key) ∨ (a.k = 6 ∧ 68719476736 ≤ D.n)
    · rw [if_pos h2]
    · exact absurd ⟨h1, h2⟩ h
theorem takes_yes {D : Dev} {a : ActM} (i : Nat) (h : takesB D a = true) : actE D i a = (if a.k ≠ 6 ∧ fencedK D (keyOf D i) = true then 61 else if (a.k = 1 ∨ a.k = 2 ∨ a.k = 3) ∧ ¬ (0 ≤ a.s ∧ a.s < (D.S.length : Int)) then 60 else 0) ∧ 1 ≤ a.k ∧ a.k ≤ 6 := by
  unfold takesB at h
  rw [decide_eq_true_eq] at h
  unfold actE
  rw [if_neg h.1, if_neg h.2]
  have := h.1
  exact ⟨rfl, by omega, by omega⟩

/-- Bounds of an act's numbers. -/
structure ActBd (a : ActM) : Prop where
  k0 : -128 ≤ a.k
  k1 : a.k ≤ 127
  s0 : -9223372036854775808 ≤ a.s
  s1 : a.s ≤ 9223372036854775807
  e0 : -9223372036854775808 ≤ a.key
  e1 : a.key ≤ 9223372036854775807

set_option maxRecDepth 100000 in
set_option maxHeartbeats 4000000 in
theorem takes_any (B b : Nat) (D : Dev) (node : Int) (a : ActM) (w : World) (h : ActorAt w B b D node) (ha : ActBd a) :
    Calls Try.prog 50 #[.pointer (some ⟨b, 0, none⟩), actV a] w fun e w' => e = .returned (.bool (takesB D a)) ∧ Below w.heap.size w w' := by
  obtain ⟨k, s, t, key⟩ := a
  obtain ⟨vS, vC, vK, vF, f, h⟩ := h
  obtain ⟨W0, hW⟩ : ∃ W0, W0 = w.alloc (.cells #[.int .i8 k, .int .i64 s, .string t, .int .i64 key] 38) := ⟨_, rfl⟩
  have hb0 : Below w.heap.size w W0 := hW ▸ below_alloc w _
  have p0 : Blk W0 w.heap.size #[.int .i8 k, .int .i64 s, .string t, .int .i64 key] 38 := hW ▸ Blk.new w _ _
  have h2 := h.up hb0
  have hbx := h2.box
  have hbo := h.box
  have hlt := h2.a.lt
  have e0 : -9223372036854775808 ≤ key := ha.e0
  have e1 : key ≤ 9223372036854775807 := ha.e1
  show Calls _ _ #[_, .agg #[.int .i8 k, .int .i64 s, .string t, .int .i64 key]] _ _
  by_cases k1 : k = 1 ∨ k = 4
  · have HO : Hid (takesB D ⟨k, s, t, key⟩ = true) := decide_eq_true (by simp only; rcases k1 with rfl | rfl <;> simp)
    rcases k1 with rfl | rfl
    all_goals go_enter Try.func50, Try.ntmps50
    all_goals go_wp2_with fail
    all_goals go_ret
    all_goals exact ⟨by rw [HO.out]; rfl, hW ▸ hb0⟩
  by_cases k2 : k = 2 ∨ k = 3
  · have HO : Hid (takesB D ⟨k, s, t, key⟩ = !(tooL t)) := by
      show takesB D ⟨k, s, t, key⟩ = _
      unfold takesB tooL
      rcases k2 with rfl | rfl <;> by_cases h5 : 512 < t.size <;> simp [h5] <;> omega
    have hc := tooLong_any t
    rcases k2 with rfl | rfl
    all_goals go_enter Try.func50, Try.ntmps50
    all_goals go_wp2_with fail
    all_goals refine (hc _).mono ?_
    all_goals rintro e w' ⟨rfl, rfl⟩
    all_goals go_wp2_with fail
    all_goals go_ret
    all_goals exact ⟨by rw [HO.out]; rfl, hW ▸ hb0⟩
  by_cases k5 : k = 5
  · subst k5
    have HO : Hid (takesB D ⟨5, s, t, key⟩ = decide (Given D.K.length D.n key)) := by
      show takesB D ⟨5, s, t, key⟩ = _
      unfold takesB
      simp
    have hc := (given_any _ D key _ W0.drew ((h2.d.dev).up ((Below.refl W0.heap.size W0).drew)) e0 e1).mono (R' := fun e w' => e = .returned (.bool (decide (Given D.K.length D.n key))) ∧ Box6 w' b vS vC vK D.n vF node ∧ w'.cell? ⟨w.heap.size, 3, none⟩ = some (.int .i64 key) ∧ Below w.heap.size w w') (by
      rintro e w' ⟨rfl, hb⟩
      have hb' : Below W0.heap.size W0 w' := ((Below.refl W0.heap.size W0).drew).trans hb
      exact ⟨rfl, hbx.below hb' hlt, (p0.below hb' p0.lt).cell 3 _ rfl, below_then hb0 hb'⟩)
    generalize decide (Given D.K.length D.n key) = q at *
    have c0 := hbx.c0
    have c1 := hbx.c1
    have c2 := hbx.c2
    have c3 := hbx.c3
    have c4 := hbx.c4
    have c5 := hbx.c5
    have c6 := p0.cell 3 _ rfl
    clear hbx hbo p0 h h2 hb0
    go_enter Try.func50, Try.ntmps50
    go_wp2_with fail
    rw [← hW]
    clear hW
    go_region_held3 (fun w' => w'.cell? ⟨b, 0, none⟩ = some vS ∧ w'.cell? ⟨b, 1, none⟩ = some vC ∧ w'.cell? ⟨b, 2, none⟩ = some vK ∧ w'.cell? ⟨b, 3, none⟩ = some (.int .i64 D.n) ∧ w'.cell? ⟨b, 4, none⟩ = some vF ∧ w'.cell? ⟨w.heap.size, 3, none⟩ = some (.int .i64 key)) (go_keep)
      (first | (go_at_call 65; refine hc.mono ?_; rintro e w1 ⟨rfl, ⟨k0, k1, k2, k3, k4, k5⟩, k6, hb1⟩))
    go_wp2_with fail
    go_ret
    exact ⟨by rw [HO.out]; rfl, hb1⟩
  by_cases k6 : k = 6
  · subst k6
    have HO : Hid (takesB D ⟨6, s, t, key⟩ = decide (D.n < 68719476736)) := by
      show takesB D ⟨6, s, t, key⟩ = _
      unfold takesB
      simp
    have c3 := hbx.c3
    rw [hW] at c3
    clear hbx hbo p0 h h2
    go_enter Try.func50, Try.ntmps50
    go_wp2_with fail

    go_ret
    exact ⟨by rw [HO.out]; rfl, hW ▸ hb0⟩
  · have HO : Hid (takesB D ⟨k, s, t, key⟩ = false) := decide_eq_false (by simp only; omega)
    have b1 : (k == 1) = false := beq_no (by omega)
    have b2 : (k == 2) = false := beq_no (by omega)
    have b3 : (k == 3) = false := beq_no (by omega)
    have b4 : (k == 4) = false := beq_no (by omega)
    have b5 : (k == 5) = false := beq_no (by omega)
    have b6 : (k == 6) = false := beq_no (by omega)
    clear k1 k2 k5 k6
    go_enter Try.func50, Try.ntmps50
    go_wp2_with fail
    go_ret
    exact ⟨by rw [HO.out]; rfl, hW ▸ hb0⟩

end Go.Proofs.Yteighdlhonegpaa
