/-
  The statement NumFits: which numbers fit, and that those alone are put: for every number and width the call answers true and leaves its arguments as they were. No conditions.
-/
import Derived.Test.YthdhmmhfljbcoaaNumInts
import Derived.ProofKit
import Derived.OpenShut
import Derived.ShutString
namespace Go.Proofs.Ythdhmmhfljbcoaa.numFits
open Go.ChangeShapes Go.WideShapes Go.ChangeAt Go.RowKit
open Go.ChangeMaps (open_string shut_string)
set_option linter.unusedVariables false
set_option linter.unusedSimpArgs false

theorem own : ownKnob Try.prog.godebug = none := by kernel_rfl

theorem lies_one (w : World) (t : TypeId) (x : Value) : Lies (w.alloc (.cells #[x] t)) (w.alloc (.cells #[x] t)).heap.size (some ⟨w.heap.size, 0, none⟩) 1 [x] :=
  ⟨rfl, fun _ => ⟨_, rfl, by simp, cell_new w x t⟩⟩

/-- The way where the number fits. -/
theorem fits_not {x n : Int} (hx : mayB x = true) (h : fitsB x n = false) : n < 0 ∨ mostOf x < n := by
  by_cases h0 : n < 0
  · exact .inl h0
  · by_cases h1 : mostOf x < n
    · exact .inr h1
    · obtain ⟨a, b⟩ := of_mayB hx
      rw [fitsB_yes a b (by omega) (by omega)] at h
      cases h

set_option maxRecDepth 100000 in
set_option maxHeartbeats 4000000 in
theorem walk (a0 : Int) (a1 : Int) (w0 : (Lit.int .i64 a0).wf = true) (w1 : (Lit.int .i64 a1).wf = true) (w : World) :
    Calls Try.prog 6 #[.int .i64 a0, .int .i64 a1] w fun e w' => e = .returned (.bool true) ∧ Below w.heap.size w w' := by
  have bd := bd_i64 w0
  have bd1 := bd.1
  have bd2 := bd.2
  clear w0 w1 bd
  by_cases hF : fitsB a1 a0 = true
  · obtain ⟨⟨h1, h2⟩, h3, h4⟩ := of_fitsB hF
    rcases width_cases h1 h2 with rfl | rfl | rfl | rfl | rfl | rfl
    all_goals
      simp [mostOf] at h4
      have HF := Lib.hid hF
      clear hF h1 h2
      go_enter Try.func6, Try.ntmps6
      go_wp2_with fail
      refine (numPut_any _ none (some ⟨w.heap.size, 0, none⟩) 0 1 0 1 [] [a0] (w.alloc (.cells #[.int .i64 a0] 3)) Lies.nothing (lies_one w 3 (.int .i64 a0)) (by omega) (by omega)).mono ?_
      rintro e w1 ⟨hb1, hor⟩
      rcases hor with ⟨hno, _⟩ | ⟨_, v, rfl, hown⟩
      · exact absurd hno (by simp [HF.out, mayB])
      clear hown
      go_wp2_with fail
      refine (numFits_any _ _ _).mono ?_
      rintro e w2 ⟨rfl, rfl⟩
      rw [HF.out]
      go_wp2_with fail
      refine (wakes_any _).mono ?_
      rintro e w2 ⟨rfl, hb2⟩
      go_wp2_with fail
      go_ret
      exact ⟨rfl, (((Below.refl _ _).alloc (Nat.le_refl _) _).trans (hb1.mono (by simp))).trans (hb2.mono (by have := hb1.size; simp at this; omega))⟩
  · have hF' : fitsB a1 a0 = false := by simpa using hF
    have hcase : (a1 < 1 ∨ 6 < a1) ∨ (mayB a1 = true ∧ (a0 < 0 ∨ mostOf a1 < a0)) := by
      by_cases hx : mayB a1 = true
      · exact .inr ⟨hx, fits_not hx hF'⟩
      · exact .inl (not_mayB (by simpa using hx))
    have HF := Lib.hid hF'
    clear hF hF'
    rcases hcase with (h | h) | ⟨hx, h⟩
    ·
      go_enter Try.func6, Try.ntmps6
      go_wp2_with fail
      refine (numPut_any _ none (some ⟨w.heap.size, 0, none⟩) 0 1 0 1 [] [_] (w.alloc (.cells #[.int .i64 _] 3)) Lies.nothing (lies_one w 3 (.int .i64 _)) (by omega) (by omega)).mono ?_
      rintro e w1 ⟨hb1, hor⟩
      rcases hor with ⟨_, rfl⟩ | ⟨hyes, _⟩
      rotate_left
      · exact absurd hyes (by simp [HF.out])
      go_wp2_with fail
      refine (numFits_any _ _ _).mono ?_
      rintro e w2 ⟨rfl, rfl⟩
      rw [HF.out]
      go_wp2_with fail
      refine (wakes_any _).mono ?_
      rintro e w2 ⟨rfl, hb2⟩
      go_wp2_with fail
      go_ret
      exact ⟨rfl, (((Below.refl _ _).alloc (Nat.le_refl _) _).trans (hb1.mono (by simp))).trans (hb2.mono (by have := hb1.size; simp at this; omega))⟩
    ·
      go_enter Try.func6, Try.ntmps6
      go_wp2_with fail
      refine (numPut_any _ none (some ⟨w.heap.size, 0, none⟩) 0 1 0 1 [] [_] (w.alloc (.cells #[.int .i64 _] 3)) Lies.nothing (lies_one w 3 (.int .i64 _)) (by omega) (by omega)).mono ?_
      rintro e w1 ⟨hb1, hor⟩
      rcases hor with ⟨_, rfl⟩ | ⟨hyes, _⟩
      rotate_left
      · exact absurd hyes (by simp [HF.out])
      go_wp2_with fail
      refine (numFits_any _ _ _).mono ?_
      rintro e w2 ⟨rfl, rfl⟩
      rw [HF.out]
      go_wp2_with fail
      refine (wakes_any _).mono ?_
      rintro e w2 ⟨rfl, hb2⟩
      go_wp2_with fail
      go_ret
      exact ⟨rfl, (((Below.refl _ _).alloc (Nat.le_refl _) _).trans (hb1.mono (by simp))).trans (hb2.mono (by have := hb1.size; simp at this; omega))⟩
    · obtain ⟨h1, h2⟩ := of_mayB hx
      clear hx
      have h3 : a0 < 0 ∨ (mostOf a1 < a0 ∧ a0 = 1099511627776) ∨ (mostOf a1 < a0 ∧ a0 < 1099511627776) ∨ (mostOf a1 < a0 ∧ 1099511627776 < a0) := by omega
      clear h
      rcases width_cases h1 h2 with rfl | rfl | rfl | rfl | rfl | rfl
      all_goals
        clear h1 h2
        rcases h3 with h | ⟨h, rfl⟩ | ⟨h, h4⟩ | ⟨h, h4⟩
        all_goals (try simp [mostOf] at h)
        all_goals (try (exfalso; omega))
        all_goals
          go_enter Try.func6, Try.ntmps6
          go_wp2_with fail
          refine (numPut_any _ none (some ⟨w.heap.size, 0, none⟩) 0 1 0 1 [] [_] (w.alloc (.cells #[.int .i64 _] 3)) Lies.nothing (lies_one w 3 (.int .i64 _)) (by omega) (by omega)).mono ?_
          rintro e w1 ⟨hb1, hor⟩
          rcases hor with ⟨_, rfl⟩ | ⟨hyes, _⟩
          rotate_left
          · exact absurd hyes (by simp [HF.out])
          go_wp2_with fail
          refine (numFits_any _ _ _).mono ?_
          rintro e w2 ⟨rfl, rfl⟩
          rw [HF.out]
          go_wp2_with fail
          refine (wakes_any _).mono ?_
          rintro e w2 ⟨rfl, hb2⟩
          go_wp2_with fail
          go_ret
          exact ⟨rfl, (((Below.refl _ _).alloc (Nat.le_refl _) _).trans (hb1.mono (by simp))).trans (hb2.mono (by have := hb1.size; simp at this; omega))⟩

/-! ### THE ROW's STEP: WRITTEN OUT: LEAVE IT -/
set_option maxRecDepth 100000 in
theorem lifted (os : Os) (started : os.Started) (H : Type) (enc : TypeId × Value → H) :
    ReturnsInHanded {} Try.checked os 6 .any (Rows.numFitsSpec.pre6 enc Try.prog Try.f6 Rows.numFitsRow.domain false) (Rows.numFitsSpec.post enc Try.prog Try.f6 false true false false) := by
  refine returnsInHanded_of_change (C := Try.checked) own started (by kernel_rfl) Try.func6
    (ChangeSpec.witness6 (enc := enc) (C := Try.checked) false ⟨#[], #[.int .i64 0, .int .i64 0], []⟩ 8 (by kernel_rfl) (by kernel_rfl) (by kernel_rfl) (by kernel_rfl)) ?_
  intro W base args ds gs before hval0 hW hcnd _
  have hval : ∀ (j : Nat) t v, Try.f6.params[j]? = some t → args[j]? = some v → Value.okWide Try.prog W .any base t v := hval0
  have hW' := hW
  obtain ⟨p, q, hA0, hV, rfl, hfz, hnd⟩ := hW
  have hA : DataW.TrodAll enc Try.prog W 0 (fun _ => true) true Try.f6.params.toList args.toList ds p := hA0
  rw [Try.params6] at hA hval
  obtain ⟨v0, vs0, d0, ds0, p0, q0, hargs, rfl, rfl, h0, r0⟩ := trodAll_cons hA
  obtain ⟨v1, vs1, d1, ds1, p1, q1, rfl, rfl, rfl, h1, r1⟩ := trodAll_cons r0
  obtain ⟨rfl, rfl, rfl⟩ := trodAll_nil r1
  obtain rfl : args = #[v0, v1] := by cases args; simp_all
  obtain ⟨rfl, rfl⟩ := trodVars_none hV
  obtain ⟨a0, rfl, rfl, rfl, w0⟩ := open_int Try.underlying3 (hval 0 3 v0 rfl rfl) h0
  obtain ⟨a1, rfl, rfl, rfl, w1⟩ := open_int Try.underlying3 (hval 1 3 v1 rfl rfl) h1
  clear hA0 hval0
  refine (walk a0 a1 w0 w1 W).mono fun e W' ⟨he, hg⟩ => ?_
  subst he
  exact ⟨_, rfl, _, _, _, [], _, [], hW', trodAll_mk1 (shut_bool Try.underlying4 _), (trodAll_cons_mk (shut_int Try.underlying3 w0) (trodAll_cons_mk (shut_int Try.underlying3 w1) trodAll_mk0)), rfl, hg.frame _, fun h => by cases h⟩

theorem over : Rows.numFitsRow.holds Try.pinned (OpenSpec.ofChange Rows.numFitsSpec) :=
  OpenClaim.holds_of_wide 6 Try.f6 rfl rfl rfl rfl rfl rfl rfl ⟨rfl, rfl, rfl, rfl, rfl⟩ rfl rfl rfl rfl rfl (by kernel_rfl) Try.func6 (by kernel_rfl)
    (of_decide_eq_true (by kernel_rfl)) (by unfold Func.isWrapper; first | (rw [if_pos (by decide +kernel)]; kernel_rfl) | (rw [if_neg (by decide +kernel)]; exact ⟨rfl, rfl⟩))
    (fun os started H enc _ => lifted os started H enc)

/-- ████ THE STATEMENT ████ -/
theorem proved : Rows.NumFitsSaid :=
  over
#print axioms proved
end Go.Proofs.Ythdhmmhfljbcoaa.numFits
