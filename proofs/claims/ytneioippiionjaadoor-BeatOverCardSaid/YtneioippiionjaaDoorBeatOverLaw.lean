/-
  The statement BeatOver: a lease that is asked later ends later, and it is over for good: for every geometry and all numbers the call answers true and leaves its arguments as they were. No conditions; the listed table is tied to the program's text.
-/
import Derived.Test.YtneioippiionjaaDoorBeatWakes
import Derived.Test.YtneioippiionjaaDoorGeoArg
import Derived.Test.YtneioippiionjaaDoorGeoRR
import Derived.Test.YtneioippiionjaaDoorLaid
import Derived.ShutString
import Derived.ChangeOld
import Derived.Below
namespace Go.Proofs.YtneioippiionjaaDoor.beatOver
open Go.ChangeShapes Go.WideShapes Go.ChangeAt Go.RowKit
open Go.ChangeMaps (open_string shut_string)
set_option linter.unusedVariables false
set_option linter.unusedSimpArgs false

theorem far_five {a b c d e : Int} (h : farB [a, b, c, d, e] = false) :
    (-1125899906842624 ≤ a ∧ a ≤ 1125899906842624) ∧ (-1125899906842624 ≤ b ∧ b ≤ 1125899906842624) ∧ (-1125899906842624 ≤ c ∧ c ≤ 1125899906842624) ∧ (-1125899906842624 ≤ d ∧ d ≤ 1125899906842624) ∧ (-1125899906842624 ≤ e ∧ e ≤ 1125899906842624) := by
  simp only [farB, List.any_cons, List.any_nil, Bool.or_eq_false_iff, decide_eq_false_iff_not] at h
  omega

theorem over_at {l a : Int} (h : 0 ≤ l) : overB l a (a + l) = false := by
  rcases hh : overB l a (a + l) with _ | _
  · rfl
  · have := over_iff.1 hh
    omega
theorem over_past {l a : Int} (h : 0 ≤ l) : overB l a (a + l + 1) = true := over_iff.2 (by omega)
theorem over_later {l a b n : Int} (h : 0 ≤ b) (ho : overB l a n = false) : overB l (a + b) n = false := by
  rcases hh : overB l (a + b) n with _ | _
  · rfl
  · have h1 := over_iff.1 hh
    rw [over_iff.2 (by omega)] at ho
    cases ho
theorem over_good {l a b n : Int} (h : 0 ≤ b) (ho : overB l a n = true) : overB l a (n + b) = true := by
  have h1 := over_iff.1 ho
  exact over_iff.2 (by omega)

set_option maxRecDepth 100000 in
set_option maxHeartbeats 4000000 in
theorem walk (g : G) (a1 a2 a3 a4 : Int) (w : World) (w1 : (Lit.int .i64 a1).wf = true) (w2 : (Lit.int .i64 a2).wf = true) (w3 : (Lit.int .i64 a3).wf = true) (w4 : (Lit.int .i64 a4).wf = true) (ht : TabOk w) :
    Calls Tryd.prog 4 #[.agg #[.int .i64 g.N, .int .i64 g.S, .int .i64 g.B, .int .i64 g.P, .int .i64 g.J, .int .i64 g.L, .int .i64 g.E, .int .i64 g.T], .int .i64 a1, .int .i64 a2, .int .i64 a3, .int .i64 a4] w fun e w' => e = .returned (.bool true) ∧ Below w.heap.size w w' := by
  have HR := RR.start g w
  clear w1 w2 w3 w4
  obtain ⟨W1, hW1⟩ : ∃ W, W = w.alloc (.cells #[.int .i64 g.N, .int .i64 g.S, .int .i64 g.B, .int .i64 g.P, .int .i64 g.J, .int .i64 g.L, .int .i64 g.E, .int .i64 g.T] 25) := ⟨_, rfl⟩
  have hz : W1.heap.size = w.heap.size + 1 := by rw [hW1]; simp
  rw [← hW1] at HR
  have HR2 : RR g w (W1.alloc (.cells #[.int .i64 g.E, .int .i64 a1, .int .i64 a2, .int .i64 a3, .int .i64 a4] 3 (0, 0))) := HR.call ((Below.refl _ _).alloc (Nat.le_refl _) _)
  have hA : Lies (W1.alloc (.cells #[.int .i64 g.E, .int .i64 a1, .int .i64 a2, .int .i64 a3, .int .i64 a4] 3 (0, 0))) (W1.alloc (.cells #[.int .i64 g.E, .int .i64 a1, .int .i64 a2, .int .i64 a3, .int .i64 a4] 3 (0, 0))).heap.size (some ⟨w.heap.size + 1, 0, none⟩) 5 ([g.E, a1, a2, a3, a4].map (Value.int .i64)) := by
    have h := lies_new W1 #[.int .i64 g.E, .int .i64 a1, .int .i64 a2, .int .i64 a3, .int .i64 a4] 3 (0, 0)
    rw [hz] at h
    exact h
  go_enter Tryd.func4, Tryd.ntmps4
  go_wp2_with fail
  rw [← hW1]
  refine (far_any _ 5 5 _ [g.E, a1, a2, a3, a4] _ hA (by omega)).mono ?_
  rintro e w2 ⟨rfl, rfl⟩
  generalize W1.alloc (.cells #[.int .i64 g.E, .int .i64 a1, .int .i64 a2, .int .i64 a3, .int .i64 a4] 3 (0, 0)) = W2 at *
  have ht2 := ht.below HR2.1
  have hG := HR2.2.1
  unfold GAt at hG
  obtain ⟨hG0, hG1, hG2, hG3, hG4, hG5, hG6, hG7⟩ := hG
  clear hA HR hW1 hz
  rcases hf : farB [g.E, a1, a2, a3, a4] with _ | _
  · have hb := far_five hf
    clear hf
    by_cases h2 : a2 < 0
    · have ho := Lib.hid HR2.1
      clear HR2 ht hG0 hG1 hG2 hG3 hG4 hG5 hG7
      go_wp2_with fail
      refine (wakes_any _ ht2).mono ?_
      rintro e w3 ⟨rfl, hb3⟩
      have hb03 := below_then ho.out hb3
      go_wp2_with fail
      go_ret
      exact ⟨rfl, hb03⟩
    · by_cases h4 : a4 < 0
      · have ho := Lib.hid HR2.1
        clear HR2 ht hG0 hG1 hG2 hG3 hG4 hG5 hG7
        go_wp2_with fail
        refine (wakes_any _ ht2).mono ?_
        rintro e w3 ⟨rfl, hb3⟩
        have hb03 := below_then ho.out hb3
        go_wp2_with fail
        go_ret
        exact ⟨rfl, hb03⟩
      · by_cases h5 : g.E < 0
        · have ho := Lib.hid HR2.1
          clear HR2 ht hG0 hG1 hG2 hG3 hG4 hG5 hG7
          go_wp2_with fail
          refine (wakes_any _ ht2).mono ?_
          rintro e w3 ⟨rfl, hb3⟩
          have hb03 := below_then ho.out hb3
          go_wp2_with fail
          go_ret
          exact ⟨rfl, hb03⟩
        · obtain ⟨⟨e1, e2⟩, ⟨e3, e4⟩, ⟨e5, e6⟩, ⟨e7, e8⟩, e9, e10⟩ := hb
          have h2' : 0 ≤ a2 := by omega
          have h4' : 0 ≤ a4 := by omega
          have h5' : 0 ≤ g.E := by omega
          clear h2 h4 h5 ht2
          have RA : Hid (overB g.E a1 (a1 + g.E) = false) := over_at h5'
          have RB : Hid (overB g.E a1 (a1 + g.E + 1) = true) := over_past h5'
          go_wp2_with fail
          refine (Over_any g.N g.S g.B g.P g.J g.L g.E g.T (a1) (a3) _ (by omega) (by omega) (by omega) (by omega) (by omega) (by omega)).mono ?_
          rintro e v1 ⟨rfl, hb1⟩
          have HR11 := HR2.call hb1
          clear hb1 HR2 hG0 hG1 hG2 hG3 hG4 hG5 hG6 hG7
          have hG := HR11.2.1
          unfold GAt at hG
          obtain ⟨hG0, hG1, hG2, hG3, hG4, hG5, hG6, hG7⟩ := hG
          rcases hR : overB g.E a1 a3 with _ | _
          · have RC : Hid (overB g.E (a1 + a2) a3 = false) := over_later h2' hR
            clear hR
            go_wp2_with fail
            refine (Over_any g.N g.S g.B g.P g.J g.L g.E g.T (a1 + a2) (a3) _ (by omega) (by omega) (by omega) (by omega) (by omega) (by omega)).mono ?_
            rintro e v2 ⟨rfl, hb2⟩
            rw [RC.out]
            have HR12 := HR11.call hb2
            clear hb2 HR11 hG0 hG1 hG2 hG3 hG4 hG5 hG6 hG7
            have hG := HR12.2.1
            unfold GAt at hG
            obtain ⟨hG0, hG1, hG2, hG3, hG4, hG5, hG6, hG7⟩ := hG
            go_wp2_with fail
            refine (Over_any g.N g.S g.B g.P g.J g.L g.E g.T (a1) (a1 + g.E) _ (by omega) (by omega) (by omega) (by omega) (by omega) (by omega)).mono ?_
            rintro e v3 ⟨rfl, hb3⟩
            rw [RA.out]
            have HR13 := HR12.call hb3
            clear hb3 HR12 hG0 hG1 hG2 hG3 hG4 hG5 hG6 hG7
            have hG := HR13.2.1
            unfold GAt at hG
            obtain ⟨hG0, hG1, hG2, hG3, hG4, hG5, hG6, hG7⟩ := hG
            go_wp2_with fail
            refine (Over_any g.N g.S g.B g.P g.J g.L g.E g.T (a1) (a1 + g.E + 1) _ (by omega) (by omega) (by omega) (by omega) (by omega) (by omega)).mono ?_
            rintro e v4 ⟨rfl, hb4⟩
            rw [RB.out]
            have HR14 := HR13.call hb4
            clear hb4 HR13 hG0 hG1 hG2 hG3 hG4 hG5 hG6 hG7
            have hG := HR14.2.1
            unfold GAt at hG
            obtain ⟨hG0, hG1, hG2, hG3, hG4, hG5, hG6, hG7⟩ := hG
            go_wp2_with fail
            have ho := Lib.hid HR14.1
            have ht2 := ht.below ho.out
            clear HR14 ht hG0 hG1 hG2 hG3 hG4 hG5 hG6 hG7
            refine (wakes_any _ ht2).mono ?_
            rintro e w3 ⟨rfl, hb3⟩
            have hb03 := below_then ho.out hb3
            go_wp2_with fail
            go_ret
            exact ⟨rfl, hb03⟩
          · have RC : Hid (overB g.E a1 (a3 + a4) = true) := over_good h4' hR
            clear hR
            go_wp2_with fail
            refine (Over_any g.N g.S g.B g.P g.J g.L g.E g.T (a1) (a3 + a4) _ (by omega) (by omega) (by omega) (by omega) (by omega) (by omega)).mono ?_
            rintro e v2 ⟨rfl, hb2⟩
            rw [RC.out]
            have HR12 := HR11.call hb2
            clear hb2 HR11 hG0 hG1 hG2 hG3 hG4 hG5 hG6 hG7
            have hG := HR12.2.1
            unfold GAt at hG
            obtain ⟨hG0, hG1, hG2, hG3, hG4, hG5, hG6, hG7⟩ := hG
            go_wp2_with fail
            refine (Over_any g.N g.S g.B g.P g.J g.L g.E g.T (a1) (a1 + g.E) _ (by omega) (by omega) (by omega) (by omega) (by omega) (by omega)).mono ?_
            rintro e v3 ⟨rfl, hb3⟩
            rw [RA.out]
            have HR13 := HR12.call hb3
            clear hb3 HR12 hG0 hG1 hG2 hG3 hG4 hG5 hG6 hG7
            have hG := HR13.2.1
            unfold GAt at hG
            obtain ⟨hG0, hG1, hG2, hG3, hG4, hG5, hG6, hG7⟩ := hG
            go_wp2_with fail
            refine (Over_any g.N g.S g.B g.P g.J g.L g.E g.T (a1) (a1 + g.E + 1) _ (by omega) (by omega) (by omega) (by omega) (by omega) (by omega)).mono ?_
            rintro e v4 ⟨rfl, hb4⟩
            rw [RB.out]
            have HR14 := HR13.call hb4
            clear hb4 HR13 hG0 hG1 hG2 hG3 hG4 hG5 hG6 hG7
            have hG := HR14.2.1
            unfold GAt at hG
            obtain ⟨hG0, hG1, hG2, hG3, hG4, hG5, hG6, hG7⟩ := hG
            go_wp2_with fail
            have ho := Lib.hid HR14.1
            have ht2 := ht.below ho.out
            clear HR14 ht hG0 hG1 hG2 hG3 hG4 hG5 hG6 hG7
            refine (wakes_any _ ht2).mono ?_
            rintro e w3 ⟨rfl, hb3⟩
            have hb03 := below_then ho.out hb3
            go_wp2_with fail
            go_ret
            exact ⟨rfl, hb03⟩
  · have ho := Lib.hid HR2.1
    clear HR2 ht hG0 hG1 hG2 hG3 hG4 hG5 hG7
    go_wp2_with fail
    refine (wakes_any _ ht2).mono ?_
    rintro e w3 ⟨rfl, hb3⟩
    have hb03 := below_then ho.out hb3
    go_wp2_with fail
    go_ret
    exact ⟨rfl, hb03⟩

/-! ### THE ROW's STEP -/
set_option maxRecDepth 100000 in
theorem lifted (os : Os) (started : os.Started) (H : Type) (enc : TypeId × Value → H) :
    ReturnsInHanded {} Tryd.checked os 4 .any (fun w args => (Rows.beatOverSpec.pre enc Tryd.prog Tryd.f4 [] false w args ∧ laidMetH Tryd.prog laidL w) ∧ sizedMet enc Tryd.prog Tryd.f4 (OpenSpec.ofChange Rows.beatOverSpec) false w args) (Rows.beatOverSpec.post enc Tryd.prog Tryd.f4 false true false false) := by
  refine returnsInHanded_of_change_and (C := Tryd.checked) (X := fun w _ => laidMetH Tryd.prog laidL w) (fun _ _ _ hh h => h.of_heap hh) own started (by kernel_rfl) Tryd.func4
    (ChangeSpec.witness_shaped (enc := enc) (C := Tryd.checked) (os := os) (X := fun w _ => laidMetH Tryd.prog laidL w) false (World.doorLaid Tryd.prog 14 os) #[.agg #[.int .i64 0, .int .i64 0, .int .i64 0, .int .i64 0, .int .i64 0, .int .i64 0, .int .i64 0, .int .i64 0], .int .i64 0, .int .i64 0, .int .i64 0, .int .i64 0] 8 rfl (World.shaped_of_RefB (by kernel_rfl) (by kernel_rfl)) (by kernel_rfl) (by kernel_rfl) (by kernel_rfl) (door_met os _)) ?_
  intro W base args ds gs before hval0 hW _ _ hL _
  have hval : ∀ (j : Nat) t v, Tryd.f4.params[j]? = some t → args[j]? = some v → Value.okWide Tryd.prog W .any base t v := hval0
  have hW' := hW
  obtain ⟨p, q, hA0, hV, rfl, hfz, hnd⟩ := hW
  have hA : DataW.TrodAll enc Tryd.prog W 0 (fun _ => true) true Tryd.f4.params.toList args.toList ds p := hA0
  rw [Tryd.params4] at hA hval
  obtain ⟨v0, vs0, d0, ds0, p0, q0, hargs, rfl, rfl, h0, r0⟩ := trodAll_cons hA
  obtain ⟨v1, vs1, d1, ds1, p1, q1, rfl, rfl, rfl, h1, r1⟩ := trodAll_cons r0
  obtain ⟨v2, vs2, d2, ds2, p2, q2, rfl, rfl, rfl, h2, r2⟩ := trodAll_cons r1
  obtain ⟨v3, vs3, d3, ds3, p3, q3, rfl, rfl, rfl, h3, r3⟩ := trodAll_cons r2
  obtain ⟨v4, vs4, d4, ds4, p4, q4, rfl, rfl, rfl, h4, r4⟩ := trodAll_cons r3
  obtain ⟨rfl, rfl, rfl⟩ := trodAll_nil r4
  obtain rfl : args = #[v0, v1, v2, v3, v4] := by cases args; simp_all
  obtain ⟨rfl, rfl⟩ := trodVars_none hV
  have k0 := h0
  have lt0 : ∀ x ∈ p0, x.block < W.heap.size := by obtain ⟨m, hm⟩ := k0; exact DataW.trod_lt m _ _ _ hm
  obtain ⟨g0, rfl⟩ := open_geo (hval 0 25 v0 rfl rfl) h0
  obtain ⟨a1, rfl, rfl, rfl, w1⟩ := open_int Tryd.underlying3 (hval 1 3 v1 rfl rfl) h1
  obtain ⟨a2, rfl, rfl, rfl, w2⟩ := open_int Tryd.underlying3 (hval 2 3 v2 rfl rfl) h2
  obtain ⟨a3, rfl, rfl, rfl, w3⟩ := open_int Tryd.underlying3 (hval 3 3 v3 rfl rfl) h3
  obtain ⟨a4, rfl, rfl, rfl, w4⟩ := open_int Tryd.underlying3 (hval 4 3 v4 rfl rfl) h4
  clear hA0 hval0
  refine (walk g0 a1 a2 a3 a4 W w1 w2 w3 w4 (met_of_laid hL)).mono fun e W' ⟨he, bel⟩ => ?_
  subst he
  exact ⟨_, rfl, _, _, _, [], _, [], hW', trodAll_mk1 (shut_bool Tryd.underlying4 _), (trodAll_cons_mk (Below.trod laidOut (by kernel_rfl) (of_decide_eq_true (by kernel_rfl)) k0 bel lt0) (trodAll_cons_mk (shut_int Tryd.underlying3 w1) (trodAll_cons_mk (shut_int Tryd.underlying3 w2) (trodAll_cons_mk (shut_int Tryd.underlying3 w3) (trodAll_cons_mk (shut_int Tryd.underlying3 w4) trodAll_mk0))))), rfl, bel.frame _, fun h => by cases h⟩

theorem over : Rows.beatOverRow.holds Tryd.pinned (OpenSpec.ofChange Rows.beatOverSpec) :=
  OpenClaim.holds_of_wide 4 Tryd.f4 rfl rfl rfl rfl rfl rfl rfl ⟨rfl, rfl, rfl, rfl, rfl⟩ rfl rfl rfl rfl rfl (by kernel_rfl) Tryd.func4 (by kernel_rfl)
    (of_decide_eq_true (by kernel_rfl)) (by unfold Func.isWrapper; first | (rw [if_pos (by decide +kernel)]; kernel_rfl) | (rw [if_neg (by decide +kernel)]; exact ⟨rfl, rfl⟩))
    (fun os started H enc _ => lifted os started H enc)

/-- The statement. -/
theorem proved : Rows.BeatOverSaid := over
#print axioms proved

/-- THE TIED CARD. -/
theorem card : Rows.BeatOverCardSaid :=
  Claim7.holds_tied_plain_at .later [] [.data] true (true, "1a2a087acac38c139b718ecf9da16be58d9ebb15f3318b59ad9d4535046fa1d6") false
    proved (fun _ h => by cases h) (by kernel_rfl) (fun _ h => by cases h) beatOver_row_tie rfl ⟨rfl, rfl⟩ (by kernel_rfl) rfl
    (fun f fn hf hfn => by
      obtain rfl : f = 4 := Option.some.inj ((show Tryd.prog.funcNamed "breakwater/breakwaterlaw07.BeatOver" = some 4 by kernel_rfl).symm.trans hf) |>.symm
      obtain rfl : fn = Tryd.f4 := (Option.some.inj (Tryd.func4.symm.trans hfn)).symm
      exact ⟨by kernel_rfl, fun j t ht => by
        rw [Tryd.params4] at ht
        have hm : t ∈ [25, 3, 3, 3, 3] := by simpa using Array.mem_of_getElem? ht
        have hall : ([25, 3, 3, 3, 3].all fun u => !Tryd.prog.wantsStandIn u) = true := by kernel_rfl
        exact (show Tryd.prog.wantsStandIn t = false by simpa using List.all_eq_true.1 hall t hm)⟩)
    (by kernel_rfl)
#print axioms card
end Go.Proofs.YtneioippiionjaaDoor.beatOver
