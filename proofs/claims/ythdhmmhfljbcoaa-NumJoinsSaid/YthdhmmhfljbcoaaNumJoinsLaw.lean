/-
  The statement NumJoins: numbers put behind numbers are numbers put at once: for every width and every two rows of numbers the call answers true and leaves its arguments as they were. No conditions.
-/
import Derived.Test.YthdhmmhfljbcoaaNumLawAid
import Derived.ProofKit
import Derived.OpenShut
import Derived.ShutString
import Derived.ChangeOld
namespace Go.Proofs.Ythdhmmhfljbcoaa.numJoins
open Go.ChangeShapes Go.WideShapes Go.ChangeAt Go.RowKit
open Go.ChangeMaps (open_string shut_string)
set_option linter.unusedVariables false
set_option linter.unusedSimpArgs false

theorem own : ownKnob Try.prog.godebug = none := by kernel_rfl
theorem laidOut : laidOutB Try.prog = true := by kernel_rfl

set_option maxRecDepth 100000 in
set_option maxHeartbeats 4000000 in
theorem walk (a0 : Int) (a1 : Option Addr) (len1 cap1 : Nat) (z1 : List Int) (a2 : Option Addr) (len2 cap2 : Nat) (z2 : List Int) (w : World) (w0 : (Lit.int .i64 a0).wf = true) (w1 : IsRow .i64 w a1 len1 cap1 z1) (w2 : IsRow .i64 w a2 len2 cap2 z2) :
    Calls Try.prog 7 #[.int .i64 a0, .slice a1 len1 cap1, .slice a2 len2 cap2] w fun e w' => e = .returned (.bool true) ∧ Below w.heap.size w w' := by
  have bd := bd_i64 w0
  obtain ⟨hl1, -, hx1⟩ := lies_of_row w1
  obtain ⟨hl2, -, hx2⟩ := lies_of_row w2
  unfold maxLen at hx1 hx2
  generalize z1.take len1 = zl at *
  generalize z2.take len2 = zm at *
  clear w0 w1 w2
  by_cases hg1 : len1 ≤ 200
  · by_cases hg2 : len2 ≤ 200
    · have HL1 : Hid (zl.length = len1) := by show _ = _; simpa using hl1.1
      have HL2 : Hid (zm.length = len2) := by show _ = _; simpa using hl2.1
      obtain ⟨i0, hi, hz0, hz1, hz2⟩ := info_parts infoInt
      go_enter Try.func7, Try.ntmps7
      go_wp2_with fail
      refine (numPut_any a0 none a1 0 len1 0 cap1 [] zl w Lies.nothing hl1 (by omega) (by omega)).mono ?_
      intro e w1 hpost
      obtain ⟨hb1, A1, n1, c1, e1, zs1, rfl, HE1, HZ1, HN1, hA1⟩ := put_named hpost
      have hn1 : n1 ≤ 1200 := by
        rw [← HN1.out, HZ1.out]
        have := bytesP_len (x := a0) (zb := []) (zl := zl)
        rw [HL1.out] at this
        simp at this
        omega
      have hl2a := hl2.below hb1
      clear hpost
      go_wp2_with fail
      refine (numPut_any a0 A1 a2 n1 len2 c1 cap2 zs1 zm w1 hA1 (hl2a.more hb1.size) (by omega) (by omega)).mono ?_
      intro e w2 hpost
      obtain ⟨hb2, A2, n2, c2, e2, zs2, rfl, HE2, HZ2, HN2, hA2⟩ := put_named hpost
      have hb12 : Below w.heap.size w w2 := hb1.trans (hb2.mono hb1.size)
      have hl1b := (hl1.below hb12).more hb12.size
      have hl2b := (hl2.below hb12).more hb12.size
      clear hpost hl2a hb1 hb2 hl1 hl2
      have hbe : Below w2.heap.size w2 (w2.alloc (.cells #[] 3)) := (Below.refl _ _).alloc (Nat.le_refl _) _
      have hl1c := hl1b.below hbe
      go_wp2_with (at_builtin; refine wpList_append_lies rfl (.tmp 37) (.tmp 38) 23 rfl w2.heap.size 3 i0 (.int .i64 0) 8 Try.underlying23 hi hz0 hz1 hz2 rfl _ 0 [] rfl (World.ownsRow_made w2 #[] 0 (Nat.le_refl _) (by decide) rfl) w2.heap.size a1 len1 cap1 (zl.map (Value.int .i64)) rfl hl1c (ints_oneCell _ _) ?c1 ?c2 ?c3 ?_)
      case c1 => unfold maxLen; omega
      case c2 => omega
      case c3 => simp
      intro v3 w3 hown3 hg3
      have hb3 : Below w2.heap.size w2 w3 := hbe.grown hg3 (by simp) (fun j hj => by simp [Value.ownBlock] at hj; omega)
      have hl2c := hl2b.below hb3
      clear hg3 hl1c hbe
      go_wp2_with (at_builtin; refine wpList_append_lies rfl (.tmp 39) (.tmp 40) 23 rfl w2.heap.size 3 i0 (.int .i64 0) 8 Try.underlying23 hi hz0 hz1 hz2 rfl _ _ _ rfl hown3 w2.heap.size a2 len2 cap2 (zm.map (Value.int .i64)) rfl hl2c (ints_oneCell _ _) ?d1 ?d2 ?d3 ?_)
      case d1 => unfold maxLen; omega
      case d2 => omega
      case d3 => exact hb3.size
      intro v4 w4 hown4 hg4
      have hb4 : Below w2.heap.size w2 w4 := hb3.grown hg4 hb3.size (fun j hj => (hown3.lt j hj).1)
      obtain ⟨A4, c4, rfl⟩ := own_shape hown4
      have hl4 : Lies w4 w4.heap.size A4 (len1 + len2) ((zl ++ zm).map (Value.int .i64)) := by
        rw [List.map_append]
        exact Lies.of_own hown4
      clear hg4 hown4 hown3 hb3 hl2c hl1b hl2b
      go_wp2_with fail
      refine (numPut_any a0 none A4 0 (len1 + len2) 0 c4 [] (zl ++ zm) w4 Lies.nothing hl4 (by omega) (by omega)).mono ?_
      intro e w5 hpost
      obtain ⟨hb5, A5, n5, c5, e5, zs5, rfl, HE5, HZ5, HN5, hA5⟩ := put_named hpost
      have hb25 : Below w2.heap.size w2 w5 := hb4.trans (hb5.mono hb4.size)
      have hb05 : Below w.heap.size w w5 := hb12.trans (hb25.mono hb12.size)
      clear hpost hl4 hb4 hb5
      have hEE := three_errs HE1 HE2 HE5
      rcases hEE with ⟨rfl, rfl, rfl, o1, o2⟩ | ⟨rfl, rfl⟩ | ⟨rfl, rfl, rfl⟩
      · have o5 : okP a0 (zl ++ zm) = true := by rw [okP_append, o1, o2]; rfl
        obtain ⟨h1, h2⟩ := okP_width o1
        obtain ⟨X, rfl⟩ := Int.eq_ofNat_of_zero_le (show 0 ≤ a0 by omega)
        have hZ1 : zs1 = encs X zl := by rw [HZ1.out, bytesP_yes o1]; rfl
        have hZ2 : zs2 = encs X zl ++ encs X zm := by rw [HZ2.out, bytesP_yes o2, hZ1]; rfl
        have hZ5 : zs5 = encs X zl ++ encs X zm := by rw [HZ5.out, bytesP_yes o5, encs_append]; rfl
        have hN1 : n1 = X * len1 := by rw [← HN1.out, hZ1, encs_length, HL1.out]
        have hXl : X * len1 ≤ 1200 := by rw [← hN1]; exact hn1
        have hXi0 : (0 : Int) ≤ (X : Int) * (len1 : Int) := by rw [← Int.natCast_mul]; omega
        have hXi1 : (X : Int) * (len1 : Int) ≤ 1200 := by rw [← Int.natCast_mul]; omega
        have hlen : ((n1 : Int) == (X : Int) * (len1 : Int)) = true := by rw [hN1, Int.natCast_mul]; simp
        have hc2 := conv_lies (P := Try.prog) (c := c2) 22 9 5 Try.underlying22 Try.underlying5 Try.underlying9 (hA2.below hb25)
        have hc5 := conv_lies (P := Try.prog) (c := c5) 22 9 5 Try.underlying22 Try.underlying5 Try.underlying9 hA5
        rw [hZ2] at hc2
        rw [hZ5] at hc5
        generalize strOfNums (encs X zl ++ encs X zm) = S at hc2 hc5
        clear hZ1 hZ2 hZ5 hN1 o1 o2 o5 hA1 hA2 hA5 HE1 HE2 HE5 HZ1 HZ2 HZ5 HN1 HN2 HN5 hb12 hb25
        go_wp2_with fail
        refine (wakes_any _).mono ?_
        rintro e w6 ⟨rfl, hb6⟩
        go_wp2_with fail
        go_ret
        exact ⟨rfl, hb05.trans (hb6.mono hb05.size)⟩
      all_goals
        clear hA1 hA2 hA5 HE1 HE2 HE5 HZ1 HZ2 HZ5 HN1 HN2 HN5 hb12 hb25
        go_wp2_with fail
        refine (wakes_any _).mono ?_
        rintro e w6 ⟨rfl, hb6⟩
        go_wp2_with fail
        go_ret
        exact ⟨rfl, hb05.trans (hb6.mono hb05.size)⟩
    · go_enter Try.func7, Try.ntmps7
      go_wp2_with fail
      refine (wakes_any _).mono ?_
      rintro e w6 ⟨rfl, hb6⟩
      go_wp2_with fail
      go_ret
      exact ⟨rfl, hb6⟩
  · go_enter Try.func7, Try.ntmps7
    go_wp2_with fail
    refine (wakes_any _).mono ?_
    rintro e w6 ⟨rfl, hb6⟩
    go_wp2_with fail
    go_ret
    exact ⟨rfl, hb6⟩

/-! ### THE ROW's STEP: WRITTEN OUT: LEAVE IT -/
set_option maxRecDepth 100000 in
theorem lifted (os : Os) (started : os.Started) (H : Type) (enc : TypeId × Value → H) :
    ReturnsInHanded {} Try.checked os 7 .any (Rows.numJoinsSpec.pre6 enc Try.prog Try.f7 Rows.numJoinsRow.domain false) (Rows.numJoinsSpec.post enc Try.prog Try.f7 false true false false) := by
  refine returnsInHanded_of_change (C := Try.checked) own started (by kernel_rfl) Try.func7
    (ChangeSpec.witness6 (enc := enc) (C := Try.checked) false ⟨#[], #[.int .i64 0, .slice none 0 0, .slice none 0 0], []⟩ 8 (by kernel_rfl) (by kernel_rfl) (by kernel_rfl) (by kernel_rfl)) ?_
  intro W base args ds gs before hval0 hW hcnd _
  have hval : ∀ (j : Nat) t v, Try.f7.params[j]? = some t → args[j]? = some v → Value.okWide Try.prog W .any base t v := hval0
  have hW' := hW
  obtain ⟨p, q, hA0, hV, rfl, hfz, hnd⟩ := hW
  have hA : DataW.TrodAll enc Try.prog W 0 (fun _ => true) true Try.f7.params.toList args.toList ds p := hA0
  rw [Try.params7] at hA hval
  obtain ⟨v0, vs0, d0, ds0, p0, q0, hargs, rfl, rfl, h0, r0⟩ := trodAll_cons hA
  obtain ⟨v1, vs1, d1, ds1, p1, q1, rfl, rfl, rfl, h1, r1⟩ := trodAll_cons r0
  obtain ⟨v2, vs2, d2, ds2, p2, q2, rfl, rfl, rfl, h2, r2⟩ := trodAll_cons r1
  obtain ⟨rfl, rfl, rfl⟩ := trodAll_nil r2
  obtain rfl : args = #[v0, v1, v2] := by cases args; simp_all
  obtain ⟨rfl, rfl⟩ := trodVars_none hV
  obtain ⟨a0, rfl, rfl, rfl, w0⟩ := open_int Try.underlying3 (hval 0 3 v0 rfl rfl) h0
  obtain ⟨a1, len1, cap1, rfl⟩ := okWide_slice Try.underlying23 (hval 1 23 v1 rfl rfl)
  have k1 := h1
  have lt1 : ∀ x ∈ p1, x.block < W.heap.size := by obtain ⟨m, hm⟩ := k1; exact DataW.trod_lt m _ _ _ hm
  obtain ⟨z1, w1⟩ : ∃ zs, IsRow .i64 W a1 len1 cap1 zs := by
    obtain ⟨fuel, hf⟩ := h1
    rcases open_ints Try.underlying23 Try.underlying3 (by kernel_rfl) hf with ⟨hcs, _⟩ | ⟨x, l, c, zs, hcs, _, hl, hm, hz, _, hcell, hwz⟩
    · simp [Value.cells] at hcs
      obtain ⟨rfl, rfl, rfl⟩ := hcs
      exact ⟨[], .inl ⟨rfl, rfl, rfl, rfl⟩⟩
    · simp [Value.cells] at hcs
      obtain ⟨rfl, rfl, rfl⟩ := hcs
      exact ⟨zs, .inr ⟨_, rfl, hl, hm, by simpa using hz, hcell, hwz⟩⟩
  obtain ⟨a2, len2, cap2, rfl⟩ := okWide_slice Try.underlying23 (hval 2 23 v2 rfl rfl)
  have k2 := h2
  have lt2 : ∀ x ∈ p2, x.block < W.heap.size := by obtain ⟨m, hm⟩ := k2; exact DataW.trod_lt m _ _ _ hm
  obtain ⟨z2, w2⟩ : ∃ zs, IsRow .i64 W a2 len2 cap2 zs := by
    obtain ⟨fuel, hf⟩ := h2
    rcases open_ints Try.underlying23 Try.underlying3 (by kernel_rfl) hf with ⟨hcs, _⟩ | ⟨x, l, c, zs, hcs, _, hl, hm, hz, _, hcell, hwz⟩
    · simp [Value.cells] at hcs
      obtain ⟨rfl, rfl, rfl⟩ := hcs
      exact ⟨[], .inl ⟨rfl, rfl, rfl, rfl⟩⟩
    · simp [Value.cells] at hcs
      obtain ⟨rfl, rfl, rfl⟩ := hcs
      exact ⟨zs, .inr ⟨_, rfl, hl, hm, by simpa using hz, hcell, hwz⟩⟩
  clear hA0 hval0
  refine (walk a0 a1 len1 cap1 z1 a2 len2 cap2 z2 W w0 w1 w2).mono fun e W' ⟨he, bel⟩ => ?_
  subst he
  exact ⟨_, rfl, _, _, _, [], _, [], hW', trodAll_mk1 (shut_bool Try.underlying4 _), (trodAll_cons_mk (shut_int Try.underlying3 w0) (trodAll_cons_mk (Below.trod laidOut (by kernel_rfl) (of_decide_eq_true (by kernel_rfl)) k1 bel lt1) (trodAll_cons_mk (Below.trod laidOut (by kernel_rfl) (of_decide_eq_true (by kernel_rfl)) k2 bel lt2) trodAll_mk0))), rfl, bel.frame _, fun h => by cases h⟩

theorem over : Rows.numJoinsRow.holds Try.pinned (OpenSpec.ofChange Rows.numJoinsSpec) :=
  OpenClaim.holds_of_wide 7 Try.f7 rfl rfl rfl rfl rfl rfl rfl ⟨rfl, rfl, rfl, rfl, rfl⟩ rfl rfl rfl rfl rfl (by kernel_rfl) Try.func7 (by kernel_rfl)
    (of_decide_eq_true (by kernel_rfl)) (by unfold Func.isWrapper; first | (rw [if_pos (by decide +kernel)]; kernel_rfl) | (rw [if_neg (by decide +kernel)]; exact ⟨rfl, rfl⟩))
    (fun os started H enc _ => lifted os started H enc)

/-- ████ THE STATEMENT ████ -/
theorem proved : Rows.NumJoinsSaid := over
#print axioms proved
end Go.Proofs.Ythdhmmhfljbcoaa.numJoins
