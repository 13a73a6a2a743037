/-
  The statement NumTells: whether a number fits, its bytes, numbers out of bytes, or what is wrong, are what the document's own answer says: for every input the call answers true and leaves its arguments as they were. No conditions.
-/
import Derived.Test.YthdhmmhfljbcoaaNumLawAid
import Derived.Test.YthdhmmhfljbcoaaNumRefs
import Derived.Test.YthdhmmhfljbcoaaNumRefPut
import Derived.ProofKit
import Derived.OpenShut
import Derived.ShutString
import Derived.ChangeOld
namespace Go.Proofs.Ythdhmmhfljbcoaa.numTells
open Go.ChangeShapes Go.WideShapes Go.ChangeAt Go.RowKit
open Go.ChangeMaps (open_string shut_string)
set_option linter.unusedVariables false
set_option linter.unusedSimpArgs false

theorem own : ownKnob Try.prog.godebug = none := by kernel_rfl
theorem laidOut : laidOutB Try.prog = true := by kernel_rfl

theorem row_same {s : List Int} {x e7 e8 : Int} {z7 z8 : List Int}
    (h7 : Hid ((rowP s x = true ∧ e7 = 0 ∧ z7 = numK s x.toNat (s.length / x.toNat)) ∨ (rowP s x = false ∧ e7 = (if mayB x = true then 10 else 2) ∧ z7 = [])))
    (h8 : Hid ((rowP s x = true ∧ e8 = 0 ∧ z8 = numK s x.toNat (s.length / x.toNat)) ∨ (rowP s x = false ∧ e8 = (if mayB x = true then 10 else 2) ∧ z8 = []))) : e8 = e7 ∧ z8 = z7 := by
  rcases h7.out with ⟨a, b, c⟩ | ⟨a, b, c⟩ <;> rcases h8.out with ⟨a', b', c'⟩ | ⟨a', b', c'⟩
  · exact ⟨b'.trans b.symm, c'.trans c.symm⟩
  · rw [a] at a'; cases a'
  · rw [a] at a'; cases a'
  · exact ⟨b'.trans b.symm, c'.trans c.symm⟩

theorem getOut_form (s : List Int) (a x : Int) : ∃ v g : Int, getOut s a x = .returned (.tuple #[.int .i64 v, .int .i64 g]) := ⟨_, _, rfl⟩

set_option maxRecDepth 100000 in
set_option maxHeartbeats 1000000 in
theorem walk (a0 : Option Addr) (len0 cap0 : Nat) (z0 : List Int) (a1 : ByteArray) (a2 : Int) (a3 : Int) (a4 : Option Addr) (len4 cap4 : Nat) (z4 : List Int) (w : World) (w0 : IsRow .u8 w a0 len0 cap0 z0) (w1 : a1.size ≤ maxLen) (w2 : (Lit.int .i64 a2).wf = true) (w3 : (Lit.int .i64 a3).wf = true) (w4 : IsRow .i64 w a4 len4 cap4 z4) :
    Calls Try.prog 3 #[.slice a0 len0 cap0, .string a1, .int .i64 a2, .int .i64 a3, .slice a4 len4 cap4] w fun e w' => e = .returned (.bool true) ∧ Below w.heap.size w w' := by
  have bd := bd_i64 w2
  have bd2 := bd_i64 w3
  have hms := w1
  obtain ⟨hl0, -, hx0⟩ := lies_of_row w0
  obtain ⟨hl4, -, hx4⟩ := lies_of_row w4
  unfold maxLen at hx0 hx4 w1
  generalize z0.take len0 = zb at *
  generalize z4.take len4 = zl at *
  clear w0 w2 w3 w4
  have HMS := Lib.hid hms
  clear hms
  by_cases hg0 : len0 ≤ 2000
  · by_cases hg1 : a1.size ≤ 2000
    · by_cases hg4 : len4 ≤ 400
      · go_enter Try.func3, Try.ntmps3
        go_wp2_with fail
        refine (numPut_any a3 a0 a4 len0 len4 cap0 cap4 zb zl w hl0 hl4 (by omega) (by omega)).mono ?_
        intro e w1 hpost
        obtain ⟨hb1, A1, n1, c1, e1, zs1, rfl, HE1, HZ1, HN1, hA1⟩ := put_named hpost
        have hl0a := (hl0.below hb1).more hb1.size
        have hl4a := (hl4.below hb1).more hb1.size
        clear hpost
        go_wp2_with fail
        refine (refPut_any a3 a0 a4 len0 len4 cap0 cap4 zb zl w1 hl0a hl4a (by omega) (by omega)).mono ?_
        intro e w2 hpost
        obtain ⟨hb2, A2, n2, c2, e2, zs2, rfl, HE2, HZ2, HN2, hA2⟩ := put_named hpost
        obtain rfl : e2 = e1 := HE2.out.trans HE1.out.symm
        obtain rfl : zs2 = zs1 := HZ2.out.trans HZ1.out.symm
        obtain rfl : n2 = n1 := HN2.out.symm.trans HN1.out
        have hb02 : Below w.heap.size w w2 := hb1.trans (hb2.mono hb1.size)
        have hA1b := (hA1.below hb2).more hb2.size
        have hn2 : n2 ≤ 4400 := by
          have h := bytesP_len (x := a3) (zb := zb) (zl := zl)
          rw [← HZ2.out, HN2.out] at h
          have h0 : zb.length = len0 := by simpa using hl0.1
          have h4 : zl.length = len4 := by simpa using hl4.1
          omega
        clear hpost HE1 HE2 HZ1 HZ2 HN1 HN2 hl0a hl4a hA1 hb1 hb2 hl0 hl4
        obtain ⟨V, G, hG⟩ := getOut_form (bytesI a1) a2 a3
        have HG := Lib.hid hG
        clear hG
        go_wp2_with fail
        refine (numGet_any a1 a2 a3 w2 HMS.out (by omega) (by omega)).mono ?_
        rintro e w3 ⟨rfl, rfl⟩
        rw [HG.out]
        go_wp2_with fail
        refine (refGet_any a1 a2 a3 w2 HMS.out (by omega) (by omega)).mono ?_
        rintro e w3 ⟨rfl, rfl⟩
        rw [HG.out]
        clear HG
        go_wp2_with fail
        refine (numRow_any a1 a3 w2 (by omega)).mono ?_
        intro e w5 hpost
        obtain ⟨hb5, A5, n5, c5, e5, zs5, rfl, HN5, hA5, HR5⟩ := row_named hpost
        have hb05 : Below w.heap.size w w5 := hb02.trans (hb5.mono hb02.size)
        have hA1c := (hA1b.below hb5).more hb5.size
        have hA2c := (hA2.below hb5).more hb5.size
        clear hpost hA1b hA2 hb5
        go_wp2_with fail
        refine (refRow_any a1 a3 w5 (by omega)).mono ?_
        intro e w6 hpost
        obtain ⟨hb6, A6, n6, c6, e6, zs6, rfl, HN6, hA6, HR6⟩ := row_named hpost
        obtain ⟨q1, q2⟩ := row_same HR5 HR6
        subst q1 q2
        obtain rfl : n6 = n5 := HN6.out.symm.trans HN5.out
        have hn6 : n6 ≤ 2000 := by
          rw [← HN6.out]
          rcases HR6.out with ⟨_, _, hz⟩ | ⟨_, _, hz⟩
          · rw [hz, numK_length, bytesI_length]
            exact Nat.le_trans (Nat.div_le_self _ _) hg1
          · rw [hz]; simp
        have hb06 : Below w.heap.size w w6 := hb05.trans (hb6.mono hb05.size)
        have hA5b := hA5.below hb6
        have hc1 := conv_lies (P := Try.prog) (c := c1) 22 9 5 Try.underlying22 Try.underlying5 Try.underlying9 (hA1c.below hb6)
        have hc2 := conv_lies (P := Try.prog) (c := c2) 22 9 5 Try.underlying22 Try.underlying5 Try.underlying9 (hA2c.below hb6)
        generalize strOfNums zs2 = S at hc1 hc2
        clear hpost HR5 HR6 HN5 HN6 hA1c hA2c hb6 hA5 hb02 hb05
        go_wp2_with fail
        refine (ints_any A5 A6 _ _ n6 n6 c5 c6 zs6 zs6 w6 hA5b hA6 (by omega) (by omega)).mono ?_
        rintro e w7 ⟨rfl, q, rfl⟩
        rw [show decide (zs6 = zs6) = true from by simp]
        have hb07 : Below w.heap.size w (w6.drewN q) := hb06.trans (drewN_below _ _ _)
        generalize w6.drewN q = w7 at *
        clear hc1 hc2 hA5b hA6 hb06
        go_wp2_with fail
        refine (numFits_any a3 a2 w7).mono ?_
        rintro e w8 ⟨rfl, rfl⟩
        obtain ⟨F, hF⟩ : ∃ F, fitsB a3 a2 = F := ⟨_, rfl⟩
        have HF := Lib.hid hF
        clear hF
        rw [HF.out]
        go_wp2_with fail
        refine (refFits_any a3 a2 w7).mono ?_
        rintro e w8 ⟨rfl, rfl⟩
        rw [HF.out]
        clear HF
        go_wp2_with fail
        refine (wakes_any _).mono ?_
        rintro e w9 ⟨rfl, hb9⟩
        go_wp2_with fail
        go_ret
        exact ⟨rfl, hb07.trans (hb9.mono hb07.size)⟩
      ·
        go_enter Try.func3, Try.ntmps3
        go_wp2_with fail
        refine (wakes_any _).mono ?_
        rintro e w6 ⟨rfl, hb6⟩
        go_wp2_with fail
        go_ret
        exact ⟨rfl, hb6⟩
    ·
      go_enter Try.func3, Try.ntmps3
      go_wp2_with fail
      refine (wakes_any _).mono ?_
      rintro e w6 ⟨rfl, hb6⟩
      go_wp2_with fail
      go_ret
      exact ⟨rfl, hb6⟩
  ·
    go_enter Try.func3, Try.ntmps3
    go_wp2_with fail
    refine (wakes_any _).mono ?_
    rintro e w6 ⟨rfl, hb6⟩
    go_wp2_with fail
    go_ret
    exact ⟨rfl, hb6⟩

/-! ### THE ROW's STEP: WRITTEN OUT: LEAVE IT -/
set_option maxRecDepth 100000 in
theorem lifted (os : Os) (started : os.Started) (H : Type) (enc : TypeId × Value → H) :
    ReturnsInHanded {} Try.checked os 3 .any (Rows.numTellsSpec.pre6 enc Try.prog Try.f3 Rows.numTellsRow.domain false) (Rows.numTellsSpec.post enc Try.prog Try.f3 false true false false) := by
  refine returnsInHanded_of_change (C := Try.checked) own started (by kernel_rfl) Try.func3
    (ChangeSpec.witness6 (enc := enc) (C := Try.checked) false ⟨#[], #[.slice none 0 0, .string ByteArray.empty, .int .i64 0, .int .i64 0, .slice none 0 0], []⟩ 8 (by kernel_rfl) (by kernel_rfl) (by kernel_rfl) (by kernel_rfl)) ?_
  intro W base args ds gs before hval0 hW hcnd _
  have hval : ∀ (j : Nat) t v, Try.f3.params[j]? = some t → args[j]? = some v → Value.okWide Try.prog W .any base t v := hval0
  have hW' := hW
  obtain ⟨p, q, hA0, hV, rfl, hfz, hnd⟩ := hW
  have hA : DataW.TrodAll enc Try.prog W 0 (fun _ => true) true Try.f3.params.toList args.toList ds p := hA0
  rw [Try.params3] at hA hval
  obtain ⟨v0, vs0, d0, ds0, p0, q0, hargs, rfl, rfl, h0, r0⟩ := trodAll_cons hA
  obtain ⟨v1, vs1, d1, ds1, p1, q1, rfl, rfl, rfl, h1, r1⟩ := trodAll_cons r0
  obtain ⟨v2, vs2, d2, ds2, p2, q2, rfl, rfl, rfl, h2, r2⟩ := trodAll_cons r1
  obtain ⟨v3, vs3, d3, ds3, p3, q3, rfl, rfl, rfl, h3, r3⟩ := trodAll_cons r2
  obtain ⟨v4, vs4, d4, ds4, p4, q4, rfl, rfl, rfl, h4, r4⟩ := trodAll_cons r3
  obtain ⟨rfl, rfl, rfl⟩ := trodAll_nil r4
  obtain rfl : args = #[v0, v1, v2, v3, v4] := by cases args; simp_all
  obtain ⟨rfl, rfl⟩ := trodVars_none hV
  obtain ⟨a0, len0, cap0, rfl⟩ := okWide_slice Try.underlying22 (hval 0 22 v0 rfl rfl)
  have k0 := h0
  have lt0 : ∀ x ∈ p0, x.block < W.heap.size := by obtain ⟨m, hm⟩ := k0; exact DataW.trod_lt m _ _ _ hm
  obtain ⟨z0, w0⟩ : ∃ zs, IsRow .u8 W a0 len0 cap0 zs := by
    obtain ⟨fuel, hf⟩ := h0
    rcases open_ints Try.underlying22 Try.underlying5 (by kernel_rfl) hf with ⟨hcs, _⟩ | ⟨x, l, c, zs, hcs, _, hl, hm, hz, _, hcell, hwz⟩
    · simp [Value.cells] at hcs
      obtain ⟨rfl, rfl, rfl⟩ := hcs
      exact ⟨[], .inl ⟨rfl, rfl, rfl, rfl⟩⟩
    · simp [Value.cells] at hcs
      obtain ⟨rfl, rfl, rfl⟩ := hcs
      exact ⟨zs, .inr ⟨_, rfl, hl, hm, by simpa using hz, hcell, hwz⟩⟩
  obtain ⟨a1, rfl, rfl, rfl, w1⟩ := open_string Try.underlying9 (hval 1 9 v1 rfl rfl) h1
  obtain ⟨a2, rfl, rfl, rfl, w2⟩ := open_int Try.underlying3 (hval 2 3 v2 rfl rfl) h2
  obtain ⟨a3, rfl, rfl, rfl, w3⟩ := open_int Try.underlying3 (hval 3 3 v3 rfl rfl) h3
  obtain ⟨a4, len4, cap4, rfl⟩ := okWide_slice Try.underlying23 (hval 4 23 v4 rfl rfl)
  have k4 := h4
  have lt4 : ∀ x ∈ p4, x.block < W.heap.size := by obtain ⟨m, hm⟩ := k4; exact DataW.trod_lt m _ _ _ hm
  obtain ⟨z4, w4⟩ : ∃ zs, IsRow .i64 W a4 len4 cap4 zs := by
    obtain ⟨fuel, hf⟩ := h4
    rcases open_ints Try.underlying23 Try.underlying3 (by kernel_rfl) hf with ⟨hcs, _⟩ | ⟨x, l, c, zs, hcs, _, hl, hm, hz, _, hcell, hwz⟩
    · simp [Value.cells] at hcs
      obtain ⟨rfl, rfl, rfl⟩ := hcs
      exact ⟨[], .inl ⟨rfl, rfl, rfl, rfl⟩⟩
    · simp [Value.cells] at hcs
      obtain ⟨rfl, rfl, rfl⟩ := hcs
      exact ⟨zs, .inr ⟨_, rfl, hl, hm, by simpa using hz, hcell, hwz⟩⟩
  clear hA0 hval0
  refine (walk a0 len0 cap0 z0 a1 a2 a3 a4 len4 cap4 z4 W w0 w1 w2 w3 w4).mono fun e W' ⟨he, bel⟩ => ?_
  subst he
  exact ⟨_, rfl, _, _, _, [], _, [], hW', trodAll_mk1 (shut_bool Try.underlying4 _), (trodAll_cons_mk (Below.trod laidOut (by kernel_rfl) (of_decide_eq_true (by kernel_rfl)) k0 bel lt0) (trodAll_cons_mk (shut_string Try.underlying9 w1) (trodAll_cons_mk (shut_int Try.underlying3 w2) (trodAll_cons_mk (shut_int Try.underlying3 w3) (trodAll_cons_mk (Below.trod laidOut (by kernel_rfl) (of_decide_eq_true (by kernel_rfl)) k4 bel lt4) trodAll_mk0))))), rfl, bel.frame _, fun h => by cases h⟩

theorem over : Rows.numTellsRow.holds Try.pinned (OpenSpec.ofChange Rows.numTellsSpec) :=
  OpenClaim.holds_of_wide 3 Try.f3 rfl rfl rfl rfl rfl rfl rfl ⟨rfl, rfl, rfl, rfl, rfl⟩ rfl rfl rfl rfl rfl (by kernel_rfl) Try.func3 (by kernel_rfl)
    (of_decide_eq_true (by kernel_rfl)) (by unfold Func.isWrapper; first | (rw [if_pos (by decide +kernel)]; kernel_rfl) | (rw [if_neg (by decide +kernel)]; exact ⟨rfl, rfl⟩))
    (fun os started H enc _ => lifted os started H enc)

/-- ████ THE STATEMENT ████ -/
theorem proved : Rows.NumTellsSaid := over
#print axioms proved
end Go.Proofs.Ythdhmmhfljbcoaa.numTells
