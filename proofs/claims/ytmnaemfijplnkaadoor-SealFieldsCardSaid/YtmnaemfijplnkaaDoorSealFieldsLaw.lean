/-
  The statement SealFields: what is made of numbers, and read as them, or what is wrong: for every kind, all texts, widths and numbers the program's Make and Fields answer as the document's own answer does, and the arguments stay as they were. No conditions; the listed table is tied to the program's text.
-/
import Derived.Test.YtmnaemfijplnkaaDoorSealRefMake
import Derived.Test.YtmnaemfijplnkaaDoorSealRefFields
import Derived.ShutString
import Derived.ChangeOld
namespace Go.Proofs.YtmnaemfijplnkaaDoor.sealFields
open Go.ChangeShapes Go.WideShapes Go.ChangeAt Go.RowKit
open Go.ChangeMaps (open_string shut_string)
set_option linter.unusedVariables false
set_option linter.unusedSimpArgs false

theorem makeOut_gen (k : Int) (s : ByteArray) (zw zl : List Int) : ∃ l e, makeOut k s zw zl = .returned (.tuple #[.string l, .int .i64 e]) := by
  unfold makeOut
  split
  · exact ⟨_, _, rfl⟩
  · exact ⟨_, _, rfl⟩
theorem fldVal_len (k : Int) (t : ByteArray) (zw : List Int) : (fldVal k t zw).length ≤ zw.length := by
  unfold fldVal
  split
  · rw [valK_length]; exact Nat.le_refl _
  · simp

set_option maxRecDepth 100000 in
set_option maxHeartbeats 2000000 in
theorem walk (a0 : Int) (a1 : ByteArray) (a2 : ByteArray) (a3 : Option Addr) (len3 cap3 : Nat) (z3 : List Int) (a4 : Option Addr) (len4 cap4 : Nat) (z4 : List Int) (w : World) (w0 : (Lit.int .i8 a0).wf = true) (w1 : a1.size ≤ maxLen) (w2 : a2.size ≤ maxLen) (w3 : IsRow .i64 w a3 len3 cap3 z3) (w4 : IsRow .i64 w a4 len4 cap4 z4) (ht : TabOk w) :
    Calls Tryd.prog 4 #[.int .i8 a0, .string a1, .string a2, .slice a3 len3 cap3, .slice a4 len4 cap4] w fun e w' => e = .returned (.bool true) ∧ Below w.heap.size w w' := by
  have hk := (bd_i8 w0).2
  have M1 := Lib.hid w1
  have M2 := Lib.hid w2
  obtain ⟨hl3, -, hx3⟩ := lies_of_row w3
  obtain ⟨hl4, -, hx4⟩ := lies_of_row w4
  unfold maxLen at w1 w2 hx3 hx4
  generalize z3.take len3 = zw at *
  generalize z4.take len4 = zl at *
  clear w3 w4
  by_cases g1 : a1.size ≤ 2000
  · by_cases g2 : a2.size ≤ 2000
    · by_cases g3 : len3 ≤ 200
      · by_cases g4 : len4 ≤ 200
        · have HL3 : Hid (zw.length = len3) := by show _ = _; simpa using hl3.1
          obtain ⟨mv, me, EM⟩ := makeOut_gen a0 a1 zw zl
          have EM := Lib.hid EM
          have hfl := fldVal_len a0 a2 zw
          have HFL : Hid ((fldVal a0 a2 zw).length ≤ 200) := by have := HL3.out; show _ ≤ _; omega
          clear hfl w0
          go_enter Tryd.func4, Tryd.ntmps4
          go_wp2_with fail
          refine (Make_any a0 a1 a3 a4 len3 len4 cap3 cap4 zw zl w hk (by omega) hl3 hl4 (by omega) (by omega) ht).mono ?_
          rintro e v1 ⟨rfl, hb1⟩
          rw [EM.out]
          have k3 := hl3.up hb1 (Nat.le_refl _)
          have k4 := hl4.up hb1 (Nat.le_refl _)
          go_wp2_with fail
          refine (refMake_any a0 a1 a3 a4 len3 len4 cap3 cap4 zw zl v1 hk (by omega) k3 k4 (by omega) (by omega)).mono ?_
          rintro e v2 ⟨rfl, hb2⟩
          rw [EM.out]
          have hb02 := hb1.trans (hb2.mono hb1.size)
          have k3 := hl3.up hb02 (Nat.le_refl _)
          have ht2 := ht.below hb02
          clear hb1 hb2 k4
          go_wp2_with fail
          refine (Fields_any a0 a2 a3 len3 cap3 zw v2 M2.out k3 (by omega) ht2).mono ?_
          rintro e v3 ⟨hb3, A3, n3, c3, rfl, HN3, hA3⟩
          have hb03 := hb02.trans (hb3.mono hb02.size)
          have k3 := hl3.up hb03 (Nat.le_refl _)
          clear hb02 hb3 ht2
          generalize hrest : fldRest a0 a2 zw = R at *
          generalize herr : fldErr a0 a2 zw = E at *
          go_wp2_with fail
          refine (refFields_any a0 a2 a3 len3 cap3 zw v3 M2.out k3 (by omega)).mono ?_
          rintro e v4 ⟨hb4, A4, n4, c4, rfl, HN4, hA4⟩
          have hb04 := hb03.trans (hb4.mono hb03.size)
          have hA3 := hA3.up hb4 (Nat.le_refl _)
          have hn3 : n3 ≤ 200 := by rw [← HN3.out]; exact HFL.out
          have hn4 : n4 ≤ 200 := by rw [← HN4.out]; exact HFL.out
          rw [hrest, herr]
          clear hb03 hb4 k3 hrest herr HN3 HN4 HFL
          generalize fldVal a0 a2 zw = V at *
          go_wp2_with fail
          refine (ints_any A3 A4 _ _ n3 n4 c3 c4 V V v4 hA3 hA4 (by omega) (by omega)).mono ?_
          rintro e v5 ⟨rfl, q, rfl⟩
          rw [show decide (V = V) = true from by simp]
          have hb05 : Below w.heap.size w (v4.drewN q) := hb04.trans (drewN_below _ _ _)
          have ht5 := ht.below hb05
          generalize v4.drewN q = v5 at *
          clear hb04 hA3 hA4
          go_wp2_with fail
          refine (wakes_any _ ht5).mono ?_
          rintro e v6 ⟨rfl, hb6⟩
          have hb06 := hb05.trans (hb6.mono hb05.size)
          clear hb05 hb6 ht5
          go_wp2_with fail
          go_ret
          exact ⟨rfl, hb06⟩
        · have g4' : 200 < len4 := by omega
          clear g4
          go_enter Tryd.func4, Tryd.ntmps4
          go_wp2_with fail
          refine (wakes_any _ ht).mono ?_
          rintro e w6 ⟨rfl, hb6⟩
          go_wp2_with fail
          go_ret
          exact ⟨rfl, hb6⟩
      · have g3' : 200 < len3 := by omega
        clear g3
        go_enter Tryd.func4, Tryd.ntmps4
        go_wp2_with fail
        refine (wakes_any _ ht).mono ?_
        rintro e w6 ⟨rfl, hb6⟩
        go_wp2_with fail
        go_ret
        exact ⟨rfl, hb6⟩
    · have g2' : 2000 < a2.size := by omega
      clear g2
      go_enter Tryd.func4, Tryd.ntmps4
      go_wp2_with fail
      refine (wakes_any _ ht).mono ?_
      rintro e w6 ⟨rfl, hb6⟩
      go_wp2_with fail
      go_ret
      exact ⟨rfl, hb6⟩
  · have g1' : 2000 < a1.size := by omega
    clear g1
    go_enter Tryd.func4, Tryd.ntmps4
    go_wp2_with fail
    refine (wakes_any _ ht).mono ?_
    rintro e w6 ⟨rfl, hb6⟩
    go_wp2_with fail
    go_ret
    exact ⟨rfl, hb6⟩

/-! ### THE ROW's STEP: WRITTEN OUT: LEAVE IT -/
set_option maxRecDepth 100000 in
theorem lifted (os : Os) (started : os.Started) (H : Type) (enc : TypeId × Value → H) :
    ReturnsInHanded {} Tryd.checked os 4 .any (fun w args => (Rows.sealFieldsSpec.pre enc Tryd.prog Tryd.f4 [] false w args ∧ laidMetH Tryd.prog laidL w) ∧ sizedMet enc Tryd.prog Tryd.f4 (OpenSpec.ofChange Rows.sealFieldsSpec) false w args) (Rows.sealFieldsSpec.post enc Tryd.prog Tryd.f4 false true false false) := by
  refine returnsInHanded_of_change_and (C := Tryd.checked) (X := fun w _ => laidMetH Tryd.prog laidL w) (fun _ _ _ hh h => h.of_heap hh) own started (by kernel_rfl) Tryd.func4
    (ChangeSpec.witness_shaped (enc := enc) (C := Tryd.checked) (os := os) (X := fun w _ => laidMetH Tryd.prog laidL w) false (World.doorLaid Tryd.prog 14 os) #[.int .i8 0, .string ByteArray.empty, .string ByteArray.empty, .slice none 0 0, .slice none 0 0] 8 rfl (World.shaped_of_RefB (by kernel_rfl) (by kernel_rfl)) (by kernel_rfl) (by kernel_rfl) (by kernel_rfl) (door_met os _)) ?_
  intro W base args ds gs before hval0 hW _ _ hL _
  have hval : ∀ (j : Nat) t v, Tryd.f4.params[j]? = some t → args[j]? = some v → Value.okWide Tryd.prog W .any base t v := hval0
  have hW' := hW
  obtain ⟨p, q, hA0, hV, rfl, hfz, hnd⟩ := hW
  have hA : DataW.TrodAll enc Tryd.prog W 0 (fun _ => true) true Tryd.f4.params.toList args.toList ds p := hA0
  rw [Tryd.params4] at hA hval
  obtain ⟨v0, vs0, d0, ds0, p0, q0, hargs, rfl, rfl, h0, r0⟩ := trodAll_cons hA
  obtain ⟨v1, vs1, d1, ds1, p1, q1, rfl, rfl, rfl, h1, r1⟩ := trodAll_cons r0
  obtain ⟨v2, vs2, d2, ds2, p2, q2, rfl, rfl, rfl, h2, r2⟩ := trodAll_cons r1
  obtain ⟨v3, vs3, d3, ds3, p3, q3, rfl, rfl, rfl, h3, r3⟩ := trodAll_cons r2
  obtain ⟨v4, vs4, d4, ds4, p4, q4, rfl, rfl, rfl, h4, r4⟩ := trodAll_cons r3
  obtain ⟨rfl, rfl, rfl⟩ := trodAll_nil r4
  obtain rfl : args = #[v0, v1, v2, v3, v4] := by cases args; simp_all
  obtain ⟨rfl, rfl⟩ := trodVars_none hV
  obtain ⟨a0, rfl, rfl, rfl, w0⟩ := open_int Tryd.underlying22 (hval 0 22 v0 rfl rfl) h0
  obtain ⟨a1, rfl, rfl, rfl, w1⟩ := open_string Tryd.underlying9 (hval 1 9 v1 rfl rfl) h1
  obtain ⟨a2, rfl, rfl, rfl, w2⟩ := open_string Tryd.underlying9 (hval 2 9 v2 rfl rfl) h2
  obtain ⟨a3, len3, cap3, rfl⟩ := okWide_slice Tryd.underlying30 (hval 3 30 v3 rfl rfl)
  have k3 := h3
  have lt3 : ∀ x ∈ p3, x.block < W.heap.size := by obtain ⟨m, hm⟩ := k3; exact DataW.trod_lt m _ _ _ hm
  obtain ⟨z3, w3⟩ : ∃ zs, IsRow .i64 W a3 len3 cap3 zs := by
    obtain ⟨fuel, hf⟩ := h3
    rcases open_ints Tryd.underlying30 Tryd.underlying3 (by kernel_rfl) hf with ⟨hcs, _⟩ | ⟨x, l, c, zs, hcs, _, hl, hm, hz, _, hcell, hwz⟩
    · simp [Value.cells] at hcs
      obtain ⟨rfl, rfl, rfl⟩ := hcs
      exact ⟨[], .inl ⟨rfl, rfl, rfl, rfl⟩⟩
    · simp [Value.cells] at hcs
      obtain ⟨rfl, rfl, rfl⟩ := hcs
      exact ⟨zs, .inr ⟨_, rfl, hl, hm, by simpa using hz, hcell, hwz⟩⟩
  obtain ⟨a4, len4, cap4, rfl⟩ := okWide_slice Tryd.underlying30 (hval 4 30 v4 rfl rfl)
  have k4 := h4
  have lt4 : ∀ x ∈ p4, x.block < W.heap.size := by obtain ⟨m, hm⟩ := k4; exact DataW.trod_lt m _ _ _ hm
  obtain ⟨z4, w4⟩ : ∃ zs, IsRow .i64 W a4 len4 cap4 zs := by
    obtain ⟨fuel, hf⟩ := h4
    rcases open_ints Tryd.underlying30 Tryd.underlying3 (by kernel_rfl) hf with ⟨hcs, _⟩ | ⟨x, l, c, zs, hcs, _, hl, hm, hz, _, hcell, hwz⟩
    · simp [Value.cells] at hcs
      obtain ⟨rfl, rfl, rfl⟩ := hcs
      exact ⟨[], .inl ⟨rfl, rfl, rfl, rfl⟩⟩
    · simp [Value.cells] at hcs
      obtain ⟨rfl, rfl, rfl⟩ := hcs
      exact ⟨zs, .inr ⟨_, rfl, hl, hm, by simpa using hz, hcell, hwz⟩⟩
  clear hA0 hval0
  refine (walk a0 a1 a2 a3 len3 cap3 z3 a4 len4 cap4 z4 W w0 w1 w2 w3 w4 (met_of_laid hL)).mono fun e W' ⟨he, bel⟩ => ?_
  subst he
  exact ⟨_, rfl, _, _, _, [], _, [], hW', trodAll_mk1 (shut_bool Tryd.underlying4 _), (trodAll_cons_mk (shut_int Tryd.underlying22 w0) (trodAll_cons_mk (shut_string Tryd.underlying9 w1) (trodAll_cons_mk (shut_string Tryd.underlying9 w2) (trodAll_cons_mk (Below.trod laidOut (by kernel_rfl) (of_decide_eq_true (by kernel_rfl)) k3 bel lt3) (trodAll_cons_mk (Below.trod laidOut (by kernel_rfl) (of_decide_eq_true (by kernel_rfl)) k4 bel lt4) trodAll_mk0))))), rfl, bel.frame _, fun h => by cases h⟩

theorem over : Rows.sealFieldsRow.holds Tryd.pinned (OpenSpec.ofChange Rows.sealFieldsSpec) :=
  OpenClaim.holds_of_wide 4 Tryd.f4 rfl rfl rfl rfl rfl rfl rfl ⟨rfl, rfl, rfl, rfl, rfl⟩ rfl rfl rfl rfl rfl (by kernel_rfl) Tryd.func4 (by kernel_rfl)
    (of_decide_eq_true (by kernel_rfl)) (by unfold Func.isWrapper; first | (rw [if_pos (by decide +kernel)]; kernel_rfl) | (rw [if_neg (by decide +kernel)]; exact ⟨rfl, rfl⟩))
    (fun os started H enc _ => lifted os started H enc)

/-- ████ THE STATEMENT ████ -/
theorem proved : Rows.SealFieldsSaid := over
#print axioms proved

/-- THE TIED CARD. -/
theorem card : Rows.SealFieldsCardSaid :=
  Claim7.holds_tied_plain_at .later [] [.data] true (true, "13dc331e1975aa81921650795ae8cf8570dddbb58092df3655d18c083ec1526f") false
    proved (fun _ h => by cases h) (by kernel_rfl) (fun _ h => by cases h) sealFields_row_tie rfl ⟨rfl, rfl⟩ (by kernel_rfl) rfl
    (fun f fn hf hfn => by
      obtain rfl : f = 4 := Option.some.inj ((show Tryd.prog.funcNamed "breakwater/breakwaterlaw03.SealFields" = some 4 by kernel_rfl).symm.trans hf) |>.symm
      obtain rfl : fn = Tryd.f4 := (Option.some.inj (Tryd.func4.symm.trans hfn)).symm
      exact ⟨by kernel_rfl, fun j t ht => by
        rw [Tryd.params4] at ht
        have hm : t ∈ [22, 9, 9, 30, 30] := by simpa using Array.mem_of_getElem? ht
        have hall : ([22, 9, 9, 30, 30].all fun u => !Tryd.prog.wantsStandIn u) = true := by kernel_rfl
        exact (show Tryd.prog.wantsStandIn t = false by simpa using List.all_eq_true.1 hall t hm)⟩)
    (by kernel_rfl)
#print axioms card
end Go.Proofs.YtmnaemfijplnkaaDoor.sealFields
