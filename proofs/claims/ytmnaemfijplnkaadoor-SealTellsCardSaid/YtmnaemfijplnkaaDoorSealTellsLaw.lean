/-
  The statement SealTells: what is sealed, and opened, or what is wrong: for every kind and all texts the program's Seal, Open and Of answer as the document's own answer does, and the arguments stay as they were. No conditions; the listed table is tied to the program's text.
-/
import Derived.Test.YtmnaemfijplnkaaDoorSealWakes
import Derived.ShutString
import Derived.ChangeOld
namespace Go.Proofs.YtmnaemfijplnkaaDoor.sealTells
open Go.ChangeShapes Go.WideShapes Go.ChangeAt Go.RowKit
open Go.ChangeMaps (open_string shut_string)
set_option linter.unusedVariables false
set_option linter.unusedSimpArgs false

theorem openOut_gen (t : ByteArray) : ∃ k l e, openOut t = .returned (.tuple #[.int .i8 k, .string l, .int .i64 e]) := by
  unfold openOut
  split
  · exact ⟨_, _, _, rfl⟩
  · exact ⟨_, _, _, rfl⟩
theorem ofOut_gen (k : Int) (t : ByteArray) : ∃ l e, ofOut k t = .returned (.tuple #[.string l, .int .i64 e]) := by
  unfold ofOut
  split
  · exact ⟨_, _, rfl⟩
  · exact ⟨_, _, rfl⟩

set_option maxRecDepth 100000 in
set_option maxHeartbeats 1000000 in
theorem walk (a0 : Int) (a1 : ByteArray) (a2 : ByteArray) (w0 : (Lit.int .i8 a0).wf = true) (w1 : a1.size ≤ maxLen) (w2 : a2.size ≤ maxLen) (w : World) (ht : TabOk w) :
    Calls Tryd.prog 3 #[.int .i8 a0, .string a1, .string a2] w fun e w' => e = .returned (.bool true) ∧ Below w.heap.size w w' := by
  have hk := (bd_i8 w0).2
  have M1 := Lib.hid w1
  have M2 := Lib.hid w2
  unfold maxLen at w1 w2
  clear w0
  by_cases hg1 : a1.size ≤ 2000
  · by_cases hg2 : a2.size ≤ 2000
    · obtain ⟨ok, ol, oe, EO⟩ := openOut_gen a2
      obtain ⟨fl, fe, EF⟩ := ofOut_gen a0 a2
      have EO := Lib.hid EO
      have EF := Lib.hid EF
      go_enter Tryd.func3, Tryd.ntmps3
      go_wp2_with fail
      refine (Seal_any a0 a1 w hk M1.out ht).mono ?_
      rintro e v1 ⟨rfl, hb1⟩
      have ES : Hid (sealOut a0 a1 = .returned (.tuple #[.string (sealVal a0 a1), .int .i64 (sealErr a0 a1)])) := rfl
      generalize sealVal a0 a1 = sv at *
      generalize sealErr a0 a1 = se at *
      rw [ES.out]
      have ht1 := ht.below hb1
      go_wp2_with fail
      refine (refSeal_any a0 a1 v1 hk M1.out).mono ?_
      rintro e v2 ⟨rfl, hb2⟩
      rw [ES.out]
      have hb02 := hb1.trans (hb2.mono hb1.size)
      have ht2 := ht.below hb02
      clear hb1 hb2 ht1
      go_wp2_with fail
      refine (Open_any a2 v2 M2.out ht2).mono ?_
      rintro e v3 ⟨rfl, hb3⟩
      rw [EO.out]
      have hb03 := hb02.trans (hb3.mono hb02.size)
      clear hb02 hb3 ht2
      go_wp2_with fail
      refine (refOpen_any a2 v3 M2.out).mono ?_
      rintro e v4 ⟨rfl, hb4⟩
      rw [EO.out]
      have hb04 := hb03.trans (hb4.mono hb03.size)
      have ht4 := ht.below hb04
      clear hb03 hb4
      go_wp2_with fail
      refine (Of_any a0 a2 v4 M2.out ht4).mono ?_
      rintro e v5 ⟨rfl, hb5⟩
      rw [EF.out]
      have hb05 := hb04.trans (hb5.mono hb04.size)
      clear hb04 hb5 ht4
      go_wp2_with fail
      refine (refOf_any a0 a2 v5 M2.out).mono ?_
      rintro e v6 ⟨rfl, hb6⟩
      rw [EF.out]
      have hb06 := hb05.trans (hb6.mono hb05.size)
      have ht6 := ht.below hb06
      clear hb05 hb6
      go_wp2_with fail
      refine (wakes_any _ ht6).mono ?_
      rintro e v7 ⟨rfl, hb7⟩
      have hb07 := hb06.trans (hb7.mono hb06.size)
      clear hb06 hb7 ht6
      go_wp2_with fail
      go_ret
      exact ⟨rfl, hb07⟩
    · have hg2' : 2000 < a2.size := by omega
      clear hg2
      go_enter Tryd.func3, Tryd.ntmps3
      go_wp2_with fail
      refine (wakes_any _ ht).mono ?_
      rintro e w6 ⟨rfl, hb6⟩
      go_wp2_with fail
      go_ret
      exact ⟨rfl, hb6⟩
  · have hg1' : 2000 < a1.size := by omega
    clear hg1
    go_enter Tryd.func3, Tryd.ntmps3
    go_wp2_with fail
    refine (wakes_any _ ht).mono ?_
    rintro e w6 ⟨rfl, hb6⟩
    go_wp2_with fail
    go_ret
    exact ⟨rfl, hb6⟩

/-! ### THE ROW's STEP: WRITTEN OUT: LEAVE IT -/
set_option maxRecDepth 100000 in
theorem lifted (os : Os) (started : os.Started) (H : Type) (enc : TypeId × Value → H) :
    ReturnsInHanded {} Tryd.checked os 3 .any (fun w args => (Rows.sealTellsSpec.pre enc Tryd.prog Tryd.f3 [] false w args ∧ laidMetH Tryd.prog laidL w) ∧ sizedMet enc Tryd.prog Tryd.f3 (OpenSpec.ofChange Rows.sealTellsSpec) false w args) (Rows.sealTellsSpec.post enc Tryd.prog Tryd.f3 false true false false) := by
  refine returnsInHanded_of_change_and (C := Tryd.checked) (X := fun w _ => laidMetH Tryd.prog laidL w) (fun _ _ _ hh h => h.of_heap hh) own started (by kernel_rfl) Tryd.func3
    (ChangeSpec.witness_shaped (enc := enc) (C := Tryd.checked) (os := os) (X := fun w _ => laidMetH Tryd.prog laidL w) false (World.doorLaid Tryd.prog 14 os) #[.int .i8 0, .string ByteArray.empty, .string ByteArray.empty] 8 rfl (World.shaped_of_RefB (by kernel_rfl) (by kernel_rfl)) (by kernel_rfl) (by kernel_rfl) (by kernel_rfl) (door_met os _)) ?_
  intro W base args ds gs before hval0 hW _ _ hL _
  have hval : ∀ (j : Nat) t v, Tryd.f3.params[j]? = some t → args[j]? = some v → Value.okWide Tryd.prog W .any base t v := hval0
  have hW' := hW
  obtain ⟨p, q, hA0, hV, rfl, hfz, hnd⟩ := hW
  have hA : DataW.TrodAll enc Tryd.prog W 0 (fun _ => true) true Tryd.f3.params.toList args.toList ds p := hA0
  rw [Tryd.params3] at hA hval
  obtain ⟨v0, vs0, d0, ds0, p0, q0, hargs, rfl, rfl, h0, r0⟩ := trodAll_cons hA
  obtain ⟨v1, vs1, d1, ds1, p1, q1, rfl, rfl, rfl, h1, r1⟩ := trodAll_cons r0
  obtain ⟨v2, vs2, d2, ds2, p2, q2, rfl, rfl, rfl, h2, r2⟩ := trodAll_cons r1
  obtain ⟨rfl, rfl, rfl⟩ := trodAll_nil r2
  obtain rfl : args = #[v0, v1, v2] := by cases args; simp_all
  obtain ⟨rfl, rfl⟩ := trodVars_none hV
  obtain ⟨a0, rfl, rfl, rfl, w0⟩ := open_int Tryd.underlying22 (hval 0 22 v0 rfl rfl) h0
  obtain ⟨a1, rfl, rfl, rfl, w1⟩ := open_string Tryd.underlying9 (hval 1 9 v1 rfl rfl) h1
  obtain ⟨a2, rfl, rfl, rfl, w2⟩ := open_string Tryd.underlying9 (hval 2 9 v2 rfl rfl) h2
  clear hA0 hval0
  refine (walk a0 a1 a2 w0 w1 w2 W (met_of_laid hL)).mono fun e W' ⟨he, hg⟩ => ?_
  subst he
  exact ⟨_, rfl, _, _, _, [], _, [], hW', trodAll_mk1 (shut_bool Tryd.underlying4 _), (trodAll_cons_mk (shut_int Tryd.underlying22 w0) (trodAll_cons_mk (shut_string Tryd.underlying9 w1) (trodAll_cons_mk (shut_string Tryd.underlying9 w2) trodAll_mk0))), rfl, hg.frame _, fun h => by cases h⟩

theorem over : Rows.sealTellsRow.holds Tryd.pinned (OpenSpec.ofChange Rows.sealTellsSpec) :=
  OpenClaim.holds_of_wide 3 Tryd.f3 rfl rfl rfl rfl rfl rfl rfl ⟨rfl, rfl, rfl, rfl, rfl⟩ rfl rfl rfl rfl rfl (by kernel_rfl) Tryd.func3 (by kernel_rfl)
    (of_decide_eq_true (by kernel_rfl)) (by unfold Func.isWrapper; first | (rw [if_pos (by decide +kernel)]; kernel_rfl) | (rw [if_neg (by decide +kernel)]; exact ⟨rfl, rfl⟩))
    (fun os started H enc _ => lifted os started H enc)

/-- ████ THE STATEMENT ████ -/
theorem proved : Rows.SealTellsSaid :=
  over
#print axioms proved

/-- THE TIED CARD. -/
theorem card : Rows.SealTellsCardSaid :=
  Claim7.holds_tied_plain_at .later [] [.data] true (true, "13dc331e1975aa81921650795ae8cf8570dddbb58092df3655d18c083ec1526f") false
    proved (fun _ h => by cases h) (by kernel_rfl) (fun _ h => by cases h) sealTells_row_tie rfl ⟨rfl, rfl⟩ (by kernel_rfl) rfl
    (fun f fn hf hfn => by
      obtain rfl : f = 3 := Option.some.inj ((show Tryd.prog.funcNamed "breakwater/breakwaterlaw03.SealTells" = some 3 by kernel_rfl).symm.trans hf) |>.symm
      obtain rfl : fn = Tryd.f3 := (Option.some.inj (Tryd.func3.symm.trans hfn)).symm
      exact ⟨by kernel_rfl, fun j t ht => by
        rw [Tryd.params3] at ht
        have hm : t ∈ [22, 9, 9] := by simpa using Array.mem_of_getElem? ht
        have hall : ([22, 9, 9].all fun u => !Tryd.prog.wantsStandIn u) = true := by kernel_rfl
        exact (show Tryd.prog.wantsStandIn t = false by simpa using List.all_eq_true.1 hall t hm)⟩)
    (by kernel_rfl)
#print axioms card
end Go.Proofs.YtmnaemfijplnkaaDoor.sealTells
