/-
  The statement SealLong: no sector, a byte less or more, or of two put together, is one: for every kind and all texts the call answers true and the arguments stay as they were. No conditions; the listed table is tied to the program's text.
-/
import Derived.Test.YtmnaemfijplnkaaDoorSealWakes
import Derived.ShutString
import Derived.ChangeOld
namespace Go.Proofs.YtmnaemfijplnkaaDoor.sealLong
open Go.ChangeShapes Go.WideShapes Go.ChangeAt Go.RowKit
open Go.ChangeMaps (open_string shut_string)
set_option linter.unusedVariables false
set_option linter.unusedSimpArgs false

theorem longer {k : Int} {s m : ByteArray} (h1 : 1 ≤ k) (h2 : k ≤ 127) (h3 : s.size ≤ 505) (hm : 0 < m.size) : isS (sealS k s ++ m) = false := by
  have hl : (bytesI s).length ≤ 505 := by rw [bytesI_length]; exact h3
  have hb : IsBytes (bytesI (sealS k s ++ m)) := bytesI_bytes _
  unfold isS
  rw [bytesI_append, bytesI_sealS (by omega) (by omega)] at hb ⊢
  refine not_longer hl hb (fun h => ?_)
  have := bytesI_length m
  rw [h] at this
  simp at this
  omega
theorem shorter {k : Int} {s : ByteArray} {i : Nat} (h1 : 1 ≤ k) (h2 : k ≤ 127) (h3 : s.size ≤ 505) (hi : i < s.size + 7) : isS ((sealS k s).extract 0 i) = false := by
  have hl : (bytesI s).length ≤ 505 := by rw [bytesI_length]; exact h3
  have hb : IsBytes (sealI k (bytesI s)) := sealI_bytes (by omega) (by omega) (bytesI_bytes s)
  unfold isS
  rw [bytesI_take, bytesI_sealS (by omega) (by omega)]
  exact not_shorter hl hb (by rw [bytesI_length]; exact hi)

set_option maxRecDepth 100000 in
set_option maxHeartbeats 1000000 in
theorem walk (a0 : Int) (a1 : ByteArray) (a2 : ByteArray) (w0 : (Lit.int .i8 a0).wf = true) (w1 : a1.size ≤ maxLen) (w2 : a2.size ≤ maxLen) (w : World) (ht : TabOk w) :
    Calls Tryd.prog 7 #[.int .i8 a0, .string a1, .string a2] w fun e w' => e = .returned (.bool true) ∧ Below w.heap.size w w' := by
  have hk := (bd_i8 w0).2
  have M1 := Lib.hid w1
  have M2 := Lib.hid w2
  unfold maxLen at w1 w2
  clear w0
  by_cases hg : ((a1.size ≤ 505 ∧ a2.size ≤ 600) ∧ 0 < a2.size) ∧ 1 ≤ a0
  · obtain ⟨⟨⟨g1, g2⟩, g3⟩, g4⟩ := hg
    have hsz := sealS_size a0 a1
    have HL := Lib.hid (openOut_no (longer g4 hk g1 g3))
    have HS : Hid (∀ i, i < a1.size + 7 → openOut ((sealS a0 a1).extract 0 i) = .returned (.tuple #[.int .i8 0, .string ⟨#[]⟩, .int .i64 30])) := fun i hi => openOut_no (shorter g4 hk g1 hi)
    have HO := Lib.hid (sealOut_yes (mayS_yes g4 g1))
    generalize sealS a0 a1 = S at *
    have gz : ((a2.size : Int) == 0) = false := beq_eq_false_iff_ne.2 (by omega)
    have gne : ¬ a2 = ByteArray.empty := fun h => by rw [h] at g3; exact absurd g3 (by decide)
    go_enter Tryd.func7, Tryd.ntmps7
    go_wp2_with fail
    refine (Seal_any a0 a1 w hk M1.out ht).mono ?_
    rintro e v1 ⟨rfl, hb1⟩
    rw [HO.out]
    have ht1 := ht.below hb1
    go_wp2_with fail
    refine (Open_any (S ++ a2) v1 (by rw [ByteArray.size_append]; unfold maxLen; omega) ht1).mono ?_
    rintro e v2 ⟨rfl, hb2⟩
    rw [HL.out]
    have hb02 := hb1.trans (hb2.mono hb1.size)
    clear ht1 hb1 hb2
    go_wp2_with fail
    go_loopw [12] (fun i wr => ∃ k : Nat, k ≤ S.size ∧ i = .int .i64 k ∧ Below w.heap.size w wr) (fun i _ => S.size - (intOf i).toNat)
    case atStart => exact ⟨0, Nat.zero_le _, rfl, hb02⟩
    case round =>
      clear hb02
      obtain ⟨k, hkk, rfl, hb⟩ := hrel
      have htr := ht.below hb
      by_cases hlt : k < S.size
      · go_wp2_with fail
        refine (Open_any (S.extract 0 k) wr (by rw [ByteArray.size_extract]; unfold maxLen; omega) htr).mono ?_
        rintro e v3 ⟨rfl, hb3⟩
        rw [HS.out k (by omega)]
        have hb03 := hb.trans (hb3.mono hb.size)
        clear hb hb3 htr
        go_wp2_with fail
        go_roundw
        case rel => exact ⟨k + 1, by omega, by go_num, hb03⟩
        case measure => simp [intOf]; omega
      · go_wp2_with fail
        refine (wakes_any _ htr).mono ?_
        rintro e w6 ⟨rfl, hb6⟩
        go_wp2_with fail
        go_ret
        exact ⟨rfl, hb.trans (hb6.mono hb.size)⟩
  · have hcase : 505 < a1.size ∨ (a1.size ≤ 505 ∧ 600 < a2.size) ∨ (a1.size ≤ 505 ∧ a2.size ≤ 600 ∧ a2.size = 0) ∨ (a1.size ≤ 505 ∧ a2.size ≤ 600 ∧ 0 < a2.size ∧ a0 < 1) := by omega
    clear hg
    rcases hcase with g1 | ⟨g1, g2⟩ | ⟨g1, g2, g3⟩ | ⟨g1, g2, g3, g4⟩
    · go_enter Tryd.func7, Tryd.ntmps7
      go_wp2_with fail
      refine (wakes_any _ ht).mono ?_
      rintro e w6 ⟨rfl, hb6⟩
      go_wp2_with fail
      go_ret
      exact ⟨rfl, hb6⟩
    · go_enter Tryd.func7, Tryd.ntmps7
      go_wp2_with fail
      refine (wakes_any _ ht).mono ?_
      rintro e w6 ⟨rfl, hb6⟩
      go_wp2_with fail
      go_ret
      exact ⟨rfl, hb6⟩
    · obtain rfl : a2 = ByteArray.empty := bytesI_inj (by
        have h := bytesI_length a2
        rw [g3] at h
        rw [List.eq_nil_of_length_eq_zero h]
        rfl)
      go_enter Tryd.func7, Tryd.ntmps7
      go_wp2_with fail
      refine (wakes_any _ ht).mono ?_
      rintro e w6 ⟨rfl, hb6⟩
      go_wp2_with fail
      go_ret
      exact ⟨rfl, hb6⟩
    · have gne : ¬ a2 = ByteArray.empty := fun h => by rw [h] at g3; exact absurd g3 (by decide)
      go_enter Tryd.func7, Tryd.ntmps7
      go_wp2_with fail
      refine (wakes_any _ ht).mono ?_
      rintro e w6 ⟨rfl, hb6⟩
      go_wp2_with fail
      go_ret
      exact ⟨rfl, hb6⟩

/-! ### THE ROW's STEP: WRITTEN OUT: LEAVE IT -/
set_option maxRecDepth 100000 in
theorem lifted (os : Os) (started : os.Started) (H : Type) (enc : TypeId × Value → H) :
    ReturnsInHanded {} Tryd.checked os 7 .any (fun w args => (Rows.sealLongSpec.pre enc Tryd.prog Tryd.f7 [] false w args ∧ laidMetH Tryd.prog laidL w) ∧ sizedMet enc Tryd.prog Tryd.f7 (OpenSpec.ofChange Rows.sealLongSpec) false w args) (Rows.sealLongSpec.post enc Tryd.prog Tryd.f7 false true false false) := by
  refine returnsInHanded_of_change_and (C := Tryd.checked) (X := fun w _ => laidMetH Tryd.prog laidL w) (fun _ _ _ hh h => h.of_heap hh) own started (by kernel_rfl) Tryd.func7
    (ChangeSpec.witness_shaped (enc := enc) (C := Tryd.checked) (os := os) (X := fun w _ => laidMetH Tryd.prog laidL w) false (World.doorLaid Tryd.prog 14 os) #[.int .i8 0, .string ByteArray.empty, .string ByteArray.empty] 8 rfl (World.shaped_of_RefB (by kernel_rfl) (by kernel_rfl)) (by kernel_rfl) (by kernel_rfl) (by kernel_rfl) (door_met os _)) ?_
  intro W base args ds gs before hval0 hW _ _ hL _
  have hval : ∀ (j : Nat) t v, Tryd.f7.params[j]? = some t → args[j]? = some v → Value.okWide Tryd.prog W .any base t v := hval0
  have hW' := hW
  obtain ⟨p, q, hA0, hV, rfl, hfz, hnd⟩ := hW
  have hA : DataW.TrodAll enc Tryd.prog W 0 (fun _ => true) true Tryd.f7.params.toList args.toList ds p := hA0
  rw [Tryd.params7] at hA hval
  obtain ⟨v0, vs0, d0, ds0, p0, q0, hargs, rfl, rfl, h0, r0⟩ := trodAll_cons hA
  obtain ⟨v1, vs1, d1, ds1, p1, q1, rfl, rfl, rfl, h1, r1⟩ := trodAll_cons r0
  obtain ⟨v2, vs2, d2, ds2, p2, q2, rfl, rfl, rfl, h2, r2⟩ := trodAll_cons r1
  obtain ⟨rfl, rfl, rfl⟩ := trodAll_nil r2
  obtain rfl : args = #[v0, v1, v2] := by cases args; simp_all
  obtain ⟨rfl, rfl⟩ := trodVars_none hV
  obtain ⟨a0, rfl, rfl, rfl, w0⟩ := open_int Tryd.underlying22 (hval 0 22 v0 rfl rfl) h0
  obtain ⟨a1, rfl, rfl, rfl, w1⟩ := open_string Tryd.underlying9 (hval 1 9 v1 rfl rfl) h1
  obtain ⟨a2, rfl, rfl, rfl, w2⟩ := open_string Tryd.underlying9 (hval 2 9 v2 rfl rfl) h2
  clear hA0 hval0
  refine (walk a0 a1 a2 w0 w1 w2 W (met_of_laid hL)).mono fun e W' ⟨he, hg⟩ => ?_
  subst he
  exact ⟨_, rfl, _, _, _, [], _, [], hW', trodAll_mk1 (shut_bool Tryd.underlying4 _), (trodAll_cons_mk (shut_int Tryd.underlying22 w0) (trodAll_cons_mk (shut_string Tryd.underlying9 w1) (trodAll_cons_mk (shut_string Tryd.underlying9 w2) trodAll_mk0))), rfl, hg.frame _, fun h => by cases h⟩

theorem over : Rows.sealLongRow.holds Tryd.pinned (OpenSpec.ofChange Rows.sealLongSpec) :=
  OpenClaim.holds_of_wide 7 Tryd.f7 rfl rfl rfl rfl rfl rfl rfl ⟨rfl, rfl, rfl, rfl, rfl⟩ rfl rfl rfl rfl rfl (by kernel_rfl) Tryd.func7 (by kernel_rfl)
    (of_decide_eq_true (by kernel_rfl)) (by unfold Func.isWrapper; first | (rw [if_pos (by decide +kernel)]; kernel_rfl) | (rw [if_neg (by decide +kernel)]; exact ⟨rfl, rfl⟩))
    (fun os started H enc _ => lifted os started H enc)

/-- ████ THE STATEMENT ████ -/
theorem proved : Rows.SealLongSaid :=
  over
#print axioms proved

/-- THE TIED CARD. -/
theorem card : Rows.SealLongCardSaid :=
  Claim7.holds_tied_plain_at .later [] [.data] true (true, "13dc331e1975aa81921650795ae8cf8570dddbb58092df3655d18c083ec1526f") false
    proved (fun _ h => by cases h) (by kernel_rfl) (fun _ h => by cases h) sealLong_row_tie rfl ⟨rfl, rfl⟩ (by kernel_rfl) rfl
    (fun f fn hf hfn => by
      obtain rfl : f = 7 := Option.some.inj ((show Tryd.prog.funcNamed "breakwater/breakwaterlaw03.SealLong" = some 7 by kernel_rfl).symm.trans hf) |>.symm
      obtain rfl : fn = Tryd.f7 := (Option.some.inj (Tryd.func7.symm.trans hfn)).symm
      exact ⟨by kernel_rfl, fun j t ht => by
        rw [Tryd.params7] at ht
        have hm : t ∈ [22, 9, 9] := by simpa using Array.mem_of_getElem? ht
        have hall : ([22, 9, 9].all fun u => !Tryd.prog.wantsStandIn u) = true := by kernel_rfl
        exact (show Tryd.prog.wantsStandIn t = false by simpa using List.all_eq_true.1 hall t hm)⟩)
    (by kernel_rfl)
#print axioms card
end Go.Proofs.YtmnaemfijplnkaaDoor.sealLong
