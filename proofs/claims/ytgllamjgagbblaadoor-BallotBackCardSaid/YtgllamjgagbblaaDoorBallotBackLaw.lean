/-
  The statement BallotBack: a record's sector is read as it, and is none with one bit turned about; what is read has that sector, but the empty one: for every record, all texts and bits the call answers true and leaves its arguments as they were. No conditions; the listed table is tied to the program's text.
-/
import Derived.Test.YtgllamjgagbblaaDoorBallotWakes
import Derived.Test.YtgllamjgagbblaaDoorBallotArg
import Derived.Test.YtgllamjgagbblaaDoorSealTurn
import Derived.Test.YtgllamjgagbblaaDoorLaid
import Derived.ShutString
import Derived.ChangeOld
import Derived.Below
namespace Go.Proofs.YtgllamjgagbblaaDoor.ballotBack
open Go.ChangeShapes Go.WideShapes Go.ChangeAt Go.RowKit
open Go.ChangeMaps (open_string shut_string)
set_option linter.unusedVariables false
set_option linter.unusedSimpArgs false

theorem turn_bad {i m b : Int} {v : ByteArray} (h : recMay i m b v = true) {n : Nat} (hn : n < 8 * (recS i m b v).size) : readV (turnS (recS i m b v) n) = .tuple #[.agg #[.int .i64 0, .int .i64 0, .int .i64 0, .string ⟨#[]⟩], .int .i64 50] := by
  obtain ⟨_, _, hm⟩ := makeB_iff.1 (rec_ok h)
  have hs := (of_mayS hm).2
  have hz := recS_size h
  refine read_bad (rdB_isS (turn_isS (by omega) (by omega) hs hn)) fun e => ?_
  have := congrArg ByteArray.size e
  rw [turnS_size] at this
  have h0 : (⟨#[]⟩ : ByteArray).size = 0 := rfl
  omega

set_option maxRecDepth 100000 in
set_option maxHeartbeats 2000000 in
theorem walk (i0 m0 b0 : Int) (s0 : ByteArray) (a1 : ByteArray) (a2 : Int) (w : World) (w0 : RecBd i0 m0 b0 s0) (w1 : a1.size ≤ maxLen) (w2 : (Lit.int .i64 a2).wf = true) (ht : TabOk w) :
    Calls Tryd.prog 4 #[.agg #[.int .i64 i0, .int .i64 m0, .int .i64 b0, .string s0], .string a1, .int .i64 a2] w fun e w' => e = .returned (.bool true) ∧ Below w.heap.size w w' := by
  obtain ⟨-, -, -, w0⟩ := w0
  have M0 := Lib.hid w0
  have M1 := Lib.hid w1
  have bd2 := bd_i64 w2
  unfold maxLen at w0 w1
  have bB : Below w.heap.size w (w.alloc (.cells #[.int .i64 i0, .int .i64 m0, .int .i64 b0, .string s0] 24)) := (Below.refl _ _).alloc (Nat.le_refl _) _
  have pB := Blk.new w #[.int .i64 i0, .int .i64 m0, .int .i64 b0, .string s0] 24
  have htB := ht.below bB
  clear w2
  go_enter Tryd.func4, Tryd.ntmps4
  by_cases g1 : 1000 < s0.size
  · clear pB
    go_wp2_with fail
    refine (wakes_any _ htB).mono ?_
    rintro e w6 ⟨rfl, hb6⟩
    have b6 := below_then bB hb6
    go_wp2_with fail
    go_ret
    exact ⟨rfl, b6⟩
  have g1' : s0.size ≤ 1000 := by omega
  clear g1
  by_cases g2 : 1000 < a1.size
  · clear pB
    go_wp2_with fail
    refine (wakes_any _ htB).mono ?_
    rintro e w6 ⟨rfl, hb6⟩
    have b6 := below_then bB hb6
    go_wp2_with fail
    go_ret
    exact ⟨rfl, b6⟩
  have g2' : a1.size ≤ 1000 := by omega
  clear g2
  by_cases hm : recMay i0 m0 b0 s0 = true
  · have HV := Lib.hid (rec_yes hm)
    have HR := Lib.hid (read_rec hm)
    have HT := Lib.hid (fun n hn => turn_bad (n := n) hm hn)
    have hz := recS_size hm
    clear hm
    generalize recS i0 m0 b0 s0 = S at *
    have hSM : S.size ≤ maxLen := by unfold maxLen; omega
    obtain ⟨f, hf, ef⟩ := turn_rest a2 (8 * S.size) (by omega) (by omega)
    rw [Int.natCast_mul] at ef
    have ef : (wrap64 (a2.tmod (8 * (S.size : Int)) + 8 * (S.size : Int))).tmod (8 * (S.size : Int)) = (f : Int) := ef
    have HT2 := Lib.hid (HT.out f hf)
    have hTM : (turnS S f).size ≤ maxLen := by rw [turnS_size]; exact hSM
    have hs0 := str_same s0
    clear HT
    go_wp2_with fail
    refine (bBytes_any i0 m0 b0 s0 _ M0.out htB).mono ?_
    rintro e v1 ⟨rfl, hb1⟩
    rw [HV.out.1, HV.out.2]
    have b1 := below_then bB hb1
    have p1 := pB.below hb1 pB.lt
    have ht1 := ht.below b1
    clear hb1 pB bB htB HV
    go_wp2_with fail
    refine (bRead_any S v1 hSM ht1).mono ?_
    rintro e v2 ⟨rfl, hb2⟩
    rw [HR.out]
    have b2 := below_then b1 hb2
    have p2 := p1.below hb2 p1.lt
    have p3 := p2.alloc (.cells #[.int .i64 i0, .int .i64 m0, .int .i64 b0, .string s0] 24)
    have b3 := b2.alloc b2.size (.cells #[.int .i64 i0, .int .i64 m0, .int .i64 b0, .string s0] 24)
    obtain ⟨c0, c1, c2, c3⟩ := rec_cells p3
    obtain ⟨k0, wb, hcv0, hfa0, hbb⟩ := str_fresh (P := Tryd.prog) (v2.alloc (.cells #[.int .i64 i0, .int .i64 m0, .int .i64 b0, .string s0] 24)) 9 31 5 S Tryd.underlying9 Tryd.underlying31 Tryd.underlying5
    have b4 := below_then b3 hbb
    have hsz3 : (v2.alloc (.cells #[.int .i64 i0, .int .i64 m0, .int .i64 b0, .string s0] 24)).heap.size = v2.heap.size + 1 := by simp
    have hg : w.heap.size ≤ (v2.alloc (.cells #[.int .i64 i0, .int .i64 m0, .int .i64 b0, .string s0] 24)).heap.size := b3.size
    rw [hsz3] at hfa0 hcv0 hg
    clear hsz3
    have hl8 : f / 8 < (nats (bytesI S)).length := by rw [nats_length, bytesI_length]; omega
    have HLN : Hid ((nats (bytesI S)).length = S.size) := by show _ = _; rw [nats_length, bytesI_length]
    have hl8' : f / 8 < S.size := by omega
    have hconv := turn_conv (c := k0) (m := S.size) hfa0 hf rfl
    have hcell := hfa0.cell hl8
    have hfr := hfa0.free hl8
    rw [show (nats (bytesI S))[f / 8] = (nats (bytesI S)).getD (f / 8) 0 from by rw [List.getD, List.getElem?_eq_getElem hl8]; rfl] at hcell
    have hq : (nats (bytesI S)).getD (f / 8) 0 < 256 := by
      rw [List.getD, List.getElem?_eq_getElem hl8]
      exact bytes_nats (bytesI_bytes S) _ (List.getElem_mem hl8)
    have b5 := below_set b4 hg (f / 8) (.int .u8 (bits .xor .u8 (((nats (bytesI S)).getD (f / 8) 0 : Nat) : Int) (2 ^ (f % 8) % 256)))
    generalize (nats (bytesI S)).getD (f / 8) 0 = Q at *
    have ht5 := ht.below b5
    clear hb2 p1 b1 ht1 HR p2 b2 p3 b3 hbb hfa0 b4 hl8
    go_wp2_with fail
    refine (bRead_any (turnS S f) _ hTM ht5).mono ?_
    rintro e v6 ⟨rfl, hb6⟩
    rw [HT2.out]
    have hb := below_then b5 hb6
    clear b5 hb6 ht5 hconv hcell hfr hcv0 HT2 hTM c0 c1 c2 c3
    have htv := ht.below hb
    go_wp2_with fail
    refine (bRead_any a1 v6 M1.out htv).mono ?_
    rintro e v7 ⟨rfl, hb7⟩
    have b7 := below_then hb hb7
    clear hb hb7 htv
    by_cases he : a1 = ⟨#[]⟩
    · subst he
      have HR : Hid (readV ⟨#[]⟩ = .tuple #[.agg #[.int .i64 0, .int .i64 0, .int .i64 0, .string ⟨#[]⟩], .int .i64 0]) := by
        show _ = _
        unfold readV
        rw [rd_empty.1, rd_empty.2.1, rd_empty.2.2.1, rd_empty.2.2.2.1, rd_empty.2.2.2.2]
      rw [HR.out]
      have HV := Lib.hid (rec_yes recMay_zero)
      have HM := Lib.hid recMay_zero
      have p8 := Blk.new v7 #[.int .i64 0, .int .i64 0, .int .i64 0, .string ⟨#[]⟩] 24
      have b8 := b7.alloc b7.size (.cells #[.int .i64 0, .int .i64 0, .int .i64 0, .string ⟨#[]⟩] 24)
      have ht8 := ht.below b8
      generalize recS 0 0 0 ⟨#[]⟩ = Z at *
      clear HR b7
      go_wp2_with fail
      refine (bBytes_any 0 0 0 ⟨#[]⟩ _ (by decide) ht8).mono ?_
      rintro e v9 ⟨rfl, hb9⟩
      rw [HV.out.1, HV.out.2]
      have p9 := p8.below hb9 p8.lt
      have b9 := below_then b8 hb9
      obtain ⟨c0, c1, c2, c3⟩ := rec_cells p9
      clear HV p8 b8 ht8 hb9
      go_wp2_with fail
      refine (bMay_any 0 0 0 ⟨#[]⟩ _ (by decide)).mono ?_
      rintro e v10 ⟨rfl, hb10⟩
      rw [HM.out]
      have p10 := p9.below hb10 p9.lt
      have b10 := below_then b9 hb10
      obtain ⟨d0, d1, d2, d3⟩ := rec_cells p10
      have ht10 := ht.below b10
      clear p9 b9 hb10 c0 c1 c2 c3 HM p10
      go_wp2_with fail
      refine (wakes_any _ ht10).mono ?_
      rintro e w6 ⟨rfl, hb11⟩
      have b11 := below_then b10 hb11
      clear b10 hb11 ht10
      go_wp2_with fail
      go_ret
      exact ⟨rfl, b11⟩
    · by_cases hr : rdB a1 = true
      · obtain ⟨hm, hsec⟩ := rec_rd hr
        have hsz := (of_recMay hm).2.2.2.2.2.2
        obtain ⟨hv1, hv2⟩ := rec_yes hm
        rw [hsec] at hv1
        have HE := Lib.hid (rd_yes hr).2.2.2.2
        have hse : a1.toList.isEmpty = false := ne_empty he
        have hss := str_same a1
        have HRV : Hid (readV a1 = .tuple #[.agg #[.int .i64 (rdI a1), .int .i64 (rdM a1), .int .i64 (rdL a1), .string (rdV a1)], .int .i64 0]) := by
          show _ = _
          unfold readV
          rw [HE.out]
        rw [HRV.out]
        have HV := Lib.hid (And.intro hv1 hv2)
        have HM := Lib.hid hm
        clear hsec hr hm HRV HE hv1 hv2 he
        generalize rdI a1 = x0 at *
        generalize rdM a1 = x1 at *
        generalize rdL a1 = x2 at *
        generalize rdV a1 = x3 at *
        have hxM : x3.size ≤ maxLen := by unfold maxLen; omega
        have p8 := Blk.new v7 #[.int .i64 x0, .int .i64 x1, .int .i64 x2, .string x3] 24
        have b8 := b7.alloc b7.size (.cells #[.int .i64 x0, .int .i64 x1, .int .i64 x2, .string x3] 24)
        have ht8 := ht.below b8
        clear b7
        go_wp2_with fail
        refine (bBytes_any x0 x1 x2 x3 _ hxM ht8).mono ?_
        rintro e v9 ⟨rfl, hb9⟩
        rw [HV.out.1, HV.out.2]
        have p9 := p8.below hb9 p8.lt
        have b9 := below_then b8 hb9
        obtain ⟨c0, c1, c2, c3⟩ := rec_cells p9
        clear HV p8 b8 ht8 hb9
        go_wp2_with fail
        refine (bMay_any x0 x1 x2 x3 _ hxM).mono ?_
        rintro e v10 ⟨rfl, hb10⟩
        rw [HM.out]
        have b10 := below_then b9 hb10
        have ht10 := ht.below b10
        clear p9 b9 hb10 c0 c1 c2 c3 HM
        go_wp2_with fail
        refine (wakes_any _ ht10).mono ?_
        rintro e w6 ⟨rfl, hb11⟩
        have b11 := below_then b10 hb11
        clear b10 hb11 ht10
        go_wp2_with fail
        go_ret
        exact ⟨rfl, b11⟩
      · have HR := Lib.hid (read_bad (by simpa using hr) he)
        rw [HR.out]
        have p8 := Blk.new v7 #[.int .i64 0, .int .i64 0, .int .i64 0, .string ⟨#[]⟩] 24
        have b8 := b7.alloc b7.size (.cells #[.int .i64 0, .int .i64 0, .int .i64 0, .string ⟨#[]⟩] 24)
        have ht8 := ht.below b8
        clear HR b7 hr he
        go_wp2_with fail
        refine (wakes_any _ ht8).mono ?_
        rintro e w6 ⟨rfl, hb11⟩
        have b11 := below_then b8 hb11
        clear b8 hb11 ht8
        go_wp2_with fail
        go_ret
        exact ⟨rfl, b11⟩
  · have HV := Lib.hid (rec_no (by simpa using hm : recMay i0 m0 b0 s0 = false))
    clear hm
    go_wp2_with fail
    refine (bBytes_any i0 m0 b0 s0 _ M0.out htB).mono ?_
    rintro e v6 ⟨rfl, hb1⟩
    rw [HV.out.1, HV.out.2]
    have hb := below_then bB hb1
    have htv := ht.below hb
    clear hb1 pB bB htB HV
    go_wp2_with fail
    refine (bRead_any a1 v6 M1.out htv).mono ?_
    rintro e v7 ⟨rfl, hb7⟩
    have b7 := below_then hb hb7
    clear hb hb7 htv
    by_cases he : a1 = ⟨#[]⟩
    · subst he
      have HR : Hid (readV ⟨#[]⟩ = .tuple #[.agg #[.int .i64 0, .int .i64 0, .int .i64 0, .string ⟨#[]⟩], .int .i64 0]) := by
        show _ = _
        unfold readV
        rw [rd_empty.1, rd_empty.2.1, rd_empty.2.2.1, rd_empty.2.2.2.1, rd_empty.2.2.2.2]
      rw [HR.out]
      have HV := Lib.hid (rec_yes recMay_zero)
      have HM := Lib.hid recMay_zero
      have p8 := Blk.new v7 #[.int .i64 0, .int .i64 0, .int .i64 0, .string ⟨#[]⟩] 24
      have b8 := b7.alloc b7.size (.cells #[.int .i64 0, .int .i64 0, .int .i64 0, .string ⟨#[]⟩] 24)
      have ht8 := ht.below b8
      generalize recS 0 0 0 ⟨#[]⟩ = Z at *
      clear HR b7
      go_wp2_with fail
      refine (bBytes_any 0 0 0 ⟨#[]⟩ _ (by decide) ht8).mono ?_
      rintro e v9 ⟨rfl, hb9⟩
      rw [HV.out.1, HV.out.2]
      have p9 := p8.below hb9 p8.lt
      have b9 := below_then b8 hb9
      obtain ⟨c0, c1, c2, c3⟩ := rec_cells p9
      clear HV p8 b8 ht8 hb9
      go_wp2_with fail
      refine (bMay_any 0 0 0 ⟨#[]⟩ _ (by decide)).mono ?_
      rintro e v10 ⟨rfl, hb10⟩
      rw [HM.out]
      have p10 := p9.below hb10 p9.lt
      have b10 := below_then b9 hb10
      obtain ⟨d0, d1, d2, d3⟩ := rec_cells p10
      have ht10 := ht.below b10
      clear p9 b9 hb10 c0 c1 c2 c3 HM p10
      go_wp2_with fail
      refine (wakes_any _ ht10).mono ?_
      rintro e w6 ⟨rfl, hb11⟩
      have b11 := below_then b10 hb11
      clear b10 hb11 ht10
      go_wp2_with fail
      go_ret
      exact ⟨rfl, b11⟩
    · by_cases hr : rdB a1 = true
      · obtain ⟨hm, hsec⟩ := rec_rd hr
        have hsz := (of_recMay hm).2.2.2.2.2.2
        obtain ⟨hv1, hv2⟩ := rec_yes hm
        rw [hsec] at hv1
        have HE := Lib.hid (rd_yes hr).2.2.2.2
        have hse : a1.toList.isEmpty = false := ne_empty he
        have hss := str_same a1
        have HRV : Hid (readV a1 = .tuple #[.agg #[.int .i64 (rdI a1), .int .i64 (rdM a1), .int .i64 (rdL a1), .string (rdV a1)], .int .i64 0]) := by
          show _ = _
          unfold readV
          rw [HE.out]
        rw [HRV.out]
        have HV := Lib.hid (And.intro hv1 hv2)
        have HM := Lib.hid hm
        clear hsec hr hm HRV HE hv1 hv2 he
        generalize rdI a1 = x0 at *
        generalize rdM a1 = x1 at *
        generalize rdL a1 = x2 at *
        generalize rdV a1 = x3 at *
        have hxM : x3.size ≤ maxLen := by unfold maxLen; omega
        have p8 := Blk.new v7 #[.int .i64 x0, .int .i64 x1, .int .i64 x2, .string x3] 24
        have b8 := b7.alloc b7.size (.cells #[.int .i64 x0, .int .i64 x1, .int .i64 x2, .string x3] 24)
        have ht8 := ht.below b8
        clear b7
        go_wp2_with fail
        refine (bBytes_any x0 x1 x2 x3 _ hxM ht8).mono ?_
        rintro e v9 ⟨rfl, hb9⟩
        rw [HV.out.1, HV.out.2]
        have p9 := p8.below hb9 p8.lt
        have b9 := below_then b8 hb9
        obtain ⟨c0, c1, c2, c3⟩ := rec_cells p9
        clear HV p8 b8 ht8 hb9
        go_wp2_with fail
        refine (bMay_any x0 x1 x2 x3 _ hxM).mono ?_
        rintro e v10 ⟨rfl, hb10⟩
        rw [HM.out]
        have b10 := below_then b9 hb10
        have ht10 := ht.below b10
        clear p9 b9 hb10 c0 c1 c2 c3 HM
        go_wp2_with fail
        refine (wakes_any _ ht10).mono ?_
        rintro e w6 ⟨rfl, hb11⟩
        have b11 := below_then b10 hb11
        clear b10 hb11 ht10
        go_wp2_with fail
        go_ret
        exact ⟨rfl, b11⟩
      · have HR := Lib.hid (read_bad (by simpa using hr) he)
        rw [HR.out]
        have p8 := Blk.new v7 #[.int .i64 0, .int .i64 0, .int .i64 0, .string ⟨#[]⟩] 24
        have b8 := b7.alloc b7.size (.cells #[.int .i64 0, .int .i64 0, .int .i64 0, .string ⟨#[]⟩] 24)
        have ht8 := ht.below b8
        clear HR b7 hr he
        go_wp2_with fail
        refine (wakes_any _ ht8).mono ?_
        rintro e w6 ⟨rfl, hb11⟩
        have b11 := below_then b8 hb11
        clear b8 hb11 ht8
        go_wp2_with fail
        go_ret
        exact ⟨rfl, b11⟩

/-! ### THE ROW's STEP -/
set_option maxRecDepth 100000 in
theorem lifted (os : Os) (started : os.Started) (H : Type) (enc : TypeId × Value → H) :
    ReturnsInHanded {} Tryd.checked os 4 .any (fun w args => (Rows.ballotBackSpec.pre enc Tryd.prog Tryd.f4 [] false w args ∧ laidMetH Tryd.prog laidL w) ∧ sizedMet enc Tryd.prog Tryd.f4 (OpenSpec.ofChange Rows.ballotBackSpec) false w args) (Rows.ballotBackSpec.post enc Tryd.prog Tryd.f4 false true false false) := by
  refine returnsInHanded_of_change_and (C := Tryd.checked) (X := fun w _ => laidMetH Tryd.prog laidL w) (fun _ _ _ hh h => h.of_heap hh) own started (by kernel_rfl) Tryd.func4
    (ChangeSpec.witness_shaped (enc := enc) (C := Tryd.checked) (os := os) (X := fun w _ => laidMetH Tryd.prog laidL w) false (World.doorLaid Tryd.prog 14 os) #[.agg #[.int .i64 0, .int .i64 0, .int .i64 0, .string ByteArray.empty], .string ByteArray.empty, .int .i64 0] 8 rfl (World.shaped_of_RefB (by kernel_rfl) (by kernel_rfl)) (by kernel_rfl) (by kernel_rfl) (by kernel_rfl) (door_met os _)) ?_
  intro W base args ds gs before hval0 hW _ _ hL _
  have hval : ∀ (j : Nat) t v, Tryd.f4.params[j]? = some t → args[j]? = some v → Value.okWide Tryd.prog W .any base t v := hval0
  have hW' := hW
  obtain ⟨p, q, hA0, hV, rfl, hfz, hnd⟩ := hW
  have hA : DataW.TrodAll enc Tryd.prog W 0 (fun _ => true) true Tryd.f4.params.toList args.toList ds p := hA0
  rw [Tryd.params4] at hA hval
  obtain ⟨v0, vs0, d0, ds0, p0, q0, hargs, rfl, rfl, h0, r0⟩ := trodAll_cons hA
  obtain ⟨v1, vs1, d1, ds1, p1, q1, rfl, rfl, rfl, h1, r1⟩ := trodAll_cons r0
  obtain ⟨v2, vs2, d2, ds2, p2, q2, rfl, rfl, rfl, h2, r2⟩ := trodAll_cons r1
  obtain ⟨rfl, rfl, rfl⟩ := trodAll_nil r2
  obtain rfl : args = #[v0, v1, v2] := by cases args; simp_all
  obtain ⟨rfl, rfl⟩ := trodVars_none hV
  have k0 := h0
  have lt0 : ∀ x ∈ p0, x.block < W.heap.size := by obtain ⟨m, hm⟩ := k0; exact DataW.trod_lt m _ _ _ hm
  obtain ⟨i0, m0, b0, s0, rfl, w0⟩ := open_rec (hval 0 24 v0 rfl rfl) h0
  obtain ⟨a1, rfl, rfl, rfl, w1⟩ := open_string Tryd.underlying9 (hval 1 9 v1 rfl rfl) h1
  obtain ⟨a2, rfl, rfl, rfl, w2⟩ := open_int Tryd.underlying3 (hval 2 3 v2 rfl rfl) h2
  clear hA0 hval0
  refine (walk i0 m0 b0 s0 a1 a2 W w0 w1 w2 (met_of_laid hL)).mono fun e W' ⟨he, bel⟩ => ?_
  subst he
  exact ⟨_, rfl, _, _, _, [], _, [], hW', trodAll_mk1 (shut_bool Tryd.underlying4 _), (trodAll_cons_mk (Below.trod laidOut (by kernel_rfl) (of_decide_eq_true (by kernel_rfl)) k0 bel lt0) (trodAll_cons_mk (shut_string Tryd.underlying9 w1) (trodAll_cons_mk (shut_int Tryd.underlying3 w2) trodAll_mk0))), rfl, bel.frame _, fun h => by cases h⟩

theorem over : Rows.ballotBackRow.holds Tryd.pinned (OpenSpec.ofChange Rows.ballotBackSpec) :=
  OpenClaim.holds_of_wide 4 Tryd.f4 rfl rfl rfl rfl rfl rfl rfl ⟨rfl, rfl, rfl, rfl, rfl⟩ rfl rfl rfl rfl rfl (by kernel_rfl) Tryd.func4 (by kernel_rfl)
    (of_decide_eq_true (by kernel_rfl)) (by unfold Func.isWrapper; first | (rw [if_pos (by decide +kernel)]; kernel_rfl) | (rw [if_neg (by decide +kernel)]; exact ⟨rfl, rfl⟩))
    (fun os started H enc _ => lifted os started H enc)

/-- The statement. -/
theorem proved : Rows.BallotBackSaid := over
#print axioms proved

/-- THE TIED CARD. -/
theorem card : Rows.BallotBackCardSaid :=
  Claim7.holds_tied_plain_at .later [] [.data] true (true, "9b282f679404cd788f6332000a6e008f09f8cd817f4e2dd17798d1668e2a916c") false
    proved (fun _ h => by cases h) (by kernel_rfl) (fun _ h => by cases h) ballotBack_row_tie rfl ⟨rfl, rfl⟩ (by kernel_rfl) rfl
    (fun f fn hf hfn => by
      obtain rfl : f = 4 := Option.some.inj ((show Tryd.prog.funcNamed "breakwater/breakwaterlaw08.BallotBack" = some 4 by kernel_rfl).symm.trans hf) |>.symm
      obtain rfl : fn = Tryd.f4 := (Option.some.inj (Tryd.func4.symm.trans hfn)).symm
      exact ⟨by kernel_rfl, fun j t ht => by
        rw [Tryd.params4] at ht
        have hm : t ∈ [24, 9, 3] := by simpa using Array.mem_of_getElem? ht
        have hall : ([24, 9, 3].all fun u => !Tryd.prog.wantsStandIn u) = true := by kernel_rfl
        exact (show Tryd.prog.wantsStandIn t = false by simpa using List.all_eq_true.1 hall t hm)⟩)
    (by kernel_rfl)
#print axioms card
end Go.Proofs.YtgllamjgagbblaaDoor.ballotBack
