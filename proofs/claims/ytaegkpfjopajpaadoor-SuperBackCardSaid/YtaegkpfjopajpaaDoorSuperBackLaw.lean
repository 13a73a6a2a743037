/-
  The statement SuperBack: a superblock is read as its geometry, a header as its tail, what is at first checks as the geometry; and what is read, written, is the sector: for every geometry, every tail and every text the call answers true and leaves its arguments as they were. No conditions; the listed table is tied to the program's text.
-/
import Derived.Test.YtaegkpfjopajpaaDoorSuperWakes
import Derived.Test.YtaegkpfjopajpaaDoorSuperSet
import Derived.Test.YtaegkpfjopajpaaDoorSuperFormat
import Derived.Test.YtaegkpfjopajpaaDoorGeoOpen
import Derived.Test.YtaegkpfjopajpaaDoorLaid
import Derived.Deep.DeepCutAuto
import Derived.ShutString
import Derived.ChangeOld
import Derived.Below
namespace Go.Proofs.YtaegkpfjopajpaaDoor.superBack
open Go.ChangeShapes Go.WideShapes Go.ChangeAt Go.RowKit
open Go.ChangeMaps (open_string shut_string)
set_option linter.unusedVariables false
set_option linter.unusedSimpArgs false

/-- A header, read again. -/
theorem again_head (t : Int) : (tailMay t = true ∧ headE t = 0 ∧ tailV (headV' t) = t ∧ tailE (headV' t) = 0 ∧ 0 ≤ t ∧ t ≤ 1099511627776) ∨ (headE t = 2 ∧ t < 0) ∨ (headE t = 2 ∧ 0 ≤ t ∧ 1099511627776 < t) := by
  by_cases h0 : 0 ≤ t
  · by_cases h1 : t ≤ 1099511627776
    · have hm : tailMay t = true := decide_eq_true ⟨h0, h1⟩
      have e1 : headV' t = headS t := if_pos hm
      have e2 : headE t = 0 := if_pos hm
      rw [e1]
      exact .inl ⟨hm, e2, (tail_head hm).2.1, (tail_head hm).2.2, h0, h1⟩
    · have hm : tailMay t = false := decide_eq_false (by omega)
      exact .inr (.inr ⟨by rw [headE, hm]; rfl, h0, by omega⟩)
  · have hm : tailMay t = false := decide_eq_false (by omega)
    exact .inr (.inl ⟨by rw [headE, hm]; rfl, by omega⟩)
theorem headV_size (t : Int) : (headV' t).size ≤ maxLen := by
  unfold headV'
  split
  · rename_i h
    exact Nat.le_trans (tailB_size (tail_head h).1).2 (by unfold maxLen; omega)
  · exact Nat.zero_le _
theorem read_again {s : ByteArray} (h : readB s = true) : bytesV (readG s) = s ∧ bytesE (readG s) = 0 := by
  obtain ⟨h1, h2⟩ := sup_read h
  obtain ⟨e1, e2⟩ := bytes_yes h1
  exact ⟨e1.trans h2, e2⟩
theorem tail_again {s : ByteArray} (h : tailB s = true) : headV' (tailV s) = s ∧ headE (tailV s) = 0 := by
  obtain ⟨h1, h2⟩ := head_tail h
  exact ⟨(if_pos h1).trans h2, if_pos h1⟩

set_option maxRecDepth 100000 in
set_option maxHeartbeats 4000000 in
theorem walk (g : G) (a1 : Int) (a2 : ByteArray) (w : World) (w1 : (Lit.int .i64 a1).wf = true) (w2 : a2.size ≤ maxLen) (ht : TabOk w) :
    Calls Tryd.prog 5 #[.agg #[.int .i64 g.N, .int .i64 g.S, .int .i64 g.B, .int .i64 g.P, .int .i64 g.J, .int .i64 g.L, .int .i64 g.E, .int .i64 g.T], .int .i64 a1, .string a2] w fun e w' => e = .returned (.bool true) ∧ Below w.heap.size w w' := by
  have C3 := fun W h => Read_any a2 W w2 h
  have C7 := fun W h => Tail_any a2 W w2 h
  have C5 := Head_any a1
  have sa := str_same a2
  have M2 := Lib.hid w2
  unfold maxLen at w2
  clear w1
  have HR := Lib.hid (RR.start g w)
  have HT := Lib.hid ht
  have ht0 := ht.below HR.out.1
  clear ht
  by_cases hg : a2.size ≤ 2000
  · clear w2
    go_enter Tryd.func5, Tryd.ntmps5
    go_wp2_with fail
    refine (C3 _ ht0).mono ?_
    rintro e v1 ⟨rfl, hb1⟩
    have ht1 := ht0.below hb1
    have HR1 := Lib.hid (HR.out.call hb1)
    clear HR ht0 hb1 C3
    generalize hx : readG a2 = x
    generalize hxe : readE a2 = xe
    have HR1a := Lib.hid (HR1.out.call ((Below.refl _ _).alloc (Nat.le_refl _) (.cells #[.int .i64 x.N, .int .i64 x.S, .int .i64 x.B, .int .i64 x.P, .int .i64 x.J, .int .i64 x.L, .int .i64 x.E, .int .i64 x.T] 23)))
    have ht1a := ht1.alloc (.cells #[.int .i64 x.N, .int .i64 x.S, .int .i64 x.B, .int .i64 x.P, .int .i64 x.J, .int .i64 x.L, .int .i64 x.E, .int .i64 x.T] 23)
    clear HR1 ht1
    go_upto_if 30 with fail
    go_cut [] (fun wx => RR g w wx)
    case first =>
      by_cases hr : readB a2 = true
      · have e1 : bytesV x = a2 ∧ bytesE x = 0 := by rw [← hx]; exact read_again hr
        have e0 : xe = 0 := by rw [← hxe]; exact (readG_yes hr).2
        subst e0
        clear hr hx hxe C7 C5
        go_wp2_with fail
        refine (Bytes_any x _ ht1a).mono ?_
        rintro e v2 ⟨rfl, hb2⟩
        rw [e1.1, e1.2]
        clear e1
        go_wp2_with fail
        go_meet
        case rel => exact HR1a.out.call hb2
      · have e0 : xe = 50 := by rw [← hxe]; exact (readG_no (by simpa using hr)).2
        subst e0
        clear hr hx hxe C7 C5
        go_wp2_with fail
        go_meet
        case rel => exact HR1a.out
    case rest =>
    have ht2 := HT.out.below hcut.1
    have HR2 := Lib.hid hcut
    clear hcut ht1a HR1a hx hxe
    go_wp2_with fail
    refine (C7 _ ht2).mono ?_
    rintro e v3 ⟨rfl, hb3⟩
    have ht3 := ht2.below hb3
    have HR3 := Lib.hid (HR2.out.call hb3)
    clear HR2 ht2 hb3 C7
    generalize htv : tailV a2 = tv
    generalize hte : tailE a2 = te
    go_upto_if 49 with fail
    go_cut [] (fun wx => RR g w wx)
    case first =>
      by_cases hr : tailB a2 = true
      · have e1 : headV' tv = a2 ∧ headE tv = 0 := by rw [← htv]; exact tail_again hr
        have e0 : te = 0 := by rw [← hte]; exact (tailV_yes hr).2
        subst e0
        clear hr htv hte C5
        go_wp2_with fail
        refine (Head_any tv _ ht3).mono ?_
        rintro e v4 ⟨rfl, hb4⟩
        rw [e1.1, e1.2]
        clear e1
        go_wp2_with fail
        go_meet
        case rel => exact HR3.out.call hb4
      · have e0 : te = 50 := by rw [← hte]; exact (tailV_no (by simpa using hr)).2
        subst e0
        clear hr htv hte C5
        go_wp2_with fail
        go_meet
        case rel => exact HR3.out
    case rest =>
    have ht4 := HT.out.below hcut.1
    have HR4 := Lib.hid hcut
    clear hcut ht3 HR3 htv hte
    go_wp2_with fail
    refine (C5 _ ht4).mono ?_
    rintro e v5 ⟨rfl, hb5⟩
    have ht5 := ht4.below hb5
    have HR5 := Lib.hid (HR4.out.call hb5)
    clear HR4 ht4 hb5 C5
    have HZ := Lib.hid (headV_size a1)
    have HA := Lib.hid (again_head a1)
    generalize headV' a1 = hv at *
    generalize headE a1 = he at *
    go_wp2_with fail
    refine (Tail_any hv _ HZ.out ht5).mono ?_
    rintro e v6 ⟨rfl, hb6⟩
    have ht6 := ht5.below hb6
    have HR6 := Lib.hid (HR5.out.call hb6)
    clear HR5 ht5 hb6 HZ
    generalize tailV hv = tv2 at *
    generalize tailE hv = te2 at *
    go_upto_region 15 with fail
    go_cut [93] (fun s93 wx => s93 = .bool false ∧ RR g w wx)
    case first =>
      rcases HA.out with ⟨_, rfl, rfl, rfl, h0, h1⟩ | ⟨rfl, h0⟩ | ⟨rfl, h0, h1⟩
      · clear HA
        go_wp2_with fail
        go_meet
        case rel => exact ⟨rfl, HR6.out⟩
      · clear HA
        go_wp2_with fail
        go_meet
        case rel => exact ⟨rfl, HR6.out⟩
      · have d1 : decide (a1 ≤ 1099511627776) = false := decide_eq_false (by omega)
        clear HA
        go_wp2_with fail
        go_meet
        case rel => exact ⟨rfl, HR6.out⟩
    case rest =>
    obtain ⟨rfl, hR7⟩ := hcut
    have ht7 := HT.out.below hR7.1
    have HR7 := Lib.hid hR7
    clear ht6 HR6 HA HT
    have hG := hR7.2.1
    unfold GAt at hG
    obtain ⟨hG0, hG1, hG2, hG3, hG4, hG5, hG6, hG7⟩ := hG
    clear hR7
    rcases hm : mayG g with _ | _
    · go_wp2_with fail
      refine (Format_no g _ hm ht7).mono ?_
      rintro e v8 ⟨rfl, hb8⟩
      have ht8 := ht7.below hb8
      have HR8 := Lib.hid (HR7.out.call hb8)
      clear hG0 hG1 hG2 hG3 hG4 hG5 hG6 hG7 HR7 ht7 hb8
      have hG := HR8.out.2.1
      unfold GAt at hG
      obtain ⟨hG0, hG1, hG2, hG3, hG4, hG5, hG6, hG7⟩ := hG
      go_wp2_with fail
      refine (refMay_any g _).mono ?_
      rintro e v9 ⟨rfl, hb9⟩
      rw [hm]
      have ht9 := ht8.below hb9
      have HB9 := Lib.hid (HR8.out.call hb9).1
      clear hG0 hG1 hG2 hG3 hG4 hG5 hG6 hG7 HR8 ht8 hb9
      go_wp2_with fail
      refine (swakes_any _ ht9).mono ?_
      rintro e v10 ⟨rfl, hb10⟩
      have HB := below_then HB9.out hb10
      clear HB9 hb10 ht9
      go_wp2_with fail
      go_ret
      exact ⟨rfl, HB⟩
    · have HC := Lib.hid (check_fmt hm)
      have HT2 := Lib.hid (total_bd g).1
      go_wp2_with fail
      refine (Format_yes g _ hm ht7).mono ?_
      rintro e v8 ⟨A, c, rfl, hb8, ho8⟩
      have ht8 := ht7.below hb8
      have HR8 := Lib.hid (HR7.out.call hb8)
      have HL8 := Lib.hid (Lies.of_own ho8)
      clear hG0 hG1 hG2 hG3 hG4 hG5 hG6 hG7 HR7 ht7 hb8 ho8
      go_wp2_with fail
      refine (Check_any A (totN g) c (fmtL g) _ HL8.out (fmt_size hm) (tot_len g) ht8).mono ?_
      rintro e v9 ⟨rfl, hb9⟩
      rw [HC.out.1, HC.out.2]
      have ht9 := (ht8.below hb9).alloc (.cells #[.int .i64 g.N, .int .i64 g.S, .int .i64 g.B, .int .i64 g.P, .int .i64 g.J, .int .i64 g.L, .int .i64 g.E, .int .i64 g.T] 23)
      have HR9 := Lib.hid ((HR8.out.call hb9).call ((Below.refl _ _).alloc (Nat.le_refl _) (.cells #[.int .i64 g.N, .int .i64 g.S, .int .i64 g.B, .int .i64 g.P, .int .i64 g.J, .int .i64 g.L, .int .i64 g.E, .int .i64 g.T] 23)))
      clear HR8 ht8 hb9 HL8 HC
      have hG := HR9.out.2.1
      unfold GAt at hG
      obtain ⟨hG0, hG1, hG2, hG3, hG4, hG5, hG6, hG7⟩ := hG
      go_wp2_with fail
      refine (total_r g _).mono ?_
      rintro e v10 ⟨rfl, hb10⟩
      rw [HT2.out]
      have ht10 := ht9.below hb10
      have HB10 := Lib.hid (HR9.out.call hb10).1
      clear hG0 hG1 hG2 hG3 hG4 hG5 hG6 hG7 HR9 ht9 hb10 HT2
      go_wp2_with fail
      refine (swakes_any _ ht10).mono ?_
      rintro e v11 ⟨rfl, hb11⟩
      have HB := below_then HB10.out hb11
      clear HB10 hb11 ht10
      go_wp2_with fail
      go_ret
      exact ⟨rfl, HB⟩
  · go_enter Tryd.func5, Tryd.ntmps5
    go_wp2_with fail
    refine (swakes_any _ ht0).mono ?_
    rintro e v1 ⟨rfl, hb1⟩
    have HB := (HR.out.call hb1).1
    go_wp2_with fail
    go_ret
    exact ⟨rfl, HB⟩

/-! ### THE ROW's STEP -/
set_option maxRecDepth 100000 in
theorem lifted (os : Os) (started : os.Started) (H : Type) (enc : TypeId × Value → H) :
    ReturnsInHanded {} Tryd.checked os 5 .any (fun w args => (Rows.superBackSpec.pre enc Tryd.prog Tryd.f5 [] false w args ∧ laidMetH Tryd.prog laidL w) ∧ sizedMet enc Tryd.prog Tryd.f5 (OpenSpec.ofChange Rows.superBackSpec) false w args) (Rows.superBackSpec.post enc Tryd.prog Tryd.f5 false true false false) := by
  refine returnsInHanded_of_change_and (C := Tryd.checked) (X := fun w _ => laidMetH Tryd.prog laidL w) (fun _ _ _ hh h => h.of_heap hh) own started (by kernel_rfl) Tryd.func5
    (ChangeSpec.witness_shaped (enc := enc) (C := Tryd.checked) (os := os) (X := fun w _ => laidMetH Tryd.prog laidL w) false (World.doorLaid Tryd.prog 14 os) #[.agg #[.int .i64 0, .int .i64 0, .int .i64 0, .int .i64 0, .int .i64 0, .int .i64 0, .int .i64 0, .int .i64 0], .int .i64 0, .string ByteArray.empty] 8 rfl (World.shaped_of_RefB (by kernel_rfl) (by kernel_rfl)) (by kernel_rfl) (by kernel_rfl) (by kernel_rfl) (door_met os _)) ?_
  intro W base args ds gs before hval0 hW _ _ hL _
  have hval : ∀ (j : Nat) t v, Tryd.f5.params[j]? = some t → args[j]? = some v → Value.okWide Tryd.prog W .any base t v := hval0
  have hW' := hW
  obtain ⟨p, q, hA0, hV, rfl, hfz, hnd⟩ := hW
  have hA : DataW.TrodAll enc Tryd.prog W 0 (fun _ => true) true Tryd.f5.params.toList args.toList ds p := hA0
  rw [Tryd.params5] at hA hval
  obtain ⟨v0, vs0, d0, ds0, p0, q0, hargs, rfl, rfl, h0, r0⟩ := trodAll_cons hA
  obtain ⟨v1, vs1, d1, ds1, p1, q1, rfl, rfl, rfl, h1, r1⟩ := trodAll_cons r0
  obtain ⟨v2, vs2, d2, ds2, p2, q2, rfl, rfl, rfl, h2, r2⟩ := trodAll_cons r1
  obtain ⟨rfl, rfl, rfl⟩ := trodAll_nil r2
  obtain rfl : args = #[v0, v1, v2] := by cases args; simp_all
  obtain ⟨rfl, rfl⟩ := trodVars_none hV
  have k0 := h0
  have lt0 : ∀ x ∈ p0, x.block < W.heap.size := by obtain ⟨m, hm⟩ := k0; exact DataW.trod_lt m _ _ _ hm
  obtain ⟨g0, rfl⟩ := open_geo (hval 0 23 v0 rfl rfl) h0
  obtain ⟨a1, rfl, rfl, rfl, w1⟩ := open_int Tryd.underlying3 (hval 1 3 v1 rfl rfl) h1
  obtain ⟨a2, rfl, rfl, rfl, w2⟩ := open_string Tryd.underlying9 (hval 2 9 v2 rfl rfl) h2
  clear hA0 hval0
  refine (walk g0 a1 a2 W w1 w2 (met_of_laid hL)).mono fun e W' ⟨he, bel⟩ => ?_
  subst he
  exact ⟨_, rfl, _, _, _, [], _, [], hW', trodAll_mk1 (shut_bool Tryd.underlying4 _), (trodAll_cons_mk (Below.trod laidOut (by kernel_rfl) (of_decide_eq_true (by kernel_rfl)) k0 bel lt0) (trodAll_cons_mk (shut_int Tryd.underlying3 w1) (trodAll_cons_mk (shut_string Tryd.underlying9 w2) trodAll_mk0))), rfl, bel.frame _, fun h => by cases h⟩

theorem over : Rows.superBackRow.holds Tryd.pinned (OpenSpec.ofChange Rows.superBackSpec) :=
  OpenClaim.holds_of_wide 5 Tryd.f5 rfl rfl rfl rfl rfl rfl rfl ⟨rfl, rfl, rfl, rfl, rfl⟩ rfl rfl rfl rfl rfl (by kernel_rfl) Tryd.func5 (by kernel_rfl)
    (of_decide_eq_true (by kernel_rfl)) (by unfold Func.isWrapper; first | (rw [if_pos (by decide +kernel)]; kernel_rfl) | (rw [if_neg (by decide +kernel)]; exact ⟨rfl, rfl⟩))
    (fun os started H enc _ => lifted os started H enc)

/-- The statement. -/
theorem proved : Rows.SuperBackSaid := over
#print axioms proved

/-- THE TIED CARD. -/
theorem card : Rows.SuperBackCardSaid :=
  Claim7.holds_tied_plain_at .later [] [.data] true (true, "3cb45ea245c34bde2fcc8e65605bbc01081f3f8c8232fc1b05926c495b85c050") false
    proved (fun _ h => by cases h) (by kernel_rfl) (fun _ h => by cases h) superBack_row_tie rfl ⟨rfl, rfl⟩ (by kernel_rfl) rfl
    (fun f fn hf hfn => by
      obtain rfl : f = 5 := Option.some.inj ((show Tryd.prog.funcNamed "breakwater/breakwaterlaw05.SuperBack" = some 5 by kernel_rfl).symm.trans hf) |>.symm
      obtain rfl : fn = Tryd.f5 := (Option.some.inj (Tryd.func5.symm.trans hfn)).symm
      exact ⟨by kernel_rfl, fun j t ht => by
        rw [Tryd.params5] at ht
        have hm : t ∈ [23, 3, 9] := by simpa using Array.mem_of_getElem? ht
        have hall : ([23, 3, 9].all fun u => !Tryd.prog.wantsStandIn u) = true := by kernel_rfl
        exact (show Tryd.prog.wantsStandIn t = false by simpa using List.all_eq_true.1 hall t hm)⟩)
    (by kernel_rfl)
#print axioms card
end Go.Proofs.YtaegkpfjopajpaaDoor.superBack
