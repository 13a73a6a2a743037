/-
  The statement NumPlaces: each number stands in its place, whatever stands about: for every two texts, every width and every row of numbers the call answers true and leaves its arguments as they were. No conditions.
-/
import Derived.Test.YthdhmmhfljbcoaaNumLawAid
import Derived.ProofKit
import Derived.OpenShut
import Derived.ShutString
import Derived.ChangeOld
namespace Go.Proofs.Ythdhmmhfljbcoaa.numPlaces
open Go.ChangeShapes Go.WideShapes Go.ChangeAt Go.RowKit
open Go.ChangeMaps (open_string shut_string)
set_option linter.unusedVariables false
set_option linter.unusedSimpArgs false

theorem own : ownKnob Try.prog.godebug = none := by kernel_rfl
theorem laidOut : laidOutB Try.prog = true := by kernel_rfl

set_option maxRecDepth 100000 in
set_option maxHeartbeats 1000000 in
theorem walk (a0 : ByteArray) (a1 : ByteArray) (a2 : Int) (a3 : Option Addr) (len3 cap3 : Nat) (z3 : List Int) (w : World) (w0 : a0.size ≤ maxLen) (w1 : a1.size ≤ maxLen) (w2 : (Lit.int .i64 a2).wf = true) (w3 : IsRow .i64 w a3 len3 cap3 z3) :
    Calls Try.prog 5 #[.string a0, .string a1, .int .i64 a2, .slice a3 len3 cap3] w fun e w' => e = .returned (.bool true) ∧ Below w.heap.size w w' := by
  have bd := bd_i64 w2
  obtain ⟨hl3, -, hx3⟩ := lies_of_row w3
  unfold maxLen at hx3 w0 w1
  generalize z3.take len3 = zl at *
  clear w2 w3
  by_cases hg3 : len3 ≤ 200
  · by_cases hg0 : a0.size ≤ 200
    · by_cases hg1 : a1.size ≤ 200
      · have HL3 : Hid (zl.length = len3) := by show _ = _; simpa using hl3.1
        obtain ⟨A0, c0, wb, hcv, hA0, hb0⟩ := str_to_bytes (P := Try.prog) w 9 22 5 a0 Try.underlying9 Try.underlying22 Try.underlying5
        go_enter Try.func5, Try.ntmps5
        go_wp2_with fail
        refine (numPut_any a2 A0 a3 a0.size len3 c0 cap3 (bytesI a0) zl wb hA0 ((hl3.below hb0).more hb0.size) (by omega) (by omega)).mono ?_
        intro e w1 hpost
        obtain ⟨hb1, A1, n1, c1, e1, zs1, rfl, HE1, HZ1, HN1, hA1⟩ := put_named hpost
        have hb01 : Below w.heap.size w w1 := hb0.trans (hb1.mono hb0.size)
        have hl3a := (hl3.below hb01)
        clear hpost hb0 hb1 hA0 hcv hl3
        rcases err_cases HE1 with ⟨o1, rfl⟩ | ⟨o1, rfl⟩
        · obtain ⟨h1, h2⟩ := okP_width o1
          obtain ⟨X, rfl⟩ := Int.eq_ofNat_of_zero_le (show 0 ≤ a2 by omega)
          have hZ1 : zs1 = bytesI a0 ++ encs X zl := by rw [HZ1.out, bytesP_yes o1]; rfl
          have hN1 : n1 = a0.size + X * len3 := by rw [← HN1.out, hZ1, List.length_append, encs_length, HL3.out, bytesI_length]
          have hXl : X * len3 ≤ 1200 := Nat.mul_le_mul (show X ≤ 6 by omega) hg3
          have hXi0 : (0 : Int) ≤ (X : Int) * (len3 : Int) := by rw [← Int.natCast_mul]; omega
          have hXi1 : (X : Int) * (len3 : Int) ≤ 1200 := by rw [← Int.natCast_mul]; omega
          have hlen : Hid (((n1 : Int) == (a0.size : Int) + (X : Int) * (len3 : Int)) = true) := by show _ = _; rw [hN1, Int.natCast_add, Int.natCast_mul]; simp
          have hn1 : n1 ≤ 1400 := by omega
          have hc1 := conv_lies (P := Try.prog) (c := c1) 22 9 5 Try.underlying22 Try.underlying5 Try.underlying9 hA1
          have hsz : (strOfNums zs1).size ≤ 1400 := by rw [strOfNums_size, HN1.out]; exact hn1
          have HSZ : Hid ((strOfNums zs1).size = n1) := by show _ = _; rw [strOfNums_size, HN1.out]
          have hbz : IsBytes zs1 := by
            rw [hZ1]
            intro b hb
            rcases List.mem_append.1 hb with h | h
            · exact bytesI_bytes _ b h
            · exact encs_bytes _ _ b h
          have HT : Hid (bytesI (strOfNums zs1 ++ a1) = bytesI a0 ++ (encs X zl ++ bytesI a1)) := by
            show _ = _
            rw [bytesI_append, bytesI_strOfNums hbz, hZ1, List.append_assoc]
          have HPRE : Hid ((strOfNums zs1 ++ a1).extract 0 a0.size = a0) := extract_ahead HT.out
          have HO := Lib.hid o1
          generalize strOfNums zs1 = S at *
          have HTS : Hid ((S ++ a1).size = S.size + a1.size) := by show _ = _; simp
          clear hZ1 hN1 HE1 HZ1 HN1 o1 hA1 hbz
          go_wp2_with fail
          generalize S ++ a1 = T at *
          have hT : T.size ≤ 1600 := by have := HTS.out; omega
          go_loop [12] (fun i => ∃ k : Nat, k ≤ len3 ∧ i = .int .i64 k) (fun i => len3 - (intOf i).toNat)
          case atStart => exact ⟨0, Nat.zero_le _, rfl⟩
          case round =>
            obtain ⟨k, hk, rfl⟩ := hrel
            by_cases hlt : k < len3
            · obtain ⟨ad, u, rfl, had, hu, hcell⟩ := hl3a.at_ hlt
              have hkl : k < zl.length := by rw [HL3.out]; exact hlt
              obtain rfl : u = .int .i64 zl[k] := by
                rw [List.getElem?_map, List.getElem?_eq_getElem hkl] at hu
                simpa using hu.symm
              have hkX : k * X ≤ 1200 := by
                have := Nat.mul_le_mul_right X hk
                rw [Nat.mul_comm len3 X] at this
                omega
              have hki0 : (0 : Int) ≤ (k : Int) * (X : Int) := by rw [← Int.natCast_mul]; omega
              have hki1 : (k : Int) * (X : Int) ≤ 1200 := by rw [← Int.natCast_mul]; omega
              have HG : Hid (getOut (bytesI T) ((a0.size : Int) + (k : Int) * (X : Int)) X = .returned (.tuple #[.int .i64 zl[k], .int .i64 0])) := by
                show _ = _
                rw [HT.out]
                have h := getOut_row (a := bytesI a0) (r := bytesI a1) HO.out hkl
                rwa [bytesI_length] at h
              clear hu
              go_wp2_with fail
              refine (numGet_any T _ X _ (by unfold maxLen; omega) (by omega) (by omega)).mono ?_
              rintro e w2 ⟨rfl, rfl⟩
              rw [HG.out]
              go_wp2_with fail
              go_round
              case rel => exact ⟨k + 1, by omega, by go_num⟩
              case measure => simp [intOf]; omega
            · have HG : Hid (getOut (bytesI S) ((n1 : Int) - (X : Int) + 1) X = .returned (.tuple #[.int .i64 0, .int .i64 10])) :=
                getOut_out (mayB_yes h1 h2) (by rw [bytesI_length, HSZ.out]; omega)
              have hls : (a0.size : Int) ≤ (T.size : Int) := by
                have h := congrArg List.length HT.out
                rw [List.length_append, bytesI_length, bytesI_length] at h
                omega
              go_wp2_with fail
              refine (numGet_any S _ X _ (by unfold maxLen; omega) (by omega) (by omega)).mono ?_
              rintro e w2 ⟨rfl, rfl⟩
              rw [HG.out]
              have hpre := HPRE.out
              have hlen2 := hlen.out
              go_wp2_with fail
              refine (wakes_any _).mono ?_
              rintro e w6 ⟨rfl, hb6⟩
              go_wp2_with fail
              go_ret
              exact ⟨rfl, hb01.trans (hb6.mono hb01.size)⟩
        · obtain rfl : n1 = 0 := by rw [← HN1.out, HZ1.out, bytesP_no o1]; rfl
          clear HE1 HZ1 HN1 hA1 o1
          go_wp2_with fail
          refine (wakes_any _).mono ?_
          rintro e w6 ⟨rfl, hb6⟩
          go_wp2_with fail
          go_ret
          exact ⟨rfl, hb01.trans (hb6.mono hb01.size)⟩
      ·
        go_enter Try.func5, Try.ntmps5
        go_wp2_with fail
        refine (wakes_any _).mono ?_
        rintro e w6 ⟨rfl, hb6⟩
        go_wp2_with fail
        go_ret
        exact ⟨rfl, hb6⟩
    ·
      go_enter Try.func5, Try.ntmps5
      go_wp2_with fail
      refine (wakes_any _).mono ?_
      rintro e w6 ⟨rfl, hb6⟩
      go_wp2_with fail
      go_ret
      exact ⟨rfl, hb6⟩
  ·
    go_enter Try.func5, Try.ntmps5
    go_wp2_with fail
    refine (wakes_any _).mono ?_
    rintro e w6 ⟨rfl, hb6⟩
    go_wp2_with fail
    go_ret
    exact ⟨rfl, hb6⟩

/-! ### THE ROW's STEP: WRITTEN OUT: LEAVE IT -/
set_option maxRecDepth 100000 in
theorem lifted (os : Os) (started : os.Started) (H : Type) (enc : TypeId × Value → H) :
    ReturnsInHanded {} Try.checked os 5 .any (Rows.numPlacesSpec.pre6 enc Try.prog Try.f5 Rows.numPlacesRow.domain false) (Rows.numPlacesSpec.post enc Try.prog Try.f5 false true false false) := by
  refine returnsInHanded_of_change (C := Try.checked) own started (by kernel_rfl) Try.func5
    (ChangeSpec.witness6 (enc := enc) (C := Try.checked) false ⟨#[], #[.string ByteArray.empty, .string ByteArray.empty, .int .i64 0, .slice none 0 0], []⟩ 8 (by kernel_rfl) (by kernel_rfl) (by kernel_rfl) (by kernel_rfl)) ?_
  intro W base args ds gs before hval0 hW hcnd _
  have hval : ∀ (j : Nat) t v, Try.f5.params[j]? = some t → args[j]? = some v → Value.okWide Try.prog W .any base t v := hval0
  have hW' := hW
  obtain ⟨p, q, hA0, hV, rfl, hfz, hnd⟩ := hW
  have hA : DataW.TrodAll enc Try.prog W 0 (fun _ => true) true Try.f5.params.toList args.toList ds p := hA0
  rw [Try.params5] at hA hval
  obtain ⟨v0, vs0, d0, ds0, p0, q0, hargs, rfl, rfl, h0, r0⟩ := trodAll_cons hA
  obtain ⟨v1, vs1, d1, ds1, p1, q1, rfl, rfl, rfl, h1, r1⟩ := trodAll_cons r0
  obtain ⟨v2, vs2, d2, ds2, p2, q2, rfl, rfl, rfl, h2, r2⟩ := trodAll_cons r1
  obtain ⟨v3, vs3, d3, ds3, p3, q3, rfl, rfl, rfl, h3, r3⟩ := trodAll_cons r2
  obtain ⟨rfl, rfl, rfl⟩ := trodAll_nil r3
  obtain rfl : args = #[v0, v1, v2, v3] := by cases args; simp_all
  obtain ⟨rfl, rfl⟩ := trodVars_none hV
  obtain ⟨a0, rfl, rfl, rfl, w0⟩ := open_string Try.underlying9 (hval 0 9 v0 rfl rfl) h0
  obtain ⟨a1, rfl, rfl, rfl, w1⟩ := open_string Try.underlying9 (hval 1 9 v1 rfl rfl) h1
  obtain ⟨a2, rfl, rfl, rfl, w2⟩ := open_int Try.underlying3 (hval 2 3 v2 rfl rfl) h2
  obtain ⟨a3, len3, cap3, rfl⟩ := okWide_slice Try.underlying23 (hval 3 23 v3 rfl rfl)
  have k3 := h3
  have lt3 : ∀ x ∈ p3, x.block < W.heap.size := by obtain ⟨m, hm⟩ := k3; exact DataW.trod_lt m _ _ _ hm
  obtain ⟨z3, w3⟩ : ∃ zs, IsRow .i64 W a3 len3 cap3 zs := by
    obtain ⟨fuel, hf⟩ := h3
    rcases open_ints Try.underlying23 Try.underlying3 (by kernel_rfl) hf with ⟨hcs, _⟩ | ⟨x, l, c, zs, hcs, _, hl, hm, hz, _, hcell, hwz⟩
    · simp [Value.cells] at hcs
      obtain ⟨rfl, rfl, rfl⟩ := hcs
      exact ⟨[], .inl ⟨rfl, rfl, rfl, rfl⟩⟩
    · simp [Value.cells] at hcs
      obtain ⟨rfl, rfl, rfl⟩ := hcs
      exact ⟨zs, .inr ⟨_, rfl, hl, hm, by simpa using hz, hcell, hwz⟩⟩
  clear hA0 hval0
  refine (walk a0 a1 a2 a3 len3 cap3 z3 W w0 w1 w2 w3).mono fun e W' ⟨he, bel⟩ => ?_
  subst he
  exact ⟨_, rfl, _, _, _, [], _, [], hW', trodAll_mk1 (shut_bool Try.underlying4 _), (trodAll_cons_mk (shut_string Try.underlying9 w0) (trodAll_cons_mk (shut_string Try.underlying9 w1) (trodAll_cons_mk (shut_int Try.underlying3 w2) (trodAll_cons_mk (Below.trod laidOut (by kernel_rfl) (of_decide_eq_true (by kernel_rfl)) k3 bel lt3) trodAll_mk0)))), rfl, bel.frame _, fun h => by cases h⟩

theorem over : Rows.numPlacesRow.holds Try.pinned (OpenSpec.ofChange Rows.numPlacesSpec) :=
  OpenClaim.holds_of_wide 5 Try.f5 rfl rfl rfl rfl rfl rfl rfl ⟨rfl, rfl, rfl, rfl, rfl⟩ rfl rfl rfl rfl rfl (by kernel_rfl) Try.func5 (by kernel_rfl)
    (of_decide_eq_true (by kernel_rfl)) (by unfold Func.isWrapper; first | (rw [if_pos (by decide +kernel)]; kernel_rfl) | (rw [if_neg (by decide +kernel)]; exact ⟨rfl, rfl⟩))
    (fun os started H enc _ => lifted os started H enc)

/-- ████ THE STATEMENT ████ -/
theorem proved : Rows.NumPlacesSaid := over
#print axioms proved
end Go.Proofs.Ythdhmmhfljbcoaa.numPlaces
