/-
  The statement NumBack: the numbers of what was put are these, and what is read, put, is the text: for every width, every row of numbers and every text the call answers true and leaves its arguments as they were. No conditions.
-/
import Derived.Test.YthdhmmhfljbcoaaNumLawAid
import Derived.ProofKit
import Derived.OpenShut
import Derived.ShutString
import Derived.ChangeOld
namespace Go.Proofs.Ythdhmmhfljbcoaa.numBack
open Go.ChangeShapes Go.WideShapes Go.ChangeAt Go.RowKit
open Go.ChangeMaps (open_string shut_string)
set_option linter.unusedVariables false
set_option linter.unusedSimpArgs false

theorem own : ownKnob Try.prog.godebug = none := by kernel_rfl
theorem laidOut : laidOutB Try.prog = true := by kernel_rfl

set_option maxRecDepth 100000 in
set_option maxHeartbeats 1000000 in
theorem walk (a0 : Int) (a1 : Option Addr) (len1 cap1 : Nat) (z1 : List Int) (a2 : ByteArray) (w : World) (w0 : (Lit.int .i64 a0).wf = true) (w1 : IsRow .i64 w a1 len1 cap1 z1) (w2 : a2.size ≤ maxLen) :
    Calls Try.prog 4 #[.int .i64 a0, .slice a1 len1 cap1, .string a2] w fun e w' => e = .returned (.bool true) ∧ Below w.heap.size w w' := by
  have bd := bd_i64 w0
  obtain ⟨hl1, -, hx1⟩ := lies_of_row w1
  unfold maxLen at hx1 w2
  generalize z1.take len1 = zl at *
  clear w0 w1
  by_cases hg1 : len1 ≤ 400
  · by_cases hg2 : a2.size ≤ 2000
    · have HL1 : Hid (zl.length = len1) := by show _ = _; simpa using hl1.1
      go_enter Try.func4, Try.ntmps4
      go_wp2_with fail
      refine (numPut_any a0 none a1 0 len1 0 cap1 [] zl w Lies.nothing hl1 (by omega) (by omega)).mono ?_
      intro e w1 hpost
      obtain ⟨hb1, A1, n1, c1, e1, zs1, rfl, HE1, HZ1, HN1, hA1⟩ := put_named hpost
      have hl1a := hl1.below hb1
      clear hpost
      rcases err_cases HE1 with ⟨o1, rfl⟩ | ⟨o1, rfl⟩
      · obtain ⟨h1, h2⟩ := okP_width o1
        obtain ⟨X, rfl⟩ := Int.eq_ofNat_of_zero_le (show 0 ≤ a0 by omega)
        have hZ1 : zs1 = encs X zl := by rw [HZ1.out, bytesP_yes o1]; rfl
        have hN1 : n1 = X * len1 := by rw [← HN1.out, hZ1, encs_length, HL1.out]
        have hXl : X * len1 ≤ 2400 := Nat.mul_le_mul (show X ≤ 6 by omega) hg1
        have hXi0 : (0 : Int) ≤ (X : Int) * (len1 : Int) := by rw [← Int.natCast_mul]; omega
        have hXi1 : (X : Int) * (len1 : Int) ≤ 2400 := by rw [← Int.natCast_mul]; omega
        have hlen : ((n1 : Int) != (X : Int) * (len1 : Int)) = false := by rw [hN1, Int.natCast_mul]; simp
        have hc1 := conv_lies (P := Try.prog) (c := c1) 22 9 5 Try.underlying22 Try.underlying5 Try.underlying9 hA1
        have hsz : (strOfNums zs1).size ≤ 2400 := by rw [strOfNums_size, HN1.out, hN1]; exact hXl
        have hbS : bytesI (strOfNums zs1) = encs X zl := by rw [hZ1]; exact bytesI_strOfNums (encs_bytes _ _)
        obtain ⟨r1, r2⟩ := rowP_encs o1
        rw [← hbS] at r1 r2
        have R1 := Lib.hid r1
        have R2 := Lib.hid r2
        generalize strOfNums zs1 = S at *
        clear hZ1 hN1 hbS r1 r2 HE1 HZ1 HN1 o1 hA1
        go_wp2_with fail
        refine (numRow_any S X w1 (by omega)).mono ?_
        intro e w3 hpost
        obtain ⟨hb3, A3, n3, c3, e3, zs3, rfl, HN3, hA3, HR3⟩ := row_named hpost
        have hb03 : Below w.heap.size w w3 := hb1.trans (hb3.mono hb1.size)
        have hR3 : e3 = 0 ∧ zs3 = zl := by
          rcases HR3.out with ⟨_, h, hz⟩ | ⟨h, _⟩
          · exact ⟨h, hz.trans R2.out⟩
          · rw [R1.out] at h; cases h
        obtain ⟨rfl, rfl⟩ := hR3
        have hn3 : n3 = len1 := HN3.out.symm.trans HL1.out
        have hl1c := hl1.below hb03
        have hn3' : n3 ≤ 400 := by omega
        clear hpost HR3 R1 R2 hn3 hc1 hl1a hb3 hb1
        go_wp2_with fail
        refine (ints_any a1 A3 _ _ len1 n3 cap1 c3 zs3 zs3 w3 hl1c hA3 (by omega) (by omega)).mono ?_
        rintro e w4 ⟨rfl, q, rfl⟩
        rw [show decide (zs3 = zs3) = true from by simp]
        have hb04 : Below w.heap.size w (w3.drewN q) := hb03.trans (drewN_below _ _ _)
        generalize w3.drewN q = w4 at *
        clear hl1c hA3 hb03
        go_wp2_with fail
        refine (numRow_any a2 (X : Int) w4 (by omega)).mono ?_
        intro e w7 hpost
        obtain ⟨hb7, A7, n7, c7, e7, zs7, rfl, HN7, hA7, HR⟩ := row_named hpost
        have hb07 : Below w.heap.size w w7 := hb04.trans (hb7.mono hb04.size)
        have hn7 : n7 ≤ 2000 := by
          rw [← HN7.out]
          rcases HR.out with ⟨_, _, hz⟩ | ⟨_, _, hz⟩
          · rw [hz, numK_length, bytesI_length]
            exact Nat.le_trans (Nat.div_le_self _ _) hg2
          · rw [hz]; simp
        clear hpost
        rcases HR.out with ⟨ok, rfl, hz⟩ | ⟨_, he7, hz⟩
        · clear HR
          obtain ⟨g1, g2⟩ := okP_row_width ok
          have ok' : rowP (bytesI a2) (((X : Int).toNat : Nat) : Int) = true := by rw [Int.toNat_of_nonneg (by omega)]; exact ok
          have hX : (((X : Int).toNat : Nat) : Int) = (X : Int) := Int.toNat_of_nonneg (by omega)
          obtain ⟨q1, q2⟩ := encs_row (bytesI_bytes a2) ok'
          rw [hX, ← hz] at q1 q2
          have Q1 := Lib.hid q1
          have Q2 := Lib.hid q2
          clear q1 q2 hX ok' ok hz
          go_wp2_with fail
          refine (numPut_any (X : Int) none A7 0 n7 0 c7 [] zs7 w7 Lies.nothing hA7 (by omega) (by omega)).mono ?_
          intro e w8 hpost
          obtain ⟨hb8, A8, n8, c8, e8, zs8, rfl, HE8, HZ8, HN8, hA8⟩ := put_named hpost
          have hb08 : Below w.heap.size w w8 := hb07.trans (hb8.mono hb07.size)
          obtain rfl : e8 = 0 := HE8.out.trans (errP_yes Q2.out)
          have hz8 : zs8 = bytesI a2 := by
            rw [HZ8.out, bytesP_yes Q2.out, List.nil_append]
            exact Q1.out
          have hc8 := conv_lies (P := Try.prog) (c := c8) 22 9 5 Try.underlying22 Try.underlying5 Try.underlying9 hA8
          rw [hz8, strOfNums_bytesI] at hc8
          clear hpost hz8 HE8 HZ8 HN8 hA8 hb8 Q1 Q2 hA7 hb7
          go_wp2_with fail
          refine (wakes_any _).mono ?_
          rintro e w9 ⟨rfl, hb9⟩
          go_wp2_with fail
          go_ret
          exact ⟨rfl, hb08.trans (hb9.mono hb08.size)⟩
        · clear HR
          obtain rfl : n7 = 0 := by rw [← HN7.out, hz]; rfl
          have he : e7 = 10 ∨ e7 = 2 := by rw [he7]; split <;> simp
          clear he7 hz HN7 hA7 hb7
          rcases he with rfl | rfl
          all_goals
            go_wp2_with fail
            refine (wakes_any _).mono ?_
            rintro e w9 ⟨rfl, hb9⟩
            go_wp2_with fail
            go_ret
            exact ⟨rfl, hb07.trans (hb9.mono hb07.size)⟩
      · clear HE1 HZ1 HN1 hA1 hl1a
        go_wp2_with fail
        refine (numRow_any a2 a0 w1 (by omega)).mono ?_
        intro e w7 hpost
        obtain ⟨hb7, A7, n7, c7, e7, zs7, rfl, HN7, hA7, HR⟩ := row_named hpost
        have hb07 : Below w.heap.size w w7 := hb1.trans (hb7.mono hb1.size)
        have hn7 : n7 ≤ 2000 := by
          rw [← HN7.out]
          rcases HR.out with ⟨_, _, hz⟩ | ⟨_, _, hz⟩
          · rw [hz, numK_length, bytesI_length]
            exact Nat.le_trans (Nat.div_le_self _ _) hg2
          · rw [hz]; simp
        clear hpost
        rcases HR.out with ⟨ok, rfl, hz⟩ | ⟨_, he7, hz⟩
        · clear HR
          obtain ⟨g1, g2⟩ := okP_row_width ok
          have ok' : rowP (bytesI a2) ((a0.toNat : Nat) : Int) = true := by rw [Int.toNat_of_nonneg (by omega)]; exact ok
          have hX : ((a0.toNat : Nat) : Int) = a0 := Int.toNat_of_nonneg (by omega)
          obtain ⟨q1, q2⟩ := encs_row (bytesI_bytes a2) ok'
          rw [hX, ← hz] at q1 q2
          have Q1 := Lib.hid q1
          have Q2 := Lib.hid q2
          clear q1 q2 hX ok' ok hz
          go_wp2_with fail
          refine (numPut_any a0 none A7 0 n7 0 c7 [] zs7 w7 Lies.nothing hA7 (by omega) (by omega)).mono ?_
          intro e w8 hpost
          obtain ⟨hb8, A8, n8, c8, e8, zs8, rfl, HE8, HZ8, HN8, hA8⟩ := put_named hpost
          have hb08 : Below w.heap.size w w8 := hb07.trans (hb8.mono hb07.size)
          obtain rfl : e8 = 0 := HE8.out.trans (errP_yes Q2.out)
          have hz8 : zs8 = bytesI a2 := by
            rw [HZ8.out, bytesP_yes Q2.out, List.nil_append]
            exact Q1.out
          have hc8 := conv_lies (P := Try.prog) (c := c8) 22 9 5 Try.underlying22 Try.underlying5 Try.underlying9 hA8
          rw [hz8, strOfNums_bytesI] at hc8
          clear hpost hz8 HE8 HZ8 HN8 hA8 hb8 Q1 Q2 hA7 hb7
          go_wp2_with fail
          refine (wakes_any _).mono ?_
          rintro e w9 ⟨rfl, hb9⟩
          go_wp2_with fail
          go_ret
          exact ⟨rfl, hb08.trans (hb9.mono hb08.size)⟩
        · clear HR
          obtain rfl : n7 = 0 := by rw [← HN7.out, hz]; rfl
          have he : e7 = 10 ∨ e7 = 2 := by rw [he7]; split <;> simp
          clear he7 hz HN7 hA7 hb7
          rcases he with rfl | rfl
          all_goals
            go_wp2_with fail
            refine (wakes_any _).mono ?_
            rintro e w9 ⟨rfl, hb9⟩
            go_wp2_with fail
            go_ret
            exact ⟨rfl, hb07.trans (hb9.mono hb07.size)⟩
    ·
      go_enter Try.func4, Try.ntmps4
      go_wp2_with fail
      refine (wakes_any _).mono ?_
      rintro e w6 ⟨rfl, hb6⟩
      go_wp2_with fail
      go_ret
      exact ⟨rfl, hb6⟩
  ·
    go_enter Try.func4, Try.ntmps4
    go_wp2_with fail
    refine (wakes_any _).mono ?_
    rintro e w6 ⟨rfl, hb6⟩
    go_wp2_with fail
    go_ret
    exact ⟨rfl, hb6⟩

/-! ### THE ROW's STEP: WRITTEN OUT: LEAVE IT -/
set_option maxRecDepth 100000 in
theorem lifted (os : Os) (started : os.Started) (H : Type) (enc : TypeId × Value → H) :
    ReturnsInHanded {} Try.checked os 4 .any (Rows.numBackSpec.pre6 enc Try.prog Try.f4 Rows.numBackRow.domain false) (Rows.numBackSpec.post enc Try.prog Try.f4 false true false false) := by
  refine returnsInHanded_of_change (C := Try.checked) own started (by kernel_rfl) Try.func4
    (ChangeSpec.witness6 (enc := enc) (C := Try.checked) false ⟨#[], #[.int .i64 0, .slice none 0 0, .string ByteArray.empty], []⟩ 8 (by kernel_rfl) (by kernel_rfl) (by kernel_rfl) (by kernel_rfl)) ?_
  intro W base args ds gs before hval0 hW hcnd _
  have hval : ∀ (j : Nat) t v, Try.f4.params[j]? = some t → args[j]? = some v → Value.okWide Try.prog W .any base t v := hval0
  have hW' := hW
  obtain ⟨p, q, hA0, hV, rfl, hfz, hnd⟩ := hW
  have hA : DataW.TrodAll enc Try.prog W 0 (fun _ => true) true Try.f4.params.toList args.toList ds p := hA0
  rw [Try.params4] at hA hval
  obtain ⟨v0, vs0, d0, ds0, p0, q0, hargs, rfl, rfl, h0, r0⟩ := trodAll_cons hA
  obtain ⟨v1, vs1, d1, ds1, p1, q1, rfl, rfl, rfl, h1, r1⟩ := trodAll_cons r0
  obtain ⟨v2, vs2, d2, ds2, p2, q2, rfl, rfl, rfl, h2, r2⟩ := trodAll_cons r1
  obtain ⟨rfl, rfl, rfl⟩ := trodAll_nil r2
  obtain rfl : args = #[v0, v1, v2] := by cases args; simp_all
  obtain ⟨rfl, rfl⟩ := trodVars_none hV
  obtain ⟨a0, rfl, rfl, rfl, w0⟩ := open_int Try.underlying3 (hval 0 3 v0 rfl rfl) h0
  obtain ⟨a1, len1, cap1, rfl⟩ := okWide_slice Try.underlying23 (hval 1 23 v1 rfl rfl)
  have k1 := h1
  have lt1 : ∀ x ∈ p1, x.block < W.heap.size := by obtain ⟨m, hm⟩ := k1; exact DataW.trod_lt m _ _ _ hm
  obtain ⟨z1, w1⟩ : ∃ zs, IsRow .i64 W a1 len1 cap1 zs := by
    obtain ⟨fuel, hf⟩ := h1
    rcases open_ints Try.underlying23 Try.underlying3 (by kernel_rfl) hf with ⟨hcs, _⟩ | ⟨x, l, c, zs, hcs, _, hl, hm, hz, _, hcell, hwz⟩
    · simp [Value.cells] at hcs
      obtain ⟨rfl, rfl, rfl⟩ := hcs
      exact ⟨[], .inl ⟨rfl, rfl, rfl, rfl⟩⟩
    · simp [Value.cells] at hcs
      obtain ⟨rfl, rfl, rfl⟩ := hcs
      exact ⟨zs, .inr ⟨_, rfl, hl, hm, by simpa using hz, hcell, hwz⟩⟩
  obtain ⟨a2, rfl, rfl, rfl, w2⟩ := open_string Try.underlying9 (hval 2 9 v2 rfl rfl) h2
  clear hA0 hval0
  refine (walk a0 a1 len1 cap1 z1 a2 W w0 w1 w2).mono fun e W' ⟨he, bel⟩ => ?_
  subst he
  exact ⟨_, rfl, _, _, _, [], _, [], hW', trodAll_mk1 (shut_bool Try.underlying4 _), (trodAll_cons_mk (shut_int Try.underlying3 w0) (trodAll_cons_mk (Below.trod laidOut (by kernel_rfl) (of_decide_eq_true (by kernel_rfl)) k1 bel lt1) (trodAll_cons_mk (shut_string Try.underlying9 w2) trodAll_mk0))), rfl, bel.frame _, fun h => by cases h⟩

theorem over : Rows.numBackRow.holds Try.pinned (OpenSpec.ofChange Rows.numBackSpec) :=
  OpenClaim.holds_of_wide 4 Try.f4 rfl rfl rfl rfl rfl rfl rfl ⟨rfl, rfl, rfl, rfl, rfl⟩ rfl rfl rfl rfl rfl (by kernel_rfl) Try.func4 (by kernel_rfl)
    (of_decide_eq_true (by kernel_rfl)) (by unfold Func.isWrapper; first | (rw [if_pos (by decide +kernel)]; kernel_rfl) | (rw [if_neg (by decide +kernel)]; exact ⟨rfl, rfl⟩))
    (fun os started H enc _ => lifted os started H enc)

/-- ████ THE STATEMENT ████ -/
theorem proved : Rows.NumBackSaid := over
#print axioms proved
end Go.Proofs.Ythdhmmhfljbcoaa.numBack
