/-
  The statement BallotNext: the next ballot is the node's, above all that was seen, the least such, and two nodes' are unlike: for all numbers and every row of them the call answers true and leaves its arguments as they were. No conditions; the listed table is tied to the program's text.
-/
import Derived.Test.YtgllamjgagbblaaDoorBallotWakes
import Derived.Test.YtgllamjgagbblaaDoorLaid
import Derived.ShutString
import Derived.ChangeOld
import Derived.Below
namespace Go.Proofs.YtgllamjgagbblaaDoor.ballotNext
open Go.ChangeShapes Go.WideShapes Go.ChangeAt Go.RowKit
open Go.ChangeMaps (open_string shut_string)
set_option linter.unusedVariables false
set_option linter.unusedSimpArgs false

/-- The greatest of what was seen and 0. -/
def topZ (l : List Int) : Int := l.foldl max 0
theorem topZ_snoc (l : List Int) (x : Int) : topZ (l ++ [x]) = max (topZ l) x := by simp [topZ]
theorem topZ_take {l : List Int} {k : Nat} (h : k < l.length) : topZ (l.take (k + 1)) = max (topZ (l.take k)) l[k] := by
  rw [List.take_succ_eq_append_getElem h, topZ_snoc]
theorem topZ_le (l : List Int) : 0 ≤ topZ l := by
  unfold topZ
  have : ∀ (l : List Int) (a : Int), a ≤ l.foldl max a := by
    intro l
    induction l with
    | nil => intro a; exact Int.le_refl _
    | cons x l ih => intro a; exact Int.le_trans (Int.le_max_left a x) (ih (max a x))
  exact this l 0
theorem top_both (l : List Int) : topV l = max 15 (topZ l) := by
  unfold topV topZ
  have : ∀ (l : List Int) (a b : Int), l.foldl max (max a b) = max a (l.foldl max b) := by
    intro l
    induction l with
    | nil => intro a b; rfl
    | cons x l ih => intro a b; show l.foldl max (max (max a b) x) = max a (l.foldl max (max b x)); rw [Int.max_assoc, ih]
  exact this l 15 0
/-- What holds of a ballot above t. -/
theorem next_at {node : Int} {l : List Int} {t : Int} (h1 : 0 ≤ node) (h2 : node ≤ 15) (ht : topV l = t) (h3 : t ≤ 1099511627700) :
    ∃ q, nextV node l = 16 * q + node ∧ t < 16 * q + node ∧ 16 * q + node ≤ t + 16 ∧ 1 ≤ q := by
  have h15 := topV_le l
  rw [ht] at h15
  have hb : t - node - 16 < 16 * ((t - node) / 16) ∧ 16 * ((t - node) / 16) ≤ t - node := by omega
  refine ⟨(t - node) / 16 + 1, ?_, by omega, by omega, by omega⟩
  rw [next_yes h1 h2 (by omega) (by rw [ht]; omega), ht]
theorem node_at {n q : Int} (h1 : 0 ≤ n) (h2 : n ≤ 15) (h3 : 1 ≤ q) (h4 : 16 * q + n ≤ 1099511627776) : nodeV (16 * q + n) = n := by
  rw [node_yes (by omega) h4]
  omega

set_option maxRecDepth 100000 in
set_option maxHeartbeats 2000000 in
theorem walk (a0 a1 : Int) (a2 : Option Addr) (len2 cap2 : Nat) (z2 : List Int) (w : World) (w0 : (Lit.int .i64 a0).wf = true) (w1 : (Lit.int .i64 a1).wf = true) (w2 : IsRow .i64 w a2 len2 cap2 z2) (ht : TabOk w) :
    Calls Tryd.prog 5 #[.int .i64 a0, .int .i64 a1, .slice a2 len2 cap2] w fun e w' => e = .returned (.bool true) ∧ Below w.heap.size w w' := by
  obtain ⟨hl2, -, hx2⟩ := lies_of_row w2
  unfold maxLen at hx2
  generalize z2.take len2 = l at *
  have HL : Hid (l.length = len2) := by show _ = _; simpa using hl2.1
  clear w0 w1 w2
  go_enter Tryd.func5, Tryd.ntmps5
  by_cases g1 : a0 < 0
  · go_wp2_with fail
    refine (wakes_any _ ht).mono ?_
    rintro e w6 ⟨rfl, hb6⟩
    go_wp2_with fail
    go_ret
    exact ⟨rfl, hb6⟩
  have g1' : 0 ≤ a0 := by omega
  clear g1
  by_cases g2 : 16 ≤ a0
  · go_wp2_with fail
    refine (wakes_any _ ht).mono ?_
    rintro e w6 ⟨rfl, hb6⟩
    go_wp2_with fail
    go_ret
    exact ⟨rfl, hb6⟩
  have g2' : a0 < 16 := by omega
  clear g2
  by_cases g3 : a1 < 0
  · go_wp2_with fail
    refine (wakes_any _ ht).mono ?_
    rintro e w6 ⟨rfl, hb6⟩
    go_wp2_with fail
    go_ret
    exact ⟨rfl, hb6⟩
  have g3' : 0 ≤ a1 := by omega
  clear g3
  by_cases g4 : 16 ≤ a1
  · go_wp2_with fail
    refine (wakes_any _ ht).mono ?_
    rintro e w6 ⟨rfl, hb6⟩
    go_wp2_with fail
    go_ret
    exact ⟨rfl, hb6⟩
  have g4' : a1 < 16 := by omega
  clear g4
  by_cases g5 : 100 < len2
  · go_wp2_with fail
    refine (wakes_any _ ht).mono ?_
    rintro e w6 ⟨rfl, hb6⟩
    go_wp2_with fail
    go_ret
    exact ⟨rfl, hb6⟩
  have g5' : len2 ≤ 100 := by omega
  clear g5
  have hA := Lib.hid hl2
  go_wp2_with fail
  go_loopw [7, 8] (fun t i wr => ∃ k : Nat, k ≤ len2 ∧ i = .int .i64 k ∧ t = .int .i64 (topZ (l.take k)) ∧ wr = w ∧ Hid (topZ (l.take k) ≤ 549755813888)) (fun _ i _ => len2 - (intOf i).toNat)
  case atStart => exact ⟨0, Nat.zero_le _, rfl, rfl, rfl, (by decide : topZ [] ≤ 549755813888)⟩
  case round =>
    obtain ⟨k, hk, rfl, rfl, rfl, HT⟩ := hrel
    by_cases hlt : k < len2
    · have hkl : k < l.length := by rw [HL.out]; exact hlt
      obtain ⟨ad, u, rfl, had, hu, hc⟩ := hl2.at_ hlt
      obtain rfl : u = .int .i64 l[k] := by
        rw [List.getElem?_map, List.getElem?_eq_getElem hkl] at hu
        exact (Option.some.inj hu).symm
      have HX := Lib.hid (topZ_take hkl)
      clear hu hl2 hA
      generalize l[k] = x at *
      generalize topZ (l.take k) = t at *
      by_cases hx : 549755813888 < x
      · go_wp2_with fail
        refine (wakes_any _ ht).mono ?_
        rintro e w6 ⟨rfl, hb6⟩
        go_wp2_with fail
        go_ret
        exact ⟨rfl, hb6⟩
      · have hx' : x ≤ 549755813888 := by omega
        clear hx
        have HY : Hid (topZ (l.take (k + 1)) ≤ 549755813888) := by
          show _ ≤ _
          rw [HX.out]
          have := HT.out
          omega
        go_wp2_with fail
        go_roundw
        case rel => exact ⟨k + 1, by omega, by go_num, by rw [HX.out]; exact congrArg _ (by split <;> omega), trivial, HY⟩
        case measure => simp [intOf]; omega
    · have hkn : k = len2 := by omega
      have HZ : Hid (topZ (l.take k) = topZ l) := by
        show _ = _
        rw [hkn, ← HL.out, List.take_length]
      have hz0 := topZ_le l
      have hz1 : topZ l ≤ 549755813888 := by rw [← HZ.out]; exact HT.out
      have HV := Lib.hid (top_both l)
      rw [HZ.out]
      clear hlt HT hl2 HZ
      generalize topZ l = t at *
      obtain ⟨qa, ea, a1l, a1u, a1q⟩ := next_at (node := a0) g1' (by omega) HV.out (by omega)
      obtain ⟨qb, eb, b1l, b1u, b1q⟩ := next_at (node := a1) g3' (by omega) HV.out (by omega)
      have hab : Hid (a0 = a1 → 16 * qa + a0 = 16 * qb + a1) := fun h => by
        rw [← ea, ← eb, h]
      have hnab : Hid (16 * qa + a0 = 16 * qb + a1 → a0 = a1) := fun h => by omega
      have na := Lib.hid (node_at (n := a0) g1' (by omega) a1q (by omega))
      have htc : topV [16 * qa + a0, 16 * qb + a1] = max (16 * qa + a0) (16 * qb + a1) := by
        show max (max 15 _) _ = _
        rw [Int.max_eq_right (by omega : (15 : Int) ≤ 16 * qa + a0)]
      obtain ⟨qc, ec, c1l, c1u, c1q⟩ := next_at (node := a0) g1' (by omega) htc (by omega)
      have nc := Lib.hid (node_at (n := a0) g1' (by omega) c1q (by omega))
      have hc16 : 16 * qc + a0 = 16 * qa + a0 + 16 := by omega
      have ec := Lib.hid ec
      rw [hc16] at ec nc
      have ea := Lib.hid ea
      have eb := Lib.hid eb
      have f1 : t < 16 * qa + a0 := by omega
      have f2 : 16 * qa + a0 ≤ t + 32 := by omega
      have f3 : 16 * qa + a0 - 16 ≤ t ∨ (t < 16 * qa + a0 - 16 ∧ 16 * qa + a0 < 32) := by omega
      have f4 : 16 * qb + a1 < 16 * qa + a0 + 16 := by omega
      have f5 : 16 ≤ 16 * qa + a0 := by omega
      have f6 : 16 * qa + a0 ≤ 549755813920 := by omega
      have f7 : 16 ≤ 16 * qb + a1 := by omega
      clear a1l a1u a1q b1l b1u b1q c1l c1u c1q htc hc16
      generalize 16 * qa + a0 = a at *
      generalize 16 * qb + a1 = b at *
      have w1 : wrap64 (a - 16) = a - 16 := IntWalk.wrap64_in _ ⟨by omega, by omega⟩
      have w2 : wrap64 (t + 32) = t + 32 := IntWalk.wrap64_in _ ⟨by omega, by omega⟩
      have w3 : wrap64 (a + 16) = a + 16 := IntWalk.wrap64_in _ ⟨by omega, by omega⟩
      obtain ⟨P, hP1, hP2⟩ : ∃ P : Bool, (a == b) = P ∧ (a0 == a1) = P := by
        by_cases h : a0 = a1
        · exact ⟨true, beq_yes (hab.out h), beq_yes h⟩
        · exact ⟨false, beq_no (fun e => h (hnab.out e)), beq_no h⟩
      have n1 := bNext_any a0 wr.heap.size len2 cap2 a2 l wr hA.out (by omega)
      have n2 := bNext_any a1 wr.heap.size len2 cap2 a2 l wr hA.out (by omega)
      rw [ea.out] at n1
      rw [eb.out] at n2
      clear hab hnab ea eb HV HL hA
      go_wp2_with fail
      refine n1.mono ?_
      rintro e w6 ⟨rfl, rfl⟩
      go_wp2_with fail
      refine n2.mono ?_
      rintro e w6 ⟨rfl, rfl⟩
      clear n1 n2
      have n3 := bNode_any a wr
      rw [na.out] at n3
      have hL := lies_new wr #[.int .i64 a, .int .i64 b] 3 (0, 0)
      have b7 : Below wr.heap.size wr (wr.alloc (.cells #[.int .i64 a, .int .i64 b] 3 (0, 0))) := (Below.refl _ _).alloc (Nat.le_refl _) _
      have n4 := bNext_any a0 _ 2 2 _ [a, b] _ hL (by omega)
      rw [ec.out] at n4
      have n5 := bNode_any (a + 16) (wr.alloc (.cells #[.int .i64 a, .int .i64 b] 3 (0, 0)))
      rw [nc.out] at n5
      have ht7 := ht.below b7
      have g8 : a < a + 16 := by omega
      have g9 : b ≤ a + 16 := by omega
      clear hL na nc ec
      rcases f3 with f3 | ⟨f3, f3'⟩
      all_goals
        go_wp2_with fail
        refine n3.mono ?_
        rintro e w6 ⟨rfl, rfl⟩
        clear n3
        go_wp2_with fail
        refine n4.mono ?_
        rintro e w6 ⟨rfl, rfl⟩
        clear n4
        go_wp2_with fail
        refine n5.mono ?_
        rintro e w6 ⟨rfl, rfl⟩
        clear n5
        go_wp2_with fail
        refine (wakes_any _ ht7).mono ?_
        rintro e w6 ⟨rfl, hb6⟩
        have b8 := below_then b7 hb6
        clear b7 hb6 ht7
        go_wp2_with fail
        go_ret
        exact ⟨rfl, b8⟩

/-! ### THE ROW's STEP: WRITTEN OUT: LEAVE IT -/
set_option maxRecDepth 100000 in
theorem lifted (os : Os) (started : os.Started) (H : Type) (enc : TypeId × Value → H) :
    ReturnsInHanded {} Tryd.checked os 5 .any (fun w args => (Rows.ballotNextSpec.pre enc Tryd.prog Tryd.f5 [] false w args ∧ laidMetH Tryd.prog laidL w) ∧ sizedMet enc Tryd.prog Tryd.f5 (OpenSpec.ofChange Rows.ballotNextSpec) false w args) (Rows.ballotNextSpec.post enc Tryd.prog Tryd.f5 false true false false) := by
  refine returnsInHanded_of_change_and (C := Tryd.checked) (X := fun w _ => laidMetH Tryd.prog laidL w) (fun _ _ _ hh h => h.of_heap hh) own started (by kernel_rfl) Tryd.func5
    (ChangeSpec.witness_shaped (enc := enc) (C := Tryd.checked) (os := os) (X := fun w _ => laidMetH Tryd.prog laidL w) false (World.doorLaid Tryd.prog 14 os) #[.int .i64 0, .int .i64 0, .slice none 0 0] 8 rfl (World.shaped_of_RefB (by kernel_rfl) (by kernel_rfl)) (by kernel_rfl) (by kernel_rfl) (by kernel_rfl) (door_met os _)) ?_
  intro W base args ds gs before hval0 hW _ _ hL _
  have hval : ∀ (j : Nat) t v, Tryd.f5.params[j]? = some t → args[j]? = some v → Value.okWide Tryd.prog W .any base t v := hval0
  have hW' := hW
  obtain ⟨p, q, hA0, hV, rfl, hfz, hnd⟩ := hW
  have hA : DataW.TrodAll enc Tryd.prog W 0 (fun _ => true) true Tryd.f5.params.toList args.toList ds p := hA0
  rw [Tryd.params5] at hA hval
  obtain ⟨v0, vs0, d0, ds0, p0, q0, hargs, rfl, rfl, h0, r0⟩ := trodAll_cons hA
  obtain ⟨v1, vs1, d1, ds1, p1, q1, rfl, rfl, rfl, h1, r1⟩ := trodAll_cons r0
  obtain ⟨v2, vs2, d2, ds2, p2, q2, rfl, rfl, rfl, h2, r2⟩ := trodAll_cons r1
  obtain ⟨rfl, rfl, rfl⟩ := trodAll_nil r2
  obtain rfl : args = #[v0, v1, v2] := by cases args; simp_all
  obtain ⟨rfl, rfl⟩ := trodVars_none hV
  obtain ⟨a0, rfl, rfl, rfl, w0⟩ := open_int Tryd.underlying3 (hval 0 3 v0 rfl rfl) h0
  obtain ⟨a1, rfl, rfl, rfl, w1⟩ := open_int Tryd.underlying3 (hval 1 3 v1 rfl rfl) h1
  obtain ⟨a2, len2, cap2, rfl⟩ := okWide_slice Tryd.underlying35 (hval 2 35 v2 rfl rfl)
  have k2 := h2
  have lt2 : ∀ x ∈ p2, x.block < W.heap.size := by obtain ⟨m, hm⟩ := k2; exact DataW.trod_lt m _ _ _ hm
  obtain ⟨z2, w2⟩ : ∃ zs, IsRow .i64 W a2 len2 cap2 zs := by
    obtain ⟨fuel, hf⟩ := h2
    rcases open_ints Tryd.underlying35 Tryd.underlying3 (by kernel_rfl) hf with ⟨hcs, _⟩ | ⟨x, l, c, zs, hcs, _, hl, hm, hz, _, hcell, hwz⟩
    · simp [Value.cells] at hcs
      obtain ⟨rfl, rfl, rfl⟩ := hcs
      exact ⟨[], .inl ⟨rfl, rfl, rfl, rfl⟩⟩
    · simp [Value.cells] at hcs
      obtain ⟨rfl, rfl, rfl⟩ := hcs
      exact ⟨zs, .inr ⟨_, rfl, hl, hm, by simpa using hz, hcell, hwz⟩⟩
  clear hA0 hval0
  refine (walk a0 a1 a2 len2 cap2 z2 W w0 w1 w2 (met_of_laid hL)).mono fun e W' ⟨he, bel⟩ => ?_
  subst he
  exact ⟨_, rfl, _, _, _, [], _, [], hW', trodAll_mk1 (shut_bool Tryd.underlying4 _), (trodAll_cons_mk (shut_int Tryd.underlying3 w0) (trodAll_cons_mk (shut_int Tryd.underlying3 w1) (trodAll_cons_mk (Below.trod laidOut (by kernel_rfl) (of_decide_eq_true (by kernel_rfl)) k2 bel lt2) trodAll_mk0))), rfl, bel.frame _, fun h => by cases h⟩

theorem over : Rows.ballotNextRow.holds Tryd.pinned (OpenSpec.ofChange Rows.ballotNextSpec) :=
  OpenClaim.holds_of_wide 5 Tryd.f5 rfl rfl rfl rfl rfl rfl rfl ⟨rfl, rfl, rfl, rfl, rfl⟩ rfl rfl rfl rfl rfl (by kernel_rfl) Tryd.func5 (by kernel_rfl)
    (of_decide_eq_true (by kernel_rfl)) (by unfold Func.isWrapper; first | (rw [if_pos (by decide +kernel)]; kernel_rfl) | (rw [if_neg (by decide +kernel)]; exact ⟨rfl, rfl⟩))
    (fun os started H enc _ => lifted os started H enc)

/-- ████ THE STATEMENT ████ -/
theorem proved : Rows.BallotNextSaid := over
#print axioms proved

/-- THE TIED CARD. -/
theorem card : Rows.BallotNextCardSaid :=
  Claim7.holds_tied_plain_at .later [] [.data] true (true, "9b282f679404cd788f6332000a6e008f09f8cd817f4e2dd17798d1668e2a916c") false
    proved (fun _ h => by cases h) (by kernel_rfl) (fun _ h => by cases h) ballotNext_row_tie rfl ⟨rfl, rfl⟩ (by kernel_rfl) rfl
    (fun f fn hf hfn => by
      obtain rfl : f = 5 := Option.some.inj ((show Tryd.prog.funcNamed "breakwater/breakwaterlaw08.BallotNext" = some 5 by kernel_rfl).symm.trans hf) |>.symm
      obtain rfl : fn = Tryd.f5 := (Option.some.inj (Tryd.func5.symm.trans hfn)).symm
      exact ⟨by kernel_rfl, fun j t ht => by
        rw [Tryd.params5] at ht
        have hm : t ∈ [3, 3, 35] := by simpa using Array.mem_of_getElem? ht
        have hall : ([3, 3, 35].all fun u => !Tryd.prog.wantsStandIn u) = true := by kernel_rfl
        exact (show Tryd.prog.wantsStandIn t = false by simpa using List.all_eq_true.1 hall t hm)⟩)
    (by kernel_rfl)
#print axioms card
end Go.Proofs.YtgllamjgagbblaaDoor.ballotNext
