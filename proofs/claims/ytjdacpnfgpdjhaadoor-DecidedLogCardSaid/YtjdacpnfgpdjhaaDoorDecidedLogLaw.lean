/-
  The statement DecidedLog: a device's log: for every geometry and every device the call answers true and leaves its arguments as they were. No conditions; the listed table is tied to the program's text.
-/
import Derived.Test.YtjdacpnfgpdjhaaDoorDecWakes
import Derived.Test.YtjdacpnfgpdjhaaDoorDecPrL
import Derived.Test.YtjdacpnfgpdjhaaDoorDecLog
import Derived.Test.YtjdacpnfgpdjhaaDoorDecSame
import Derived.Test.YtjdacpnfgpdjhaaDoorDevArg
import Derived.Test.YtjdacpnfgpdjhaaDoorGeoArg
import Derived.Test.YtjdacpnfgpdjhaaDoorLaid
import Derived.ProofKit
import Derived.ShutString
import Derived.ChangeOld
import Derived.Below
namespace Go.Proofs.YtjdacpnfgpdjhaaDoor.decidedLog
open Go.ChangeShapes Go.WideShapes Go.ChangeAt Go.RowKit
open Go.ChangeMaps (open_string shut_string)
set_option linter.unusedVariables false
set_option linter.unusedSimpArgs false

theorem own : ownKnob Tryd.prog.godebug = none := by kernel_rfl
theorem laidOut : laidOutB Tryd.prog = true := by kernel_rfl

set_option maxRecDepth 100000 in
set_option maxHeartbeats 4000000 in
theorem walk (g : G) (v : Value) (D : Dev) (w : World) (w1 : DevAt w w.heap.size v D) (b1 : DevBd D) (z1 : ∀ s ∈ D.S, s.size ≤ maxLen) (ht : TabOk w) :
    Calls Tryd.prog 4 #[.agg #[.int .i64 g.N, .int .i64 g.S, .int .i64 g.B, .int .i64 g.P, .int .i64 g.J, .int .i64 g.L, .int .i64 g.E, .int .i64 g.T], v] w fun e w' => e = .returned (.bool true) ∧ Below w.heap.size w w' := by
  obtain ⟨vS, vC, vK, vF, e1, ⟨aS, cS, eS, hS0, hSm, _⟩, ⟨aC, cC, eC, hC0, hCm, _⟩, ⟨aK, cK, eK, hK0, hKm, _⟩, ⟨aF, cF, eF, hF0, hFm, _⟩⟩ := id w1
  have HT : Hid (∀ W, Below w.heap.size w W → TabOk W) := fun W h => ht.below h
  obtain ⟨b, hb⟩ : ∃ b : Bool, b = true ↔ MayD D := ex_bool _
  have C1 : Hid (D.S.length ≤ 3000 → ∀ W, Below w.heap.size w W → Calls Tryd.prog 18 #[.agg #[.int .i64 g.N, .int .i64 g.S, .int .i64 g.B, .int .i64 g.P, .int .i64 g.J, .int .i64 g.L, .int .i64 g.E, .int .i64 g.T], v] W fun e w' => LogPost g D b W.heap.size e w' ∧ Below W.heap.size W w') := fun hS W h => dLog_any g v D b W (w1.up h) (by omega) b1 z1 hb (HT.out W h)
  have C2 : Hid (D.S.length ≤ 3000 → ∀ W, Below w.heap.size w W → Calls Tryd.prog 19 #[.agg #[.int .i64 g.N, .int .i64 g.S, .int .i64 g.B, .int .i64 g.P, .int .i64 g.J, .int .i64 g.L, .int .i64 g.E, .int .i64 g.T], v] W fun e w' => LogPost g D b W.heap.size e w' ∧ Below W.heap.size W w') := fun hS W h => refDLog_any g v D b W (w1.up h) (by omega) b1 z1 hb
  have HW : Hid (∀ W, Below w.heap.size w W → Calls Tryd.prog 7 #[] W fun e w' => e = .returned (.bool true) ∧ Below W.heap.size W w') := fun W h => dwakes_any W (HT.out W h)
  subst eS eC eK eF
  subst e1
  clear w1 b1 z1 hb ht
  obtain ⟨l, hl⟩ : ∃ l, logC g D b = l := ⟨_, rfl⟩
  obtain ⟨x, hx⟩ : ∃ x, logE g D b = x := ⟨_, rfl⟩
  have HL := Lib.hid hl
  have HX := Lib.hid hx
  clear hl hx
  generalize D.S.length = nS at *
  generalize D.C.length = nC at *
  generalize D.K.length = nK at *
  generalize D.F.length = nF at *
  obtain ⟨W0, hW⟩ : ∃ W0, W0 = (w.alloc (.cells #[.int .i64 g.N, .int .i64 g.S, .int .i64 g.B, .int .i64 g.P, .int .i64 g.J, .int .i64 g.L, .int .i64 g.E, .int .i64 g.T] 43)).alloc (.cells #[.slice aS nS cS, .slice aC nC cC, .slice aK nK cK, .int .i64 D.n, .slice aF nF cF] 46) := ⟨_, rfl⟩
  have b0 : Below w.heap.size w W0 := by rw [hW]; exact ((Below.refl _ _).alloc (Nat.le_refl _) _).alloc (by simp) _
  have hlt : w.heap.size + 1 < W0.heap.size := by rw [hW]; simp
  have pg : Blk W0 w.heap.size #[.int .i64 g.N, .int .i64 g.S, .int .i64 g.B, .int .i64 g.P, .int .i64 g.J, .int .i64 g.L, .int .i64 g.E, .int .i64 g.T] 43 := by rw [hW]; exact (Blk.new w _ _).alloc _
  have pd : Blk W0 (w.heap.size + 1) #[.slice aS nS cS, .slice aC nC cC, .slice aK nK cK, .int .i64 D.n, .slice aF nF cF] 46 := by
    have h := Blk.new (w.alloc (.cells #[.int .i64 g.N, .int .i64 g.S, .int .i64 g.B, .int .i64 g.P, .int .i64 g.J, .int .i64 g.L, .int .i64 g.E, .int .i64 g.T] 43)) #[.slice aS nS cS, .slice aC nC cC, .slice aK nK cK, .int .i64 D.n, .slice aF nF cF] 46
    rw [hW]
    simpa using h
  unfold maxLen at hSm hCm hKm hFm
  go_enter Tryd.func4, Tryd.ntmps4
  by_cases q0 : nS ≤ 3000
  · have z0 : decide ((3000 : Int) < (nS : Int)) = false := decide_eq_false (by omega)
    by_cases q1 : nC ≤ 20
    · have z1 : decide ((20 : Int) < (nC : Int)) = false := decide_eq_false (by omega)
      by_cases q2 : nK ≤ 20
      · have z2 : decide ((20 : Int) < (nK : Int)) = false := decide_eq_false (by omega)
        by_cases q3 : nF ≤ 100
        · have z3 : decide ((100 : Int) < (nF : Int)) = false := decide_eq_false (by omega)
          replace C1 := Lib.hid (C1.out q0)
          have C3 := Lib.hid (C2.out q0)
          clear C2
          clear q0 q1 q2 q3
          go_wp2_with fail
          rw [← hW]
          clear hW z0 z1 z2 z3
          refine (C1.out _ b0).mono ?_
          rintro e v1 ⟨h1, hb1⟩
          obtain ⟨A1, n1, c1, rfl, hl1, hn1⟩ := log_post h1
          rw [HL.out] at hl1
          rw [HX.out]
          have p1 := pg.below hb1 (by omega)
          have p2 := pd.below hb1 hlt
          have b1 := below_then b0 hb1
          have d0 := p1.cell 0 _ rfl
          have d1 := p1.cell 1 _ rfl
          have d2 := p1.cell 2 _ rfl
          have d3 := p1.cell 3 _ rfl
          have d4 := p1.cell 4 _ rfl
          have d5 := p1.cell 5 _ rfl
          have d6 := p1.cell 6 _ rfl
          have d7 := p1.cell 7 _ rfl
          have e0 := p2.cell 0 _ rfl
          have e1 := p2.cell 1 _ rfl
          have e2 := p2.cell 2 _ rfl
          have e3 := p2.cell 3 _ rfl
          have e4 := p2.cell 4 _ rfl
          have lg := p1.lt
          have ld := p2.lt
          clear h1 hb1 b0 pg pd p1 p2 C1
          go_wp2_with fail
          refine (C3.out _ b1).mono ?_
          rintro e v2 ⟨h2, hb2⟩
          obtain ⟨A2, n2, c2, rfl, hl2, hn2⟩ := log_post h2
          rw [HL.out] at hl2
          rw [HX.out]
          have b2 := below_then b1 hb2
          have hl1' := hl1.below hb2
          have y1 : (x == x) = true := by simp
          clear h2 hb2 b1 hl1 C3 d0 d1 d2 d3 d4 d5 d6 d7 e0 e1 e2 e3 e4 lg ld
          go_wp2_with fail
          refine (refDSame_any A1 A2 n1 c1 n2 c2 l l _ hl1' hl2 hn1).mono ?_
          rintro e v3 ⟨rfl, hb3⟩
          have b3 := below_then b2 hb3
          rw [show sameC l l = true from decide_eq_true rfl]
          clear hb3 b2 hl1' hl2
          go_wp2_with fail
          refine (HW.out _ b3).mono ?_
          rintro e u2 ⟨rfl, hb2⟩
          have bb := below_then b3 hb2
          clear hb2 b3
          go_wp2_with fail
          go_ret
          exact ⟨rfl, bb⟩
        · have z3 : decide ((100 : Int) < (nF : Int)) = true := decide_eq_true (by omega)
          clear q0 q1 q2 q3
          go_wp2_with fail
          rw [← hW]
          clear hW pg pd C1 C2
          refine (HW.out _ b0).mono ?_
          rintro e u2 ⟨rfl, hb2⟩
          have b2 := below_then b0 hb2
          clear hb2 b0
          go_wp2_with fail
          go_ret
          exact ⟨rfl, b2⟩
      · have z2 : decide ((20 : Int) < (nK : Int)) = true := decide_eq_true (by omega)
        clear q0 q1 q2
        go_wp2_with fail
        rw [← hW]
        clear hW pg pd C1 C2
        refine (HW.out _ b0).mono ?_
        rintro e u2 ⟨rfl, hb2⟩
        have b2 := below_then b0 hb2
        clear hb2 b0
        go_wp2_with fail
        go_ret
        exact ⟨rfl, b2⟩
    · have z1 : decide ((20 : Int) < (nC : Int)) = true := decide_eq_true (by omega)
      clear q0 q1
      go_wp2_with fail
      rw [← hW]
      clear hW pg pd C1 C2
      refine (HW.out _ b0).mono ?_
      rintro e u2 ⟨rfl, hb2⟩
      have b2 := below_then b0 hb2
      clear hb2 b0
      go_wp2_with fail
      go_ret
      exact ⟨rfl, b2⟩
  · have z0 : decide ((3000 : Int) < (nS : Int)) = true := decide_eq_true (by omega)
    clear q0
    go_wp2_with fail
    rw [← hW]
    clear hW pg pd C1 C2
    refine (HW.out _ b0).mono ?_
    rintro e u2 ⟨rfl, hb2⟩
    have b2 := below_then b0 hb2
    clear hb2 b0
    go_wp2_with fail
    go_ret
    exact ⟨rfl, b2⟩

/-! ### THE ROW's STEP -/
set_option maxRecDepth 100000 in
theorem lifted (os : Os) (started : os.Started) (H : Type) (enc : TypeId × Value → H) :
    ReturnsInHanded {} Tryd.checked os 4 .any (fun w args => (Rows.decidedLogSpec.pre enc Tryd.prog Tryd.f4 [] false w args ∧ laidMetH Tryd.prog laidL w) ∧ sizedMet enc Tryd.prog Tryd.f4 (OpenSpec.ofChange Rows.decidedLogSpec) false w args) (Rows.decidedLogSpec.post enc Tryd.prog Tryd.f4 false true false false) := by
  refine returnsInHanded_of_change_and (C := Tryd.checked) (X := fun w _ => laidMetH Tryd.prog laidL w) (fun _ _ _ hh h => h.of_heap hh) own started (by kernel_rfl) Tryd.func4
    (ChangeSpec.witness_shaped (enc := enc) (C := Tryd.checked) (os := os) (X := fun w _ => laidMetH Tryd.prog laidL w) false (World.doorLaid Tryd.prog 14 os) #[.agg #[.int .i64 0, .int .i64 0, .int .i64 0, .int .i64 0, .int .i64 0, .int .i64 0, .int .i64 0, .int .i64 0], .agg #[.slice none 0 0, .slice none 0 0, .slice none 0 0, .int .i64 0, .slice none 0 0]] 8 rfl (World.shaped_of_RefB (by kernel_rfl) (by kernel_rfl)) (by kernel_rfl) (by kernel_rfl) (by kernel_rfl) (door_met os _)) ?_
  intro W base args ds gs before hval0 hW _ _ hL _
  have hval : ∀ (j : Nat) t v, Tryd.f4.params[j]? = some t → args[j]? = some v → Value.okWide Tryd.prog W .any base t v := hval0
  have hW' := hW
  obtain ⟨p, q, hA0, hV, rfl, hfz, hnd⟩ := hW
  have hA : DataW.TrodAll enc Tryd.prog W 0 (fun _ => true) true Tryd.f4.params.toList args.toList ds p := hA0
  rw [Tryd.params4] at hA hval
  obtain ⟨v0, vs0, d0, ds0, p0, q0, hargs, rfl, rfl, h0, r0⟩ := trodAll_cons hA
  obtain ⟨v1, vs1, d1, ds1, p1, q1, rfl, rfl, rfl, h1, r1⟩ := trodAll_cons r0
  obtain ⟨rfl, rfl, rfl⟩ := trodAll_nil r1
  obtain rfl : args = #[v0, v1] := by cases args; simp_all
  obtain ⟨rfl, rfl⟩ := trodVars_none hV
  have k0 := h0
  have lt0 : ∀ x ∈ p0, x.block < W.heap.size := by obtain ⟨m, hm⟩ := k0; exact DataW.trod_lt m _ _ _ hm
  obtain ⟨g0, rfl⟩ := open_geo (hval 0 43 v0 rfl rfl) h0
  have k1 := h1
  have lt1 : ∀ x ∈ p1, x.block < W.heap.size := by obtain ⟨m, hm⟩ := k1; exact DataW.trod_lt m _ _ _ hm
  obtain ⟨t1, w1, b1, z1⟩ := open_device (hval 1 46 v1 rfl rfl) h1
  clear hA0 hval0
  refine (walk g0 v1 t1 W w1 b1 z1 (met_of_laid hL)).mono fun e W' ⟨he, bel⟩ => ?_
  subst he
  exact ⟨_, rfl, _, _, _, [], _, [], hW', trodAll_mk1 (shut_bool Tryd.underlying4 _), (trodAll_cons_mk (Below.trod laidOut (by kernel_rfl) (of_decide_eq_true (by kernel_rfl)) k0 bel lt0) (trodAll_cons_mk (Below.trod laidOut (by kernel_rfl) (of_decide_eq_true (by kernel_rfl)) k1 bel lt1) trodAll_mk0)), rfl, bel.frame _, fun h => by cases h⟩

theorem over : Rows.decidedLogRow.holds Tryd.pinned (OpenSpec.ofChange Rows.decidedLogSpec) :=
  OpenClaim.holds_of_wide 4 Tryd.f4 rfl rfl rfl rfl rfl rfl rfl ⟨rfl, rfl, rfl, rfl, rfl⟩ rfl rfl rfl rfl rfl (by kernel_rfl) Tryd.func4 (by kernel_rfl)
    (of_decide_eq_true (by kernel_rfl)) (by unfold Func.isWrapper; first | (rw [if_pos (by decide +kernel)]; kernel_rfl) | (rw [if_neg (by decide +kernel)]; exact ⟨rfl, rfl⟩))
    (fun os started H enc _ => lifted os started H enc)

/-- The statement. -/
theorem proved : Rows.DecidedLogSaid := over
#print axioms proved

/-- THE TIED CARD. -/
theorem card : Rows.DecidedLogCardSaid :=
  Claim7.holds_tied_plain_at .later [] [.data] true (true, "c35ad92adf93973a01dae9bd60b3c8860a819458c75ec0b51465b5a62d52920c") false
    proved (fun _ h => by cases h) (by kernel_rfl) (fun _ h => by cases h) decidedLog_row_tie rfl ⟨rfl, rfl⟩ (by kernel_rfl) rfl
    (fun f fn hf hfn => by
      obtain rfl : f = 4 := Option.some.inj ((show Tryd.prog.funcNamed "breakwater/breakwaterlaw12.DecidedLog" = some 4 by kernel_rfl).symm.trans hf) |>.symm
      obtain rfl : fn = Tryd.f4 := (Option.some.inj (Tryd.func4.symm.trans hfn)).symm
      exact ⟨by kernel_rfl, fun j t ht => by
        rw [Tryd.params4] at ht
        have hm : t ∈ [43, 46] := by simpa using Array.mem_of_getElem? ht
        have hall : ([43, 46].all fun u => !Tryd.prog.wantsStandIn u) = true := by kernel_rfl
        exact (show Tryd.prog.wantsStandIn t = false by simpa using List.all_eq_true.1 hall t hm)⟩)
    (by kernel_rfl)
#print axioms card
end Go.Proofs.YtjdacpnfgpdjhaaDoor.decidedLog
