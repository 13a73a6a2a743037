/-
  The statement DecidedTells: any bytes' sector, any sector, any row of them, any commands' last keys: for every two texts, row of texts and row of commands the call answers true and leaves its arguments as they were. No conditions; the listed table is tied to the program's text.
-/
import Derived.Test.YtjdacpnfgpdjhaaDoorDecWakes
import Derived.Test.YtjdacpnfgpdjhaaDoorDecSame
import Derived.Test.YtjdacpnfgpdjhaaDoorGeoOpen
import Derived.Test.YtjdacpnfgpdjhaaDoorNumInts
import Derived.Test.YtjdacpnfgpdjhaaDoorLaid
import Derived.ProofKit
import Derived.ShutString
import Derived.ChangeOld
import Derived.Below
namespace Go.Proofs.YtjdacpnfgpdjhaaDoor.decidedTells
open Go.ChangeShapes Go.WideShapes Go.ChangeAt Go.RowKit
open Go.ChangeMaps (open_string shut_string)
set_option linter.unusedVariables false
set_option linter.unusedSimpArgs false

/-- What a row comes to, one way of saying it. -/
def rowV (l : List ByteArray) : List CmdM := (rowO l).getD []
def rowE (l : List ByteArray) : Int := if rowO l = none then 50 else 0
theorem own : ownKnob Tryd.prog.godebug = none := by kernel_rfl
theorem laidOut : laidOutB Tryd.prog = true := by kernel_rfl
theorem row_post {l : List ByteArray} {B : Nat} {e : Ending} {w' : World} (h : RowDPost l B e w') :
    ∃ A n c, e = .returned (.tuple #[.slice A n c, .int .i64 (rowE l)]) ∧ LiesC w' w'.heap.size A n (rowV l) ∧ n ≤ maxLen := by
  rcases h with ⟨h, rfl⟩ | ⟨m, v, h, rfl, own⟩
  · refine ⟨none, 0, 0, ?_, ?_, Nat.zero_le _⟩
    · unfold rowE; rw [if_pos h]
    · unfold rowV; rw [h]; exact ⟨rfl, Lies.nothing⟩
  · obtain ⟨A, c, rfl, h1, h2⟩ := ow_shape own
    refine ⟨A, m.length, c, ?_, ?_, Nat.le_trans h1 h2⟩
    · unfold rowE; rw [if_neg (by rw [h]; simp)]
    · unfold rowV; rw [h]; exact ⟨rfl, ow_lies own⟩

set_option maxRecDepth 100000 in
set_option maxHeartbeats 4000000 in
theorem walk (s t : ByteArray) (a2 : Option Addr) (n2 c2 : Nat) (z2 : List ByteArray) (a3 : Option Addr) (n3 c3 : Nat) (ks : List CmdM) (w : World) (w0 : s.size ≤ maxLen) (w1 : t.size ≤ maxLen)
    (w2 : IsStrs w a2 n2 c2 z2) (w3 : IsCmds w a3 n3 c3 ks) (ht : TabOk w) :
    Calls Tryd.prog 3 #[.string s, .string t, .slice a2 n2 c2, .slice a3 n3 c3] w fun e w' => e = .returned (.bool true) ∧ Below w.heap.size w w' := by
  obtain ⟨hA, hss, hlm⟩ := lies_of_strs w2
  obtain ⟨hK, hkm, _, _, _⟩ := w3
  generalize z2.take n2 = l at *
  clear w2
  have HT : Hid (∀ W, Below w.heap.size w W → TabOk W) := fun W h => ht.below h
  have HL : Hid (∀ W, Below w.heap.size w W → Lies W W.heap.size a2 n2 (l.map Value.string)) := fun W h => (hA.below h).more h.size
  have HK : Hid (∀ W, Below w.heap.size w W → LiesC W W.heap.size a3 n3 ks) := fun W h => hK.below h
  have HS := Lib.hid hss
  unfold maxLen at hlm hkm
  clear hA hK hss ht
  have HW : Hid (∀ W, Below w.heap.size w W → Calls Tryd.prog 7 #[] W fun e w' => e = .returned (.bool true) ∧ Below W.heap.size W w') := fun W h => dwakes_any W (HT.out W h)
  have b0 := Below.refl w.heap.size w
  go_enter Tryd.func3, Tryd.ntmps3
  by_cases g : s.size ≤ 600 ∧ t.size ≤ 600 ∧ n2 ≤ 100 ∧ n3 ≤ 100
  · obtain ⟨g0, g1, g2, g3⟩ := g
    have k0 : decide ((600 : Int) < (s.size : Int)) = false := decide_eq_false (by omega)
    have k1 : decide ((600 : Int) < (t.size : Int)) = false := decide_eq_false (by omega)
    have k2 : decide ((100 : Int) < (n2 : Int)) = false := decide_eq_false (by omega)
    have k3 : decide ((100 : Int) < (n3 : Int)) = false := decide_eq_false (by omega)
    go_wp2_with fail
    obtain ⟨x, hx⟩ : ∃ x, dV s = x := ⟨_, rfl⟩
    obtain ⟨xe, hxe⟩ : ∃ x, dE s = x := ⟨_, rfl⟩
    have C1 := Lib.hid fun W h => refDBytes_any s W h
    refine (dBytes_any s _ (by omega) (HT.out _ b0)).mono ?_
    rintro e v1 ⟨rfl, hb1⟩
    rw [hx, hxe]
    have b1 := below_then b0 hb1
    clear hb1 b0
    go_wp2_with fail
    refine (refDBytes_any s _ (by omega)).mono ?_
    rintro e v2 ⟨rfl, hb2⟩
    rw [hx, hxe]
    have b2 := below_then b1 hb2
    have y1 : (xe == xe) = true := by simp
    clear hb2 b1 hx hxe
    go_wp2_with fail
    refine (dRead_any t _ w1 (HT.out _ b2)).mono ?_
    rintro e v3 ⟨rfl, hb3⟩
    obtain ⟨⟨ck, cb, cs, cd, ca, cl, ch, cm⟩, hc⟩ : ∃ c, drC t = c := ⟨_, rfl⟩
    obtain ⟨d, hd⟩ : ∃ x, drS t = x := ⟨_, rfl⟩
    obtain ⟨is, his⟩ : ∃ x, dRd t = x := ⟨_, rfl⟩
    obtain ⟨de, hde⟩ : ∃ x, drE t = x := ⟨_, rfl⟩
    have HC := Lib.hid (And.intro hc (And.intro hd (And.intro his hde)))
    rw [hc, hd, his, hde]
    rw [show cmdA ⟨ck, cb, cs, cd, ca, cl, ch, cm⟩ = #[.int .i8 ck, .int .i64 cb, .int .i64 cs, .int .i64 cd, .int .i64 ca, .int .i64 cl, .int .i64 ch, .int .i8 cm] from rfl]
    clear hc hd his hde
    have p3 := Blk.new v3 #[.int .i8 ck, .int .i64 cb, .int .i64 cs, .int .i64 cd, .int .i64 ca, .int .i64 cl, .int .i64 ch, .int .i8 cm] 32
    have b3 := below_then b2 (hb3.alloc hb3.size (.cells #[.int .i8 ck, .int .i64 cb, .int .i64 cs, .int .i64 cd, .int .i64 ca, .int .i64 cl, .int .i64 ch, .int .i8 cm] 32))
    clear hb3 b2 y1
    go_wp2_with fail
    refine (refDRead_any t _ w1).mono ?_
    rintro e v4 ⟨rfl, hb4⟩
    rw [HC.out.1, HC.out.2.1, HC.out.2.2.1, HC.out.2.2.2]
    rw [show cmdA ⟨ck, cb, cs, cd, ca, cl, ch, cm⟩ = #[.int .i8 ck, .int .i64 cb, .int .i64 cs, .int .i64 cd, .int .i64 ca, .int .i64 cl, .int .i64 ch, .int .i8 cm] from rfl]
    have p4 := p3.below hb4 p3.lt
    have b4 := below_then b3 hb4
    have q5 := Blk.new v4 #[.int .i8 ck, .int .i64 cb, .int .i64 cs, .int .i64 cd, .int .i64 ca, .int .i64 cl, .int .i64 ch, .int .i8 cm] 32
    have p5 := p4.alloc (.cells #[.int .i8 ck, .int .i64 cb, .int .i64 cs, .int .i64 cd, .int .i64 ca, .int .i64 cl, .int .i64 ch, .int .i8 cm] 32)
    have b5 := b4.alloc b4.size (.cells #[.int .i8 ck, .int .i64 cb, .int .i64 cs, .int .i64 cd, .int .i64 ca, .int .i64 cl, .int .i64 ch, .int .i8 cm] 32)
    obtain ⟨i0, i1, i2, i3, i4, i5, i6, i7⟩ := cmd_cells p5
    obtain ⟨j0, j1, j2, j3, j4, j5, j6, j7⟩ := cmd_cells q5
    have l5 := p5.lt
    have m5 := q5.lt
    have y1 : (de == de) = true := by simp
    have y2 : (is == is) = true := by simp
    clear hb4 p3 b3 p4 b4
    go_wp2_with fail
    clear p5 q5 i0 i1 i2 i3 i4 i5 i6 i7 j0 j1 j2 j3 j4 j5 j6 j7 l5 m5 y1 y2 HC C1
    obtain ⟨m, hm⟩ : ∃ m, rowV l = m := ⟨_, rfl⟩
    obtain ⟨me, hme⟩ : ∃ m, rowE l = m := ⟨_, rfl⟩
    refine (dRow_any a2 n2 c2 l _ (HL.out _ b5) (by omega) HS.out (HT.out _ b5)).mono ?_
    rintro e v6 ⟨h6, hb6⟩
    obtain ⟨A6, n6, c6, rfl, hl6, hn6⟩ := row_post h6
    rw [hm] at hl6
    rw [hme]
    have b6 := below_then b5 hb6
    clear h6 hb6 b5
    go_wp2_with fail
    refine (refDRow_any a2 n2 c2 l _ (HL.out _ b6) (by omega) HS.out).mono ?_
    rintro e v7 ⟨h7, hb7⟩
    obtain ⟨A7, n7, c7, rfl, hl7, hn7⟩ := row_post h7
    rw [hm] at hl7
    rw [hme]
    have hl6' := hl6.below hb7
    have b7 := below_then b6 hb7
    clear h7 hb7 b6 hl6 hm hme
    go_wp2_with fail
    refine (refDSame_any A6 A7 n6 c6 n7 c7 m m _ hl6' hl7 hn6).mono ?_
    rintro e v8 ⟨rfl, hb8⟩
    have b8 := below_then b7 hb8
    rw [show sameC m m = true from decide_eq_true rfl]
    have y1 : (me == me) = true := by simp
    clear hb8 b7 hl6' hl7
    go_wp2_with fail
    refine (dLasts_any a3 n3 c3 ks _ (HK.out _ b8) (by unfold maxLen; omega)).mono ?_
    rintro e v9 ⟨x9, rfl, own9, hb9⟩
    obtain ⟨A9, c9, e9, _, _⟩ := ow_shape own9
    subst e9
    have hl9 := Lies.of_own own9
    have b9 := below_then b8 hb9
    clear own9 hb9 b8
    go_wp2_with fail
    refine (refDLasts_any a3 n3 c3 ks _ (HK.out _ b9) (by unfold maxLen; omega)).mono ?_
    rintro e u0 ⟨x0, rfl, own0, hb0⟩
    obtain ⟨A0, c0, e0, _, _⟩ := ow_shape own0
    subst e0
    have hm0 := Lies.of_own own0
    have hl0 := hl9.below hb0
    have bb0 := below_then b9 hb0
    clear own0 hb0 b9 hl9
    go_wp2_with fail
    refine (ints_any A9 A0 _ _ 16 16 c9 c0 (lastsV ks) (lastsV ks) _ hl0 hm0 (by decide) (by decide)).mono ?_
    rintro e u1 ⟨rfl, qd, hqd⟩
    subst hqd
    have bb1 : Below w.heap.size w (u0.drewN qd) := below_then bb0 (drewN_below _ _ _)
    rw [show decide (lastsV ks = lastsV ks) = true from decide_eq_true rfl]
    clear hl0 hm0 bb0
    go_wp2_with fail
    refine (HW.out _ bb1).mono ?_
    rintro e u2 ⟨rfl, hb2⟩
    have bb2 := below_then bb1 hb2
    clear hb2 bb1
    go_wp2_with fail
    go_ret
    exact ⟨rfl, bb2⟩
  · by_cases q0 : 600 < s.size
    · have z0 : decide ((600 : Int) < (s.size : Int)) = true := decide_eq_true (by omega)
      clear g HL HK HS
      go_wp2_with fail
      refine (HW.out _ b0).mono ?_
      rintro e u2 ⟨rfl, hb2⟩
      go_wp2_with fail
      go_ret
      exact ⟨rfl, hb2⟩
    · have z0 : decide ((600 : Int) < (s.size : Int)) = false := decide_eq_false (by omega)
      by_cases q1 : 600 < t.size
      · have z1 : decide ((600 : Int) < (t.size : Int)) = true := decide_eq_true (by omega)
        clear g HL HK HS
        go_wp2_with fail
        refine (HW.out _ b0).mono ?_
        rintro e u2 ⟨rfl, hb2⟩
        go_wp2_with fail
        go_ret
        exact ⟨rfl, hb2⟩
      · have z1 : decide ((600 : Int) < (t.size : Int)) = false := decide_eq_false (by omega)
        by_cases q2 : 100 < n2
        · have z2 : decide ((100 : Int) < (n2 : Int)) = true := decide_eq_true (by omega)
          clear g HL HK HS
          go_wp2_with fail
          refine (HW.out _ b0).mono ?_
          rintro e u2 ⟨rfl, hb2⟩
          go_wp2_with fail
          go_ret
          exact ⟨rfl, hb2⟩
        · have z2 : decide ((100 : Int) < (n2 : Int)) = false := decide_eq_false (by omega)
          by_cases q3 : 100 < n3
          · have z3 : decide ((100 : Int) < (n3 : Int)) = true := decide_eq_true (by omega)
            clear g HL HK HS
            go_wp2_with fail
            refine (HW.out _ b0).mono ?_
            rintro e u2 ⟨rfl, hb2⟩
            go_wp2_with fail
            go_ret
            exact ⟨rfl, hb2⟩
          · have z3 : decide ((100 : Int) < (n3 : Int)) = false := decide_eq_false (by omega)
            exact absurd ⟨by omega, by omega, by omega, by omega⟩ g

/-! ### THE ROW's STEP -/
set_option maxRecDepth 100000 in
theorem lifted (os : Os) (started : os.Started) (H : Type) (enc : TypeId × Value → H) :
    ReturnsInHanded {} Tryd.checked os 3 .any (fun w args => (Rows.decidedTellsSpec.pre enc Tryd.prog Tryd.f3 [] false w args ∧ laidMetH Tryd.prog laidL w) ∧ sizedMet enc Tryd.prog Tryd.f3 (OpenSpec.ofChange Rows.decidedTellsSpec) false w args) (Rows.decidedTellsSpec.post enc Tryd.prog Tryd.f3 false true false false) := by
  refine returnsInHanded_of_change_and (C := Tryd.checked) (X := fun w _ => laidMetH Tryd.prog laidL w) (fun _ _ _ hh h => h.of_heap hh) own started (by kernel_rfl) Tryd.func3
    (ChangeSpec.witness_shaped (enc := enc) (C := Tryd.checked) (os := os) (X := fun w _ => laidMetH Tryd.prog laidL w) false (World.doorLaid Tryd.prog 14 os) #[.string ByteArray.empty, .string ByteArray.empty, .slice none 0 0, .slice none 0 0] 8 rfl (World.shaped_of_RefB (by kernel_rfl) (by kernel_rfl)) (by kernel_rfl) (by kernel_rfl) (by kernel_rfl) (door_met os _)) ?_
  intro W base args ds gs before hval0 hW _ _ hL _
  have hval : ∀ (j : Nat) t v, Tryd.f3.params[j]? = some t → args[j]? = some v → Value.okWide Tryd.prog W .any base t v := hval0
  have hW' := hW
  obtain ⟨p, q, hA0, hV, rfl, hfz, hnd⟩ := hW
  have hA : DataW.TrodAll enc Tryd.prog W 0 (fun _ => true) true Tryd.f3.params.toList args.toList ds p := hA0
  rw [Tryd.params3] at hA hval
  obtain ⟨v0, vs0, d0, ds0, p0, q0, hargs, rfl, rfl, h0, r0⟩ := trodAll_cons hA
  obtain ⟨v1, vs1, d1, ds1, p1, q1, rfl, rfl, rfl, h1, r1⟩ := trodAll_cons r0
  obtain ⟨v2, vs2, d2, ds2, p2, q2, rfl, rfl, rfl, h2, r2⟩ := trodAll_cons r1
  obtain ⟨v3, vs3, d3, ds3, p3, q3, rfl, rfl, rfl, h3, r3⟩ := trodAll_cons r2
  obtain ⟨rfl, rfl, rfl⟩ := trodAll_nil r3
  obtain rfl : args = #[v0, v1, v2, v3] := by cases args; simp_all
  obtain ⟨rfl, rfl⟩ := trodVars_none hV
  obtain ⟨a0, rfl, rfl, rfl, w0⟩ := open_string Tryd.underlying9 (hval 0 9 v0 rfl rfl) h0
  obtain ⟨a1, rfl, rfl, rfl, w1⟩ := open_string Tryd.underlying9 (hval 1 9 v1 rfl rfl) h1
  have k2 := h2
  have lt2 : ∀ x ∈ p2, x.block < W.heap.size := by obtain ⟨m, hm⟩ := k2; exact DataW.trod_lt m _ _ _ hm
  obtain ⟨a2, len2, cap2, rfl⟩ := okWide_slice Tryd.underlying22 (hval 2 22 v2 rfl rfl)
  obtain ⟨z2, w2⟩ : ∃ zs, IsStrs W a2 len2 cap2 zs := by
    obtain ⟨fuel, hf⟩ := h2
    rcases open_strings Tryd.underlying22 Tryd.underlying9 (by kernel_rfl) hf with ⟨hcs, _⟩ | ⟨x, l, c, zs, hcs, _, hl, hm, hz, _, hcell, hwz⟩
    · simp [Value.cells] at hcs
      obtain ⟨rfl, rfl, rfl⟩ := hcs
      exact ⟨[], .inl ⟨rfl, rfl, rfl, rfl⟩⟩
    · simp [Value.cells] at hcs
      obtain ⟨rfl, rfl, rfl⟩ := hcs
      exact ⟨zs, .inr ⟨_, rfl, hl, hm, by simpa using hz, hcell, hwz⟩⟩
  have k3 := h3
  have lt3 : ∀ x ∈ p3, x.block < W.heap.size := by obtain ⟨m, hm⟩ := k3; exact DataW.trod_lt m _ _ _ hm
  obtain ⟨a3, len3, cap3, L3, rfl, w3⟩ := open_cmds (hval 3 23 v3 rfl rfl) h3
  clear hA0 hval0
  refine (walk a0 a1 a2 len2 cap2 z2 a3 len3 cap3 L3 W w0 w1 w2 w3 (met_of_laid hL)).mono fun e W' ⟨he, bel⟩ => ?_
  subst he
  exact ⟨_, rfl, _, _, _, [], _, [], hW', trodAll_mk1 (shut_bool Tryd.underlying4 _), (trodAll_cons_mk (shut_string Tryd.underlying9 w0) (trodAll_cons_mk (shut_string Tryd.underlying9 w1) (trodAll_cons_mk (Below.trod laidOut (by kernel_rfl) (of_decide_eq_true (by kernel_rfl)) k2 bel lt2) (trodAll_cons_mk (Below.trod laidOut (by kernel_rfl) (of_decide_eq_true (by kernel_rfl)) k3 bel lt3) trodAll_mk0)))), rfl, bel.frame _, fun h => by cases h⟩

theorem over : Rows.decidedTellsRow.holds Tryd.pinned (OpenSpec.ofChange Rows.decidedTellsSpec) :=
  OpenClaim.holds_of_wide 3 Tryd.f3 rfl rfl rfl rfl rfl rfl rfl ⟨rfl, rfl, rfl, rfl, rfl⟩ rfl rfl rfl rfl rfl (by kernel_rfl) Tryd.func3 (by kernel_rfl)
    (of_decide_eq_true (by kernel_rfl)) (by unfold Func.isWrapper; first | (rw [if_pos (by decide +kernel)]; kernel_rfl) | (rw [if_neg (by decide +kernel)]; exact ⟨rfl, rfl⟩))
    (fun os started H enc _ => lifted os started H enc)

/-- The statement. -/
theorem proved : Rows.DecidedTellsSaid := over
#print axioms proved

/-- THE TIED CARD. -/
theorem card : Rows.DecidedTellsCardSaid :=
  Claim7.holds_tied_plain_at .later [] [.data] true (true, "c35ad92adf93973a01dae9bd60b3c8860a819458c75ec0b51465b5a62d52920c") false
    proved (fun _ h => by cases h) (by kernel_rfl) (fun _ h => by cases h) decidedTells_row_tie rfl ⟨rfl, rfl⟩ (by kernel_rfl) rfl
    (fun f fn hf hfn => by
      obtain rfl : f = 3 := Option.some.inj ((show Tryd.prog.funcNamed "breakwater/breakwaterlaw12.DecidedTells" = some 3 by kernel_rfl).symm.trans hf) |>.symm
      obtain rfl : fn = Tryd.f3 := (Option.some.inj (Tryd.func3.symm.trans hfn)).symm
      exact ⟨by kernel_rfl, fun j t ht => by
        rw [Tryd.params3] at ht
        have hm : t ∈ [9, 9, 22, 23] := by simpa using Array.mem_of_getElem? ht
        have hall : ([9, 9, 22, 23].all fun u => !Tryd.prog.wantsStandIn u) = true := by kernel_rfl
        exact (show Tryd.prog.wantsStandIn t = false by simpa using List.all_eq_true.1 hall t hm)⟩)
    (by kernel_rfl)
#print axioms card
end Go.Proofs.YtjdacpnfgpdjhaaDoor.decidedTells
