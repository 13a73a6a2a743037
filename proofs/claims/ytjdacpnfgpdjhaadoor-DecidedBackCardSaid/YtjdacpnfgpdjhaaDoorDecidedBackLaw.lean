/-
  The statement DecidedBack: a command's sector is read as it, and is none with one bit turned about: for every command and bit the call answers true and leaves its arguments as they were. No conditions; the listed table is tied to the program's text.
-/
import Derived.Test.YtjdacpnfgpdjhaaDoorDecWakes
import Derived.Test.YtjdacpnfgpdjhaaDoorJoinSealTurn
import Derived.Test.YtjdacpnfgpdjhaaDoorLaid
import Derived.ProofKit
import Derived.ShutString
import Derived.ChangeOld
import Derived.Below
namespace Go.Proofs.YtjdacpnfgpdjhaaDoor.decidedBack
open Go.ChangeShapes Go.WideShapes Go.ChangeAt Go.RowKit
open Go.ChangeMaps (open_string shut_string)
set_option linter.unusedVariables false
set_option linter.unusedSimpArgs false

theorem own : ownKnob Tryd.prog.godebug = none := by kernel_rfl
theorem laidOut : laidOutB Tryd.prog = true := by kernel_rfl
/-- What the calls come to, of a command that may be. -/
theorem may_facts {c : CmdM} (h : cMay c = true) : (cmS c).size ≤ 100 ∧ cmE c = 0 ∧ dV (cmS c) = dSec (cmS c) ∧ dE (cmS c) = 0 ∧ 18 ≤ (dSec (cmS c)).size ∧ (dSec (cmS c)).size ≤ 30 ∧
    drC (dSec (cmS c)) = c ∧ drS (dSec (cmS c)) = cmS c ∧ dRd (dSec (cmS c)) = true ∧ drE (dSec (cmS c)) = 0 := by
  have e : cmS c = cText c := (cm_yes h).1
  rw [e]
  obtain ⟨h1, h2⟩ := cText_back h
  obtain ⟨h3, h4⟩ := dec_sec h1
  obtain ⟨h5, h6⟩ := dSec_size h1
  obtain ⟨h7, h8, h9⟩ := dr_yes h3
  refine ⟨?_, (cm_yes h).2, (dV_yes h1).1, (dV_yes h1).2, h5, h6, ?_, ?_, h3, h9⟩
  · have := (cText_size h).2; omega
  · rw [h7, h4, h2]
  · rw [h8, h4]
theorem no_facts {c : CmdM} (h : cMay c = false) : cmS c = ⟨#[]⟩ ∧ cmE c = 2 ∧ dV ⟨#[]⟩ = ⟨#[]⟩ ∧ dE ⟨#[]⟩ = 2 := by
  have h0 : cIs ⟨#[]⟩ = false := by
    cases h1 : cIs ⟨#[]⟩ with
    | false => rfl
    | true => exact absurd (cIs_size h1).1 (by decide)
  exact ⟨(cm_no h).1, (cm_no h).2, (dV_no h0).1, (dV_no h0).2⟩
/-- With a bit turned about it is none. -/
theorem turn_bad {c : CmdM} (h : cMay c = true) {n : Nat} (hn : n < 8 * (dSec (cmS c)).size) :
    drC (turnS (dSec (cmS c)) n) = zeroC ∧ drS (turnS (dSec (cmS c)) n) = ⟨#[]⟩ ∧ dRd (turnS (dSec (cmS c)) n) = false ∧ drE (turnS (dSec (cmS c)) n) = 50 := by
  obtain ⟨h0, _, _, _, h5, h6, _⟩ := may_facts h
  have hi : isS (turnS (dSec (cmS c)) n) = false := turn_isS (k := 5) (by omega) (by omega) (by omega) hn
  have hd : dRd (turnS (dSec (cmS c)) n) = false := by
    unfold dRd ofS
    rw [hi]
    rfl
  obtain ⟨h1, h2, h3⟩ := dr_bad hd (fun e => by
    have := congrArg ByteArray.size e
    rw [turnS_size] at this
    have h0 : (⟨#[]⟩ : ByteArray).size = 0 := rfl
    omega)
  exact ⟨h1, h2, hd, h3⟩

set_option maxRecDepth 100000 in
set_option maxHeartbeats 2000000 in
theorem walk (c1 : CmdM) (a2 : Int) (w : World) (w0 : CmdBd c1) (w2 : (Lit.int .i64 a2).wf = true) (ht : TabOk w) :
    Calls Tryd.prog 5 #[.agg (cmdA c1), .int .i64 a2] w fun e w' => e = .returned (.bool true) ∧ Below w.heap.size w w' := by
  have bd2 := bd_i64 w2
  clear w0 w2
  obtain ⟨kx, bx, sx, dx, ax, lox, hix, mx⟩ := c1
  rw [show cmdA ⟨kx, bx, sx, dx, ax, lox, hix, mx⟩ = #[.int .i8 kx, .int .i64 bx, .int .i64 sx, .int .i64 dx, .int .i64 ax, .int .i64 lox, .int .i64 hix, .int .i8 mx] from rfl]
  have pB := Blk.new w #[.int .i8 kx, .int .i64 bx, .int .i64 sx, .int .i64 dx, .int .i64 ax, .int .i64 lox, .int .i64 hix, .int .i8 mx] 32
  have bB : Below w.heap.size w (w.alloc (.cells #[.int .i8 kx, .int .i64 bx, .int .i64 sx, .int .i64 dx, .int .i64 ax, .int .i64 lox, .int .i64 hix, .int .i8 mx] 32)) := (Below.refl _ _).alloc (Nat.le_refl _) _
  have HK : Hid (∀ W, Below w.heap.size w W → TabOk W) := fun W h => ht.below h
  clear ht
  go_enter Tryd.func5, Tryd.ntmps5
  obtain ⟨i0, i1, i2, i3, i4, i5, i6, i7⟩ := cmd_cells pB
  have lB := pB.lt
  go_wp2_with fail
  refine (cBytes_any kx bx sx dx ax lox hix mx _).mono ?_
  rintro e v1 ⟨rfl, hb1⟩
  have b1 := below_then bB hb1
  have p1 := pB.below hb1 pB.lt
  clear hb1 pB bB i0 i1 i2 i3 i4 i5 i6 i7 lB
  cases hm : cMay ⟨kx, bx, sx, dx, ax, lox, hix, mx⟩ with
  | false =>
    obtain ⟨f1, f2, f3, f4⟩ := no_facts hm
    rw [f1, f2]
    have HV := Lib.hid (And.intro f3 f4)
    clear f1 f2 f3 f4 p1 hm
    go_wp2_with fail
    refine (dBytes_any ⟨#[]⟩ _ (by decide) (HK.out _ b1)).mono ?_
    rintro e v2 ⟨rfl, hb2⟩
    rw [HV.out.1, HV.out.2]
    have b2 := below_then b1 hb2
    clear hb2 b1
    go_wp2_with fail
    refine (dwakes_any _ (HK.out _ b2)).mono ?_
    rintro e v3 ⟨rfl, hb3⟩
    have b3 := below_then b2 hb3
    clear hb3 b2
    go_wp2_with fail
    go_ret
    exact ⟨rfl, b3⟩
  | true =>
    have HF := Lib.hid (may_facts hm)
    have HT := Lib.hid (fun n hn => turn_bad (n := n) hm hn)
    clear hm
    rw [HF.out.2.1]
    generalize cmS ⟨kx, bx, sx, dx, ax, lox, hix, mx⟩ = B at *
    go_wp2_with fail
    refine (dBytes_any B _ (Nat.le_trans HF.out.1 (by decide)) (HK.out _ b1)).mono ?_
    rintro e v2 ⟨rfl, hb2⟩
    rw [HF.out.2.2.1, HF.out.2.2.2.1]
    have b2 := below_then b1 hb2
    have p2 := p1.below hb2 p1.lt
    have HG := Lib.hid HF.out.2.2.2.2
    clear hb2 b1 p1 HF
    generalize dSec B = S at *
    have hz := HG.out.1
    have hz2 := HG.out.2.1
    have hSM : S.size ≤ maxLen := by unfold maxLen; omega
    obtain ⟨f, hf, ef⟩ := turn_rest a2 (8 * S.size) (by omega) (by omega)
    rw [Int.natCast_mul] at ef
    have ef : (wrap64 (a2.tmod (8 * (S.size : Int)) + 8 * (S.size : Int))).tmod (8 * (S.size : Int)) = (f : Int) := ef
    have HT2 := Lib.hid (HT.out f hf)
    have hTM : (turnS S f).size ≤ maxLen := by rw [turnS_size]; exact hSM
    clear HT
    go_wp2_with fail
    refine (dRead_any S _ hSM (HK.out _ b2)).mono ?_
    rintro e v3 ⟨rfl, hb3⟩
    rw [HG.out.2.2.1, HG.out.2.2.2.1, HG.out.2.2.2.2.1, HG.out.2.2.2.2.2]
    rw [show cmdA ⟨kx, bx, sx, dx, ax, lox, hix, mx⟩ = #[.int .i8 kx, .int .i64 bx, .int .i64 sx, .int .i64 dx, .int .i64 ax, .int .i64 lox, .int .i64 hix, .int .i8 mx] from rfl]
    have p3 := (p2.below hb3 p2.lt).alloc (.cells #[.int .i8 kx, .int .i64 bx, .int .i64 sx, .int .i64 dx, .int .i64 ax, .int .i64 lox, .int .i64 hix, .int .i8 mx] 32)
    have q3 := Blk.new v3 #[.int .i8 kx, .int .i64 bx, .int .i64 sx, .int .i64 dx, .int .i64 ax, .int .i64 lox, .int .i64 hix, .int .i8 mx] 32
    have b3 := below_then b2 (hb3.alloc hb3.size (.cells #[.int .i8 kx, .int .i64 bx, .int .i64 sx, .int .i64 dx, .int .i64 ax, .int .i64 lox, .int .i64 hix, .int .i8 mx] 32))
    obtain ⟨i0, i1, i2, i3, i4, i5, i6, i7⟩ := cmd_cells p3
    obtain ⟨j0, j1, j2, j3, j4, j5, j6, j7⟩ := cmd_cells q3
    have l3 := p3.lt
    have m3 := q3.lt
    have hs0 := str_same B
    have z0 : decide ((S.size : Int) = 0) = false := decide_eq_false (by omega)
    clear hb3 b2 p2 HG p3 q3
    go_upto_region 8 with fail
    obtain ⟨W3, hW3⟩ : ∃ W, W = v3.alloc (.cells #[.int .i8 kx, .int .i64 bx, .int .i64 sx, .int .i64 dx, .int .i64 ax, .int .i64 lox, .int .i64 hix, .int .i8 mx] 32) := ⟨_, rfl⟩
    rw [← hW3] at b3 ⊢
    clear hW3 i0 i1 i2 i3 i4 i5 i6 i7 j0 j1 j2 j3 j4 j5 j6 j7 l3 m3 hs0 z0
    obtain ⟨k0, wb, hcv0, hfa0, hbb⟩ := str_fresh (P := Tryd.prog) W3 9 50 5 S Tryd.underlying9 Tryd.underlying50 Tryd.underlying5
    have b4 := below_then b3 hbb
    have hg : w.heap.size ≤ W3.heap.size := b3.size
    have hl8 : f / 8 < (nats (bytesI S)).length := by rw [nats_length, bytesI_length]; omega
    have HLN : Hid ((nats (bytesI S)).length = S.size) := by show _ = _; rw [nats_length, bytesI_length]
    have hl8' : f / 8 < S.size := by omega
    have hconv := turn_conv (c := k0) (m := S.size) hfa0 hf rfl
    have hcell := hfa0.cell hl8
    have hfr := hfa0.free hl8
    rw [show (nats (bytesI S))[f / 8] = (nats (bytesI S)).getD (f / 8) 0 from by rw [List.getD, List.getElem?_eq_getElem hl8]; rfl] at hcell
    have hq : (nats (bytesI S)).getD (f / 8) 0 < 256 := by
      rw [List.getD, List.getElem?_eq_getElem hl8]
      exact bytes_nats (bytesI_bytes S) _ (List.getElem_mem hl8)
    have b5 := below_set b4 hg (f / 8) (.int .u8 (bits .xor .u8 (((nats (bytesI S)).getD (f / 8) 0 : Nat) : Int) (2 ^ (f % 8) % 256)))
    generalize (nats (bytesI S)).getD (f / 8) 0 = Q at *
    clear b3 hbb hfa0 b4 hl8
    go_wp2_with fail
    refine (dRead_any (turnS S f) _ hTM (HK.out _ b5)).mono ?_
    rintro e v6 ⟨rfl, hb6⟩
    rw [HT2.out.1, HT2.out.2.1, HT2.out.2.2.1, HT2.out.2.2.2]
    have hb := below_then b5 hb6
    clear b5 hb6 hconv hcell hfr hcv0 HT2 hTM
    go_wp2_with fail
    refine (dwakes_any _ (HK.out _ hb)).mono ?_
    rintro e v7 ⟨rfl, hb7⟩
    have b7 := below_then hb hb7
    clear hb7 hb
    go_wp2_with fail
    go_ret
    exact ⟨rfl, b7⟩

/-! ### THE ROW's STEP -/
set_option maxRecDepth 100000 in
theorem lifted (os : Os) (started : os.Started) (H : Type) (enc : TypeId × Value → H) :
    ReturnsInHanded {} Tryd.checked os 5 .any (fun w args => (Rows.decidedBackSpec.pre enc Tryd.prog Tryd.f5 [] false w args ∧ laidMetH Tryd.prog laidL w) ∧ sizedMet enc Tryd.prog Tryd.f5 (OpenSpec.ofChange Rows.decidedBackSpec) false w args) (Rows.decidedBackSpec.post enc Tryd.prog Tryd.f5 false true false false) := by
  refine returnsInHanded_of_change_and (C := Tryd.checked) (X := fun w _ => laidMetH Tryd.prog laidL w) (fun _ _ _ hh h => h.of_heap hh) own started (by kernel_rfl) Tryd.func5
    (ChangeSpec.witness_shaped (enc := enc) (C := Tryd.checked) (os := os) (X := fun w _ => laidMetH Tryd.prog laidL w) false (World.doorLaid Tryd.prog 14 os) #[.agg #[.int .i8 0, .int .i64 0, .int .i64 0, .int .i64 0, .int .i64 0, .int .i64 0, .int .i64 0, .int .i8 0], .int .i64 0] 8 rfl (World.shaped_of_RefB (by kernel_rfl) (by kernel_rfl)) (by kernel_rfl) (by kernel_rfl) (by kernel_rfl) (door_met os _)) ?_
  intro W base args ds gs before hval0 hW _ _ hL _
  have hval : ∀ (j : Nat) t v, Tryd.f5.params[j]? = some t → args[j]? = some v → Value.okWide Tryd.prog W .any base t v := hval0
  have hW' := hW
  obtain ⟨p, q, hA0, hV, rfl, hfz, hnd⟩ := hW
  have hA : DataW.TrodAll enc Tryd.prog W 0 (fun _ => true) true Tryd.f5.params.toList args.toList ds p := hA0
  rw [Tryd.params5] at hA hval
  obtain ⟨v0, vs0, d0, ds0, p0, q0, hargs, rfl, rfl, h0, r0⟩ := trodAll_cons hA
  obtain ⟨v1, vs1, d1, ds1, p1, q1, rfl, rfl, rfl, h1, r1⟩ := trodAll_cons r0
  obtain ⟨rfl, rfl, rfl⟩ := trodAll_nil r1
  obtain rfl : args = #[v0, v1] := by cases args; simp_all
  obtain ⟨rfl, rfl⟩ := trodVars_none hV
  have k0 := h0
  have lt0 : ∀ x ∈ p0, x.block < W.heap.size := by obtain ⟨m, hm⟩ := k0; exact DataW.trod_lt m _ _ _ hm
  obtain ⟨g0, rfl, w0⟩ := open_cmd (hval 0 32 v0 rfl rfl) h0
  obtain ⟨a1, rfl, rfl, rfl, w1⟩ := open_int Tryd.underlying3 (hval 1 3 v1 rfl rfl) h1
  clear hA0 hval0
  refine (walk g0 a1 W w0 w1 (met_of_laid hL)).mono fun e W' ⟨he, bel⟩ => ?_
  subst he
  exact ⟨_, rfl, _, _, _, [], _, [], hW', trodAll_mk1 (shut_bool Tryd.underlying4 _), (trodAll_cons_mk (Below.trod laidOut (by kernel_rfl) (of_decide_eq_true (by kernel_rfl)) k0 bel lt0) (trodAll_cons_mk (shut_int Tryd.underlying3 w1) trodAll_mk0)), rfl, bel.frame _, fun h => by cases h⟩

theorem over : Rows.decidedBackRow.holds Tryd.pinned (OpenSpec.ofChange Rows.decidedBackSpec) :=
  OpenClaim.holds_of_wide 5 Tryd.f5 rfl rfl rfl rfl rfl rfl rfl ⟨rfl, rfl, rfl, rfl, rfl⟩ rfl rfl rfl rfl rfl (by kernel_rfl) Tryd.func5 (by kernel_rfl)
    (of_decide_eq_true (by kernel_rfl)) (by unfold Func.isWrapper; first | (rw [if_pos (by decide +kernel)]; kernel_rfl) | (rw [if_neg (by decide +kernel)]; exact ⟨rfl, rfl⟩))
    (fun os started H enc _ => lifted os started H enc)

/-- The statement. -/
theorem proved : Rows.DecidedBackSaid := over
#print axioms proved

/-- THE TIED CARD. -/
theorem card : Rows.DecidedBackCardSaid :=
  Claim7.holds_tied_plain_at .later [] [.data] true (true, "c35ad92adf93973a01dae9bd60b3c8860a819458c75ec0b51465b5a62d52920c") false
    proved (fun _ h => by cases h) (by kernel_rfl) (fun _ h => by cases h) decidedBack_row_tie rfl ⟨rfl, rfl⟩ (by kernel_rfl) rfl
    (fun f fn hf hfn => by
      obtain rfl : f = 5 := Option.some.inj ((show Tryd.prog.funcNamed "breakwater/breakwaterlaw12.DecidedBack" = some 5 by kernel_rfl).symm.trans hf) |>.symm
      obtain rfl : fn = Tryd.f5 := (Option.some.inj (Tryd.func5.symm.trans hfn)).symm
      exact ⟨by kernel_rfl, fun j t ht => by
        rw [Tryd.params5] at ht
        have hm : t ∈ [32, 3] := by simpa using Array.mem_of_getElem? ht
        have hall : ([32, 3].all fun u => !Tryd.prog.wantsStandIn u) = true := by kernel_rfl
        exact (show Tryd.prog.wantsStandIn t = false by simpa using List.all_eq_true.1 hall t hm)⟩)
    (by kernel_rfl)
#print axioms card
end Go.Proofs.YtjdacpnfgpdjhaaDoor.decidedBack
