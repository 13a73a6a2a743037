/-
  The statement CommandBack: a command's bytes are read as it; what is read has just these bytes; none is too long for a ballot's value, and no beginning of them is a command: for every command, text and place the call answers true and leaves its arguments as they were. No conditions.
-/
import Derived.Test.YtdjkomagpihgdaaCmdWakes
import Derived.Deep.DeepCutAuto
import Derived.Deep.CutBlock
import Derived.ProofKit
import Derived.ShutString
import Derived.ChangeOld
import Derived.Below
namespace Go.Proofs.Ytdjkomagpihgdaa.commandBack
open Go.ChangeShapes Go.WideShapes Go.ChangeAt Go.RowKit
open Go.ChangeMaps (open_string shut_string)
set_option linter.unusedVariables false
set_option linter.unusedSimpArgs false

theorem own : ownKnob Try.prog.godebug = none := by kernel_rfl
theorem laidOut : laidOutB Try.prog = true := by kernel_rfl

theorem tmod_bd (c : Int) (N : Nat) (h : 0 < N) : -(N : Int) < c.tmod N ∧ c.tmod N < N := by
  rcases Int.le_total 0 c with hc | hc
  · rw [Int.tmod_eq_emod_of_nonneg hc]
    have h1 := Int.emod_nonneg c (show (N : Int) ≠ 0 by omega)
    have h2 := Int.emod_lt_of_pos c (show (0 : Int) < N by omega)
    omega
  · have e : c.tmod N = -((-c).tmod N) := by rw [Int.neg_tmod, Int.neg_neg]
    rw [e, Int.tmod_eq_emod_of_nonneg (by omega)]
    have h1 := Int.emod_nonneg (-c) (show (N : Int) ≠ 0 by omega)
    have h2 := Int.emod_lt_of_pos (-c) (show (0 : Int) < N by omega)
    omega
theorem place (c : Int) (N : Nat) (h : 0 < N) : ∃ r : Nat, r < N ∧ (c.tmod N + N).tmod N = (r : Int) := by
  obtain ⟨h1, h2⟩ := tmod_bd c N h
  have h3 : (0 : Int) ≤ c.tmod N + N := by omega
  rw [Int.tmod_eq_emod_of_nonneg h3]
  have h4 := Int.emod_nonneg (c.tmod N + N) (show (N : Int) ≠ 0 by omega)
  have h5 := Int.emod_lt_of_pos (c.tmod N + N) (show (0 : Int) < N by omega)
  exact ⟨((c.tmod N + N) % N).toNat, by omega, by omega⟩
/-- A beginning of a command's bytes is read as none. -/
theorem cut_no {c : CmdM} (h : cMay c = true) {r : Nat} (hr : r < (cmS c).size) : crE ((cmS c).extract 0 r) = 100 ∧ crC ((cmS c).extract 0 r) = zeroC := by
  have h1 : cRd (bytesI ((cmS c).extract 0 r)) = false := by
    rw [bytesI_take, cm_bytes h]
    refine cRd_take h ?_
    rw [cEnc_length, ← cm_size h]
    exact hr
  exact ⟨(cr_no h1).2, (cr_no h1).1⟩

set_option maxRecDepth 100000 in
set_option maxHeartbeats 4000000 in
theorem walk (c1 : CmdM) (s : ByteArray) (n : Int) (w : World) (w0 : CmdBd c1) (w1 : s.size ≤ maxLen) (w2 : (Lit.int .i64 n).wf = true) :
    Calls Try.prog 4 #[.agg (cmdA c1), .string s, .int .i64 n] w fun e w' => e = .returned (.bool true) ∧ Below w.heap.size w w' := by
  obtain ⟨n0, n1⟩ := cwf_int w2
  clear w0 w2
  obtain ⟨kx, bx, sx, dx, ax, lox, hix, mx⟩ := c1
  rw [show cmdA ⟨kx, bx, sx, dx, ax, lox, hix, mx⟩ = #[.int .i8 kx, .int .i64 bx, .int .i64 sx, .int .i64 dx, .int .i64 ax, .int .i64 lox, .int .i64 hix, .int .i8 mx] from rfl]
  have p0 := Blk.new w #[.int .i8 kx, .int .i64 bx, .int .i64 sx, .int .i64 dx, .int .i64 ax, .int .i64 lox, .int .i64 hix, .int .i8 mx] 27
  have b0 : Below w.heap.size w (w.alloc (.cells #[.int .i8 kx, .int .i64 bx, .int .i64 sx, .int .i64 dx, .int .i64 ax, .int .i64 lox, .int .i64 hix, .int .i8 mx] 27)) := (Below.refl _ _).alloc (Nat.le_refl _) _
  by_cases g : 200 < s.size
  · go_enter Try.func4, Try.ntmps4
    go_wp2_with fail
    refine (wakes_any _).mono ?_
    rintro e w9 ⟨rfl, hb9⟩
    have b9 := below_then b0 hb9
    go_wp2_with fail
    go_ret
    exact ⟨rfl, b9⟩
  · have g2 : s.size ≤ 200 := by omega
    have G2 := Lib.hid g2
    clear g w1
    go_enter Try.func4, Try.ntmps4
    go_wp2_with fail
    refine (cBytes_any kx bx sx dx ax lox hix mx _).mono ?_
    rintro e w1 ⟨rfl, hb1⟩
    have p1 := p0.below hb1 p0.lt
    have b1 := below_then b0 hb1
    clear p0 b0 hb1
    obtain ⟨c0, c1, c2, c3, c4, c5, c6, c7⟩ := cmd_cells p1
    have l1 := p1.lt
    cases hm : cMay ⟨kx, bx, sx, dx, ax, lox, hix, mx⟩ with
    | false =>
      have HC := Lib.hid (cm_no hm)
      have HM := Lib.hid hm
      rw [HC.out.1, HC.out.2]
      clear hm HC
      go_wp2_with fail
      refine (cMay_any kx bx sx dx ax lox hix mx _).mono ?_
      rintro e w2 ⟨rfl, hb2⟩
      rw [HM.out]
      have b2 := below_then b1 hb2
      clear p1 b1 hb2 c0 c1 c2 c3 c4 c5 c6 c7 l1
      go_wp2_with fail
      refine (wakes_any _).mono ?_
      rintro e w9 ⟨rfl, hb9⟩
      have b9 := below_then b2 hb9
      go_wp2_with fail
      go_ret
      exact ⟨rfl, b9⟩
    | true =>
      have HE := Lib.hid (cm_yes hm).2
      have HR := Lib.hid (cr_cm hm)
      have HN := Lib.hid (cm_size hm)
      have HCU := Lib.hid (fun r hr => cut_no hm (r := r) hr)
      have hl := cLen_bd kx
      obtain ⟨X, hX⟩ : ∃ X, cmS ⟨kx, bx, sx, dx, ax, lox, hix, mx⟩ = X := ⟨_, rfl⟩
      rw [HE.out]
      rw [hX] at HR HN HCU ⊢
      clear hX HE hm
      have hz0 : 11 ≤ X.size := by have := HN.out; simp only at this; omega
      have hz1 : X.size ≤ 23 := by have := HN.out; simp only at this; omega
      clear HN hl
      go_wp2_with fail
      refine (cRead_any X _ (by omega)).mono ?_
      rintro e w2 ⟨rfl, hb2⟩
      rw [HR.out.1, HR.out.2]
      rw [show cmdA ⟨kx, bx, sx, dx, ax, lox, hix, mx⟩ = #[.int .i8 kx, .int .i64 bx, .int .i64 sx, .int .i64 dx, .int .i64 ax, .int .i64 lox, .int .i64 hix, .int .i8 mx] from rfl]
      have p2 := (p1.below hb2 p1.lt).alloc (.cells #[.int .i8 kx, .int .i64 bx, .int .i64 sx, .int .i64 dx, .int .i64 ax, .int .i64 lox, .int .i64 hix, .int .i8 mx] 27)
      have b2 := below_then b1 hb2
      have p2' := p1.below hb2 p1.lt
      have b3 := b2.alloc b2.size (.cells #[.int .i8 kx, .int .i64 bx, .int .i64 sx, .int .i64 dx, .int .i64 ax, .int .i64 lox, .int .i64 hix, .int .i8 mx] 27)
      clear p1 b1 hb2 c0 c1 c2 c3 c4 c5 c6 c7 l1 HR
      obtain ⟨c0, c1, c2, c3, c4, c5, c6, c7⟩ := cmd_cells p2'
      have l2 := p2'.lt
      obtain ⟨N, hN⟩ : ∃ N, X.size = N := ⟨_, rfl⟩
      have hN1 : 11 ≤ N := by omega
      have hN2 : N ≤ 23 := by omega
      obtain ⟨t1, t2⟩ := tmod_bd n N (by omega)
      obtain ⟨r, hr, hre⟩ := place n N (by omega)
      have s1 : wrap64 (n.tmod (N : Int) + (N : Int)) = n.tmod (N : Int) + (N : Int) := IntWalk.wrap64_in _ ⟨by omega, by omega⟩
      have s2 : IntKind.i64.wrap (n.tmod (N : Int) + (N : Int)) = n.tmod (N : Int) + (N : Int) := IntWalk.i64_in _ ⟨by omega, by omega⟩
      have HCU2 := Lib.hid (HCU.out r (by omega))
      have hnz : ¬ (N : Int) = 0 := by omega
      have hXs := hN
      have h64 : decide ((64 : Int) < (N : Int)) = false := decide_eq_false (by omega)
      have h64' : (N : Int) ≤ 64 := by omega
      have hN0 : ((N : Int) == 0) = false := beq_no hnz
      go_wp2_with fail
      obtain ⟨SX, hSX⟩ : ∃ S, X.extract 0 r = S := ⟨_, rfl⟩
      have hsx : SX.size ≤ 23 := by rw [← hSX, ByteArray.size_extract]; omega
      rw [hSX] at HCU2 ⊢
      clear hSX
      refine (cRead_any SX _ (Nat.le_trans hsx (by decide))).mono ?_
      rintro e w4 ⟨rfl, hb4⟩
      rw [HCU2.out.1, HCU2.out.2]
      have b4 := below_then b3 hb4
      clear p2 p2' b2 b3 hb4 c0 c1 c2 c3 c4 c5 c6 c7 l2 HCU HCU2 hsx
      have g2' := G2.out
      go_wp2_with fail
      refine (cRead_any s _ (Nat.le_trans g2' (by decide))).mono ?_
      rintro e w5 ⟨rfl, hb5⟩
      have b5 := below_then b4 hb5
      clear b4 hb5
      cases hr : cRd (bytesI s) with
      | false =>
        have HY := Lib.hid (cr_no hr)
        rw [HY.out.1, HY.out.2, show cmdA zeroC = #[.int .i8 0, .int .i64 0, .int .i64 0, .int .i64 0, .int .i64 0, .int .i64 0, .int .i64 0, .int .i8 0] from rfl]
        have p6 := Blk.new w5 #[.int .i8 0, .int .i64 0, .int .i64 0, .int .i64 0, .int .i64 0, .int .i64 0, .int .i64 0, .int .i8 0] 27
        have b6 := b5.alloc b5.size (.cells #[.int .i8 0, .int .i64 0, .int .i64 0, .int .i64 0, .int .i64 0, .int .i64 0, .int .i64 0, .int .i8 0] 27)
        clear hr b5 HY
        go_wp2_with fail
        refine (cBytes_any 0 0 0 0 0 0 0 0 _).mono ?_
        rintro e w7 ⟨rfl, hb7⟩
        obtain ⟨Y, hY⟩ : ∃ X, cmS ⟨0, 0, 0, 0, 0, 0, 0, 0⟩ = X := ⟨_, rfl⟩
        obtain ⟨EY, hEY⟩ : ∃ X, cmE ⟨0, 0, 0, 0, 0, 0, 0, 0⟩ = X := ⟨_, rfl⟩
        rw [hY, hEY]
        have p7 := p6.below hb7 p6.lt
        have b7 := below_then b6 hb7
        clear hY hEY p6 b6 hb7
        obtain ⟨c0, c1, c2, c3, c4, c5, c6, c7⟩ := cmd_cells p7
        have l7 := p7.lt
        go_wp2_with fail
        refine (wakes_any _).mono ?_
        rintro e w9 ⟨rfl, hb9⟩
        have b9 := below_then b7 hb9
        go_wp2_with fail
        go_ret
        exact ⟨rfl, b9⟩
      | true =>
        have HY := Lib.hid (cr_yes hr).2
        have HZ := Lib.hid (cm_cr hr)
        rw [HY.out]
        obtain ⟨⟨ky, yb, ys, yd, ya, ylo, yhi, ym⟩, hc⟩ : ∃ c, crC s = c := ⟨_, rfl⟩
        rw [hc] at HZ ⊢
        rw [show cmdA ⟨ky, yb, ys, yd, ya, ylo, yhi, ym⟩ = #[.int .i8 ky, .int .i64 yb, .int .i64 ys, .int .i64 yd, .int .i64 ya, .int .i64 ylo, .int .i64 yhi, .int .i8 ym] from rfl]
        have b6 := b5.alloc b5.size (.cells #[.int .i8 ky, .int .i64 yb, .int .i64 ys, .int .i64 yd, .int .i64 ya, .int .i64 ylo, .int .i64 yhi, .int .i8 ym] 27)
        have hss := str_same s
        clear hr hc b5 HY
        go_wp2_with fail
        refine (cBytes_any ky yb ys yd ya ylo yhi ym _).mono ?_
        rintro e w7 ⟨rfl, hb7⟩
        rw [HZ.out.2.1, HZ.out.2.2]
        have b7 := below_then b6 hb7
        clear b6 hb7 HZ
        go_wp2_with fail
        refine (wakes_any _).mono ?_
        rintro e w9 ⟨rfl, hb9⟩
        have b9 := below_then b7 hb9
        go_wp2_with fail
        go_ret
        exact ⟨rfl, b9⟩

/-! ### THE ROW's STEP -/
set_option maxRecDepth 100000 in
theorem lifted (os : Os) (started : os.Started) (H : Type) (enc : TypeId × Value → H) :
    ReturnsInHanded {} Try.checked os 4 .any (Rows.commandBackSpec.pre6 enc Try.prog Try.f4 Rows.commandBackRow.domain false) (Rows.commandBackSpec.post enc Try.prog Try.f4 false true false false) := by
  refine returnsInHanded_of_change (C := Try.checked) own started (by kernel_rfl) Try.func4
    (ChangeSpec.witness6 (enc := enc) (C := Try.checked) false ⟨#[], #[.agg #[.int .i8 0, .int .i64 0, .int .i64 0, .int .i64 0, .int .i64 0, .int .i64 0, .int .i64 0, .int .i8 0], .string ByteArray.empty, .int .i64 0], []⟩ 8 (by kernel_rfl) (by kernel_rfl) (by kernel_rfl) (by kernel_rfl)) ?_
  intro W base args ds gs before hval0 hW hcnd _
  have hval : ∀ (j : Nat) t v, Try.f4.params[j]? = some t → args[j]? = some v → Value.okWide Try.prog W .any base t v := hval0
  have hW' := hW
  obtain ⟨p, q, hA0, hV, rfl, hfz, hnd⟩ := hW
  have hA : DataW.TrodAll enc Try.prog W 0 (fun _ => true) true Try.f4.params.toList args.toList ds p := hA0
  rw [Try.params4] at hA hval
  obtain ⟨v0, vs0, d0, ds0, p0, q0, hargs, rfl, rfl, h0, r0⟩ := trodAll_cons hA
  obtain ⟨v1, vs1, d1, ds1, p1, q1, rfl, rfl, rfl, h1, r1⟩ := trodAll_cons r0
  obtain ⟨v2, vs2, d2, ds2, p2, q2, rfl, rfl, rfl, h2, r2⟩ := trodAll_cons r1
  obtain ⟨rfl, rfl, rfl⟩ := trodAll_nil r2
  obtain rfl : args = #[v0, v1, v2] := by cases args; simp_all
  obtain ⟨rfl, rfl⟩ := trodVars_none hV
  have k0 := h0
  have lt0 : ∀ x ∈ p0, x.block < W.heap.size := by obtain ⟨m, hm⟩ := k0; exact DataW.trod_lt m _ _ _ hm
  obtain ⟨g0, rfl, w0⟩ := open_cmd (hval 0 27 v0 rfl rfl) h0
  obtain ⟨a1, rfl, rfl, rfl, w1⟩ := open_string Try.underlying9 (hval 1 9 v1 rfl rfl) h1
  obtain ⟨a2, rfl, rfl, rfl, w2⟩ := open_int Try.underlying3 (hval 2 3 v2 rfl rfl) h2
  clear hA0 hval0
  refine (walk g0 a1 a2 W w0 w1 w2).mono fun e W' ⟨he, bel⟩ => ?_
  subst he
  exact ⟨_, rfl, _, _, _, [], _, [], hW', trodAll_mk1 (shut_bool Try.underlying4 _), (trodAll_cons_mk (Below.trod laidOut (by kernel_rfl) (of_decide_eq_true (by kernel_rfl)) k0 bel lt0) (trodAll_cons_mk (shut_string Try.underlying9 w1) (trodAll_cons_mk (shut_int Try.underlying3 w2) trodAll_mk0))), rfl, bel.frame _, fun h => by cases h⟩

theorem over : Rows.commandBackRow.holds Try.pinned (OpenSpec.ofChange Rows.commandBackSpec) :=
  OpenClaim.holds_of_wide 4 Try.f4 rfl rfl rfl rfl rfl rfl rfl ⟨rfl, rfl, rfl, rfl, rfl⟩ rfl rfl rfl rfl rfl (by kernel_rfl) Try.func4 (by kernel_rfl)
    (of_decide_eq_true (by kernel_rfl)) (by unfold Func.isWrapper; first | (rw [if_pos (by decide +kernel)]; kernel_rfl) | (rw [if_neg (by decide +kernel)]; exact ⟨rfl, rfl⟩))
    (fun os started H enc _ => lifted os started H enc)

/-- The statement. -/
theorem proved : Rows.CommandBackSaid := over
#print axioms proved

end Go.Proofs.Ytdjkomagpihgdaa.commandBack
