/-
  The statement CommandOther: two commands have the same bytes just if they are the same; a field of another kind is refused: for every two commands and a number the call answers true and leaves its arguments as they were. No conditions.
-/
import Derived.Test.YtdjkomagpihgdaaCmdWakes
import Derived.Deep.DeepCutAuto
import Derived.Deep.CutBlock
import Derived.ProofKit
import Derived.ShutString
import Derived.ChangeOld
import Derived.Below
namespace Go.Proofs.Ytdjkomagpihgdaa.commandOther
open Go.ChangeShapes Go.WideShapes Go.ChangeAt Go.RowKit
open Go.ChangeMaps (open_string shut_string)
set_option linter.unusedVariables false
set_option linter.unusedSimpArgs false

theorem own : ownKnob Try.prog.godebug = none := by kernel_rfl
theorem laidOut : laidOutB Try.prog = true := by kernel_rfl

theorem ne_of {kx bx sx dx ax lox hix mx kz bz sz dz az loz hiz mz : Int} (h : ¬ (⟨kx, bx, sx, dx, ax, lox, hix, mx⟩ : CmdM) = ⟨kz, bz, sz, dz, az, loz, hiz, mz⟩) : ¬ (kx = kz ∧ bx = bz ∧ sx = sz ∧ dx = dz ∧ ax = az ∧ lox = loz ∧ hix = hiz ∧ mx = mz) := by
  rintro ⟨rfl, rfl, rfl, rfl, rfl, rfl, rfl, rfl⟩
  exact h rfl

set_option maxRecDepth 100000 in
set_option maxHeartbeats 4000000 in
theorem walk (c1 c2 : CmdM) (n : Int) (w : World) (w0 : CmdBd c1) (w1 : CmdBd c2) (w2 : (Lit.int .i64 n).wf = true) :
    Calls Try.prog 5 #[.agg (cmdA c1), .agg (cmdA c2), .int .i64 n] w fun e w' => e = .returned (.bool true) ∧ Below w.heap.size w w' := by
  clear w0 w1 w2
  obtain ⟨kx, bx, sx, dx, ax, lox, hix, mx⟩ := c1
  obtain ⟨kz, bz, sz, dz, az, loz, hiz, mz⟩ := c2
  rw [show cmdA ⟨kx, bx, sx, dx, ax, lox, hix, mx⟩ = #[.int .i8 kx, .int .i64 bx, .int .i64 sx, .int .i64 dx, .int .i64 ax, .int .i64 lox, .int .i64 hix, .int .i8 mx] from rfl, show cmdA ⟨kz, bz, sz, dz, az, loz, hiz, mz⟩ = #[.int .i8 kz, .int .i64 bz, .int .i64 sz, .int .i64 dz, .int .i64 az, .int .i64 loz, .int .i64 hiz, .int .i8 mz] from rfl]
  obtain ⟨W0, hW⟩ : ∃ W0, W0 = (w.alloc (.cells #[.int .i8 kx, .int .i64 bx, .int .i64 sx, .int .i64 dx, .int .i64 ax, .int .i64 lox, .int .i64 hix, .int .i8 mx] 27)).alloc (.cells #[.int .i8 kz, .int .i64 bz, .int .i64 sz, .int .i64 dz, .int .i64 az, .int .i64 loz, .int .i64 hiz, .int .i8 mz] 27) := ⟨_, rfl⟩
  have b0 : Below w.heap.size w W0 := hW ▸ ((Below.refl _ _).alloc (Nat.le_refl _) _).alloc (by simp) _
  have p0 : Blk W0 w.heap.size #[.int .i8 kx, .int .i64 bx, .int .i64 sx, .int .i64 dx, .int .i64 ax, .int .i64 lox, .int .i64 hix, .int .i8 mx] 27 := hW ▸ (Blk.new w _ _).alloc _
  have q0 : Blk W0 (w.heap.size + 1) #[.int .i8 kz, .int .i64 bz, .int .i64 sz, .int .i64 dz, .int .i64 az, .int .i64 loz, .int .i64 hiz, .int .i8 mz] 27 := by
    have h := Blk.new (w.alloc (.cells #[.int .i8 kx, .int .i64 bx, .int .i64 sx, .int .i64 dx, .int .i64 ax, .int .i64 lox, .int .i64 hix, .int .i8 mx] 27)) #[.int .i8 kz, .int .i64 bz, .int .i64 sz, .int .i64 dz, .int .i64 az, .int .i64 loz, .int .i64 hiz, .int .i8 mz] 27
    rw [hW]
    simpa using h
  obtain ⟨c0, c1, c2, c3, c4, c5, c6, c7⟩ := cmd_cells p0
  obtain ⟨d0, d1, d2, d3, d4, d5, d6, d7⟩ := cmd_cells q0
  go_enter Try.func5, Try.ntmps5
  go_upto_region 1 with fail
  rw [← hW]
  clear hW
  go_wp2_with fail
  refine (cBytes_any kx bx sx dx ax lox hix mx _).mono ?_
  rintro e w1 ⟨rfl, hb1⟩
  have p1 := p0.below hb1 p0.lt
  have q1 := q0.below hb1 q0.lt
  have b1 := below_then b0 hb1
  clear p0 q0 b0 hb1 c0 c1 c2 c3 c4 c5 c6 c7 d0 d1 d2 d3 d4 d5 d6 d7
  obtain ⟨d0, d1, d2, d3, d4, d5, d6, d7⟩ := cmd_cells q1
  obtain ⟨X, hX⟩ : ∃ X, Hid (cmS ⟨kx, bx, sx, dx, ax, lox, hix, mx⟩ = X) := ⟨_, rfl⟩
  obtain ⟨EX, hEX⟩ : ∃ X, Hid (cmE ⟨kx, bx, sx, dx, ax, lox, hix, mx⟩ = X) := ⟨_, rfl⟩
  rw [hX.out, hEX.out]
  go_wp2_with fail
  refine (cBytes_any kz bz sz dz az loz hiz mz _).mono ?_
  rintro e w2 ⟨rfl, hb2⟩
  have p2 := p1.below hb2 p1.lt
  have q2 := q1.below hb2 q1.lt
  have b2 := below_then b1 hb2
  clear p1 q1 b1 hb2 d0 d1 d2 d3 d4 d5 d6 d7
  obtain ⟨Y, hY⟩ : ∃ X, Hid (cmS ⟨kz, bz, sz, dz, az, loz, hiz, mz⟩ = X) := ⟨_, rfl⟩
  obtain ⟨EY, hEY⟩ : ∃ X, Hid (cmE ⟨kz, bz, sz, dz, az, loz, hiz, mz⟩ = X) := ⟨_, rfl⟩
  rw [hY.out, hEY.out]
  obtain ⟨c0, c1, c2, c3, c4, c5, c6, c7⟩ := cmd_cells p2
  obtain ⟨d0, d1, d2, d3, d4, d5, d6, d7⟩ := cmd_cells q2
  go_upto_region 3 with fail
  go_cut [37] (fun v wx => v = .bool false ∧ Below w.heap.size w wx ∧ Blk wx w.heap.size #[.int .i8 kx, .int .i64 bx, .int .i64 sx, .int .i64 dx, .int .i64 ax, .int .i64 lox, .int .i64 hix, .int .i8 mx] 27)
  case first =>
    cases hm1 : cMay ⟨kx, bx, sx, dx, ax, lox, hix, mx⟩ with
    | false =>
      have e1 : EX = 2 := hEX.out.symm.trans (cm_no hm1).2
      subst e1
      clear hm1
      go_wp2_with fail
      go_meet
      exact ⟨rfl, b2, p2⟩
    | true =>
      have e1 : EX = 0 := hEX.out.symm.trans (cm_yes hm1).2
      subst e1
      cases hm2 : cMay ⟨kz, bz, sz, dz, az, loz, hiz, mz⟩ with
      | false =>
        have e2 : EY = 2 := hEY.out.symm.trans (cm_no hm2).2
        subst e2
        clear hm1 hm2
        go_wp2_with fail
        go_meet
        exact ⟨rfl, b2, p2⟩
      | true =>
        have e2 : EY = 0 := hEY.out.symm.trans (cm_yes hm2).2
        subst e2
        by_cases heq : (⟨kx, bx, sx, dx, ax, lox, hix, mx⟩ : CmdM) = ⟨kz, bz, sz, dz, az, loz, hiz, mz⟩
        · have hs : X = Y := by rw [← hX.out, ← hY.out, heq]
          injection heq with h0 h1 h2 h3 h4 h5 h6 h7
          subst h0 h1 h2 h3 h4 h5 h6 h7 hs
          have hss := str_same X
          clear hm1 hm2 hX hY hEX hEY
          go_wp2_with fail
          go_meet
          exact ⟨rfl, b2, p2⟩
        · have hne : ¬ X = Y := fun h => heq (cm_inj hm1 hm2 (by rw [hX.out, hY.out, h]))
          have hss := str_diff hne
          have HNE := Lib.hid heq
          clear hm1 hm2 heq hne hX hY hEX hEY
          by_cases f0 : kx = kz
          · subst f0
            by_cases f1 : bx = bz
            · subst f1
              by_cases f2 : sx = sz
              · subst f2
                by_cases f3 : dx = dz
                · subst f3
                  by_cases f4 : ax = az
                  · subst f4
                    by_cases f5 : lox = loz
                    · subst f5
                      by_cases f6 : hix = hiz
                      · subst f6
                        by_cases f7 : mx = mz
                        · subst f7
                          exact absurd rfl HNE.out
                        · go_wp2_with fail
                          go_meet
                          exact ⟨rfl, b2, p2⟩
                      · go_wp2_with fail
                        go_meet
                        exact ⟨rfl, b2, p2⟩
                    · go_wp2_with fail
                      go_meet
                      exact ⟨rfl, b2, p2⟩
                  · go_wp2_with fail
                    go_meet
                    exact ⟨rfl, b2, p2⟩
                · go_wp2_with fail
                  go_meet
                  exact ⟨rfl, b2, p2⟩
              · go_wp2_with fail
                go_meet
                exact ⟨rfl, b2, p2⟩
            · go_wp2_with fail
              go_meet
              exact ⟨rfl, b2, p2⟩
          · go_wp2_with fail
            go_meet
            exact ⟨rfl, b2, p2⟩
  case rest =>
  obtain ⟨rfl, b3, p3⟩ := hcut
  clear b2 p2 q2 c0 c1 c2 c3 c4 c5 c6 c7 d0 d1 d2 d3 d4 d5 d6 d7 hY hEY hX
  obtain ⟨c0, c1, c2, c3, c4, c5, c6, c7⟩ := cmd_cells p3
  have l3 := p3.lt
  cases hm1 : cMay ⟨kx, bx, sx, dx, ax, lox, hix, mx⟩ with
  | false =>
    have e1 : EX = 2 := hEX.out.symm.trans (cm_no hm1).2
    subst e1
    clear hm1 hEX
    go_wp2_with fail
    refine (wakes_any _).mono ?_
    rintro e w6 ⟨rfl, hb6⟩
    have b6 := below_then b3 hb6
    go_wp2_with fail
    go_ret
    exact ⟨rfl, b6⟩
  | true =>
    have e1 : EX = 0 := hEX.out.symm.trans (cm_yes hm1).2
    subst e1
    by_cases hn : n = 0
    · subst hn
      clear hm1 hEX
      go_wp2_with fail
      refine (wakes_any _).mono ?_
      rintro e w6 ⟨rfl, hb6⟩
      have b6 := below_then b3 hb6
      go_wp2_with fail
      go_ret
      exact ⟨rfl, b6⟩
    · have hnz : (n == 0) = false := beq_no hn
      have HM := Lib.hid hm1
      have HNZ := Lib.hid hn
      have HK6 := Lib.hid (other_kind ⟨kx, bx, sx, dx, ax, lox, hix, mx⟩)
      clear hm1 hEX hn
      by_cases g2 : kx = 2
      · obtain rfl : kx = 2 := g2
        have HC : Hid (cMay ⟨2, bx, sx, n, ax, lox, hix, mx⟩ = false) := other_dead (c := ⟨2, bx, sx, dx, ax, lox, hix, mx⟩) (by simp) HNZ.out
        have HC6 : Hid (cMay ⟨6, bx, sx, dx, ax, lox, hix, mx⟩ = false) := HK6.out
        clear HK6 HM HNZ
        have q6 : Blk ((wc.alloc (.cells #[.int .i8 2, .int .i64 bx, .int .i64 sx, .int .i64 n, .int .i64 ax, .int .i64 lox, .int .i64 hix, .int .i8 mx] 27)).alloc (.cells #[.int .i8 6, .int .i64 bx, .int .i64 sx, .int .i64 dx, .int .i64 ax, .int .i64 lox, .int .i64 hix, .int .i8 mx] 27)) (wc.heap.size + 1) #[.int .i8 6, .int .i64 bx, .int .i64 sx, .int .i64 dx, .int .i64 ax, .int .i64 lox, .int .i64 hix, .int .i8 mx] 27 := by
          have h := Blk.new (wc.alloc (.cells #[.int .i8 2, .int .i64 bx, .int .i64 sx, .int .i64 n, .int .i64 ax, .int .i64 lox, .int .i64 hix, .int .i8 mx] 27)) #[.int .i8 6, .int .i64 bx, .int .i64 sx, .int .i64 dx, .int .i64 ax, .int .i64 lox, .int .i64 hix, .int .i8 mx] 27
          simpa using h
        have b6 : Below w.heap.size w ((wc.alloc (.cells #[.int .i8 2, .int .i64 bx, .int .i64 sx, .int .i64 n, .int .i64 ax, .int .i64 lox, .int .i64 hix, .int .i8 mx] 27)).alloc (.cells #[.int .i8 6, .int .i64 bx, .int .i64 sx, .int .i64 dx, .int .i64 ax, .int .i64 lox, .int .i64 hix, .int .i8 mx] 27)) := (b3.alloc b3.size _).alloc (by have := b3.size; simp; omega) _
        go_wp2_with fail
        refine (cMay_any 2 bx sx n ax lox hix mx _).mono ?_
        rintro e w7 ⟨rfl, hb7⟩
        rw [HC.out]
        have q7 := q6.below hb7 q6.lt
        have b7 := below_then b6 hb7
        clear q6 b6 hb7 b3 p3 c0 c1 c2 c3 c4 c5 c6 c7
        obtain ⟨d0, d1, d2, d3, d4, d5, d6, d7⟩ := cmd_cells q7
        have l7 := q7.lt
        go_wp2_with fail
        refine (cMay_any 6 bx sx dx ax lox hix mx _).mono ?_
        rintro e w8 ⟨rfl, hb8⟩
        rw [HC6.out]
        have b8 := below_then b7 hb8
        clear q7 b7 hb8 d0 d1 d2 d3 d4 d5 d6 d7 l7
        go_wp2_with fail
        refine (wakes_any _).mono ?_
        rintro e w9 ⟨rfl, hb9⟩
        have b9 := below_then b8 hb9
        go_wp2_with fail
        go_ret
        exact ⟨rfl, b9⟩
      · by_cases g3 : kx = 3
        · obtain rfl : kx = 3 := g3
          have HC : Hid (cMay ⟨3, bx, sx, n, ax, lox, hix, mx⟩ = false) := other_dead (c := ⟨3, bx, sx, dx, ax, lox, hix, mx⟩) (by simp) HNZ.out
          have HC6 : Hid (cMay ⟨6, bx, sx, dx, ax, lox, hix, mx⟩ = false) := HK6.out
          clear HK6 HM HNZ
          have q6 : Blk ((wc.alloc (.cells #[.int .i8 3, .int .i64 bx, .int .i64 sx, .int .i64 n, .int .i64 ax, .int .i64 lox, .int .i64 hix, .int .i8 mx] 27)).alloc (.cells #[.int .i8 6, .int .i64 bx, .int .i64 sx, .int .i64 dx, .int .i64 ax, .int .i64 lox, .int .i64 hix, .int .i8 mx] 27)) (wc.heap.size + 1) #[.int .i8 6, .int .i64 bx, .int .i64 sx, .int .i64 dx, .int .i64 ax, .int .i64 lox, .int .i64 hix, .int .i8 mx] 27 := by
            have h := Blk.new (wc.alloc (.cells #[.int .i8 3, .int .i64 bx, .int .i64 sx, .int .i64 n, .int .i64 ax, .int .i64 lox, .int .i64 hix, .int .i8 mx] 27)) #[.int .i8 6, .int .i64 bx, .int .i64 sx, .int .i64 dx, .int .i64 ax, .int .i64 lox, .int .i64 hix, .int .i8 mx] 27
            simpa using h
          have b6 : Below w.heap.size w ((wc.alloc (.cells #[.int .i8 3, .int .i64 bx, .int .i64 sx, .int .i64 n, .int .i64 ax, .int .i64 lox, .int .i64 hix, .int .i8 mx] 27)).alloc (.cells #[.int .i8 6, .int .i64 bx, .int .i64 sx, .int .i64 dx, .int .i64 ax, .int .i64 lox, .int .i64 hix, .int .i8 mx] 27)) := (b3.alloc b3.size _).alloc (by have := b3.size; simp; omega) _
          go_wp2_with fail
          refine (cMay_any 3 bx sx n ax lox hix mx _).mono ?_
          rintro e w7 ⟨rfl, hb7⟩
          rw [HC.out]
          have q7 := q6.below hb7 q6.lt
          have b7 := below_then b6 hb7
          clear q6 b6 hb7 b3 p3 c0 c1 c2 c3 c4 c5 c6 c7
          obtain ⟨d0, d1, d2, d3, d4, d5, d6, d7⟩ := cmd_cells q7
          have l7 := q7.lt
          go_wp2_with fail
          refine (cMay_any 6 bx sx dx ax lox hix mx _).mono ?_
          rintro e w8 ⟨rfl, hb8⟩
          rw [HC6.out]
          have b8 := below_then b7 hb8
          clear q7 b7 hb8 d0 d1 d2 d3 d4 d5 d6 d7 l7
          go_wp2_with fail
          refine (wakes_any _).mono ?_
          rintro e w9 ⟨rfl, hb9⟩
          have b9 := below_then b8 hb9
          go_wp2_with fail
          go_ret
          exact ⟨rfl, b9⟩
        · by_cases g0 : kx = 0
          · obtain rfl : kx = 0 := g0
            have HC : Hid (cMay ⟨0, bx, sx, n, ax, lox, hix, mx⟩ = false) := other_dead (c := ⟨0, bx, sx, dx, ax, lox, hix, mx⟩) (by simp) HNZ.out
            have HC6 : Hid (cMay ⟨6, bx, sx, dx, ax, lox, hix, mx⟩ = false) := HK6.out
            clear HK6 HM HNZ
            have q6 : Blk ((wc.alloc (.cells #[.int .i8 0, .int .i64 bx, .int .i64 sx, .int .i64 n, .int .i64 ax, .int .i64 lox, .int .i64 hix, .int .i8 mx] 27)).alloc (.cells #[.int .i8 6, .int .i64 bx, .int .i64 sx, .int .i64 dx, .int .i64 ax, .int .i64 lox, .int .i64 hix, .int .i8 mx] 27)) (wc.heap.size + 1) #[.int .i8 6, .int .i64 bx, .int .i64 sx, .int .i64 dx, .int .i64 ax, .int .i64 lox, .int .i64 hix, .int .i8 mx] 27 := by
              have h := Blk.new (wc.alloc (.cells #[.int .i8 0, .int .i64 bx, .int .i64 sx, .int .i64 n, .int .i64 ax, .int .i64 lox, .int .i64 hix, .int .i8 mx] 27)) #[.int .i8 6, .int .i64 bx, .int .i64 sx, .int .i64 dx, .int .i64 ax, .int .i64 lox, .int .i64 hix, .int .i8 mx] 27
              simpa using h
            have b6 : Below w.heap.size w ((wc.alloc (.cells #[.int .i8 0, .int .i64 bx, .int .i64 sx, .int .i64 n, .int .i64 ax, .int .i64 lox, .int .i64 hix, .int .i8 mx] 27)).alloc (.cells #[.int .i8 6, .int .i64 bx, .int .i64 sx, .int .i64 dx, .int .i64 ax, .int .i64 lox, .int .i64 hix, .int .i8 mx] 27)) := (b3.alloc b3.size _).alloc (by have := b3.size; simp; omega) _
            go_wp2_with fail
            refine (cMay_any 0 bx sx n ax lox hix mx _).mono ?_
            rintro e w7 ⟨rfl, hb7⟩
            rw [HC.out]
            have q7 := q6.below hb7 q6.lt
            have b7 := below_then b6 hb7
            clear q6 b6 hb7 b3 p3 c0 c1 c2 c3 c4 c5 c6 c7
            obtain ⟨d0, d1, d2, d3, d4, d5, d6, d7⟩ := cmd_cells q7
            have l7 := q7.lt
            go_wp2_with fail
            refine (cMay_any 6 bx sx dx ax lox hix mx _).mono ?_
            rintro e w8 ⟨rfl, hb8⟩
            rw [HC6.out]
            have b8 := below_then b7 hb8
            clear q7 b7 hb8 d0 d1 d2 d3 d4 d5 d6 d7 l7
            go_wp2_with fail
            refine (wakes_any _).mono ?_
            rintro e w9 ⟨rfl, hb9⟩
            have b9 := below_then b8 hb9
            go_wp2_with fail
            go_ret
            exact ⟨rfl, b9⟩
          · by_cases g1 : kx = 1
            · obtain rfl : kx = 1 := g1
              have HC : Hid (cMay ⟨1, bx, sx, n, ax, lox, hix, mx⟩ = false) := other_dead (c := ⟨1, bx, sx, dx, ax, lox, hix, mx⟩) (by simp) HNZ.out
              have HC6 : Hid (cMay ⟨6, bx, sx, dx, ax, lox, hix, mx⟩ = false) := HK6.out
              clear HK6 HM HNZ
              have q6 : Blk ((wc.alloc (.cells #[.int .i8 1, .int .i64 bx, .int .i64 sx, .int .i64 n, .int .i64 ax, .int .i64 lox, .int .i64 hix, .int .i8 mx] 27)).alloc (.cells #[.int .i8 6, .int .i64 bx, .int .i64 sx, .int .i64 dx, .int .i64 ax, .int .i64 lox, .int .i64 hix, .int .i8 mx] 27)) (wc.heap.size + 1) #[.int .i8 6, .int .i64 bx, .int .i64 sx, .int .i64 dx, .int .i64 ax, .int .i64 lox, .int .i64 hix, .int .i8 mx] 27 := by
                have h := Blk.new (wc.alloc (.cells #[.int .i8 1, .int .i64 bx, .int .i64 sx, .int .i64 n, .int .i64 ax, .int .i64 lox, .int .i64 hix, .int .i8 mx] 27)) #[.int .i8 6, .int .i64 bx, .int .i64 sx, .int .i64 dx, .int .i64 ax, .int .i64 lox, .int .i64 hix, .int .i8 mx] 27
                simpa using h
              have b6 : Below w.heap.size w ((wc.alloc (.cells #[.int .i8 1, .int .i64 bx, .int .i64 sx, .int .i64 n, .int .i64 ax, .int .i64 lox, .int .i64 hix, .int .i8 mx] 27)).alloc (.cells #[.int .i8 6, .int .i64 bx, .int .i64 sx, .int .i64 dx, .int .i64 ax, .int .i64 lox, .int .i64 hix, .int .i8 mx] 27)) := (b3.alloc b3.size _).alloc (by have := b3.size; simp; omega) _
              go_wp2_with fail
              refine (cMay_any 1 bx sx n ax lox hix mx _).mono ?_
              rintro e w7 ⟨rfl, hb7⟩
              rw [HC.out]
              have q7 := q6.below hb7 q6.lt
              have b7 := below_then b6 hb7
              clear q6 b6 hb7 b3 p3 c0 c1 c2 c3 c4 c5 c6 c7
              obtain ⟨d0, d1, d2, d3, d4, d5, d6, d7⟩ := cmd_cells q7
              have l7 := q7.lt
              go_wp2_with fail
              refine (cMay_any 6 bx sx dx ax lox hix mx _).mono ?_
              rintro e w8 ⟨rfl, hb8⟩
              rw [HC6.out]
              have b8 := below_then b7 hb8
              clear q7 b7 hb8 d0 d1 d2 d3 d4 d5 d6 d7 l7
              go_wp2_with fail
              refine (wakes_any _).mono ?_
              rintro e w9 ⟨rfl, hb9⟩
              have b9 := below_then b8 hb9
              go_wp2_with fail
              go_ret
              exact ⟨rfl, b9⟩
            · have k0 : (kx == 0) = false := beq_no g0
              have k1 : (kx == 1) = false := beq_no g1
              have k2 : (kx == 2) = false := beq_no g2
              have k3 : (kx == 3) = false := beq_no g3
              have hkk : ¬ (kx = 2 ∨ kx = 3 ∨ kx = 0 ∨ kx = 1) := by omega
              have HKK := Lib.hid hkk
              clear g0 g1 g2 g3 hkk
              have HC : Hid (cMay ⟨kx, bx, sx, dx, ax, lox, n, mx⟩ = false) := other_hi HM.out HKK.out HNZ.out
              have HC6 : Hid (cMay ⟨6, bx, sx, dx, ax, lox, hix, mx⟩ = false) := HK6.out
              clear HK6 HM HNZ
              have q6 : Blk ((wc.alloc (.cells #[.int .i8 kx, .int .i64 bx, .int .i64 sx, .int .i64 dx, .int .i64 ax, .int .i64 lox, .int .i64 n, .int .i8 mx] 27)).alloc (.cells #[.int .i8 6, .int .i64 bx, .int .i64 sx, .int .i64 dx, .int .i64 ax, .int .i64 lox, .int .i64 hix, .int .i8 mx] 27)) (wc.heap.size + 1) #[.int .i8 6, .int .i64 bx, .int .i64 sx, .int .i64 dx, .int .i64 ax, .int .i64 lox, .int .i64 hix, .int .i8 mx] 27 := by
                have h := Blk.new (wc.alloc (.cells #[.int .i8 kx, .int .i64 bx, .int .i64 sx, .int .i64 dx, .int .i64 ax, .int .i64 lox, .int .i64 n, .int .i8 mx] 27)) #[.int .i8 6, .int .i64 bx, .int .i64 sx, .int .i64 dx, .int .i64 ax, .int .i64 lox, .int .i64 hix, .int .i8 mx] 27
                simpa using h
              have b6 : Below w.heap.size w ((wc.alloc (.cells #[.int .i8 kx, .int .i64 bx, .int .i64 sx, .int .i64 dx, .int .i64 ax, .int .i64 lox, .int .i64 n, .int .i8 mx] 27)).alloc (.cells #[.int .i8 6, .int .i64 bx, .int .i64 sx, .int .i64 dx, .int .i64 ax, .int .i64 lox, .int .i64 hix, .int .i8 mx] 27)) := (b3.alloc b3.size _).alloc (by have := b3.size; simp; omega) _
              go_wp2_with fail
              refine (cMay_any kx bx sx dx ax lox n mx _).mono ?_
              rintro e w7 ⟨rfl, hb7⟩
              rw [HC.out]
              have q7 := q6.below hb7 q6.lt
              have b7 := below_then b6 hb7
              clear q6 b6 hb7 b3 p3 c0 c1 c2 c3 c4 c5 c6 c7
              obtain ⟨d0, d1, d2, d3, d4, d5, d6, d7⟩ := cmd_cells q7
              have l7 := q7.lt
              go_wp2_with fail
              refine (cMay_any 6 bx sx dx ax lox hix mx _).mono ?_
              rintro e w8 ⟨rfl, hb8⟩
              rw [HC6.out]
              have b8 := below_then b7 hb8
              clear q7 b7 hb8 d0 d1 d2 d3 d4 d5 d6 d7 l7
              go_wp2_with fail
              refine (wakes_any _).mono ?_
              rintro e w9 ⟨rfl, hb9⟩
              have b9 := below_then b8 hb9
              go_wp2_with fail
              go_ret
              exact ⟨rfl, b9⟩

/-! ### THE ROW's STEP -/
set_option maxRecDepth 100000 in
theorem lifted (os : Os) (started : os.Started) (H : Type) (enc : TypeId × Value → H) :
    ReturnsInHanded {} Try.checked os 5 .any (Rows.commandOtherSpec.pre6 enc Try.prog Try.f5 Rows.commandOtherRow.domain false) (Rows.commandOtherSpec.post enc Try.prog Try.f5 false true false false) := by
  refine returnsInHanded_of_change (C := Try.checked) own started (by kernel_rfl) Try.func5
    (ChangeSpec.witness6 (enc := enc) (C := Try.checked) false ⟨#[], #[.agg #[.int .i8 0, .int .i64 0, .int .i64 0, .int .i64 0, .int .i64 0, .int .i64 0, .int .i64 0, .int .i8 0], .agg #[.int .i8 0, .int .i64 0, .int .i64 0, .int .i64 0, .int .i64 0, .int .i64 0, .int .i64 0, .int .i8 0], .int .i64 0], []⟩ 8 (by kernel_rfl) (by kernel_rfl) (by kernel_rfl) (by kernel_rfl)) ?_
  intro W base args ds gs before hval0 hW hcnd _
  have hval : ∀ (j : Nat) t v, Try.f5.params[j]? = some t → args[j]? = some v → Value.okWide Try.prog W .any base t v := hval0
  have hW' := hW
  obtain ⟨p, q, hA0, hV, rfl, hfz, hnd⟩ := hW
  have hA : DataW.TrodAll enc Try.prog W 0 (fun _ => true) true Try.f5.params.toList args.toList ds p := hA0
  rw [Try.params5] at hA hval
  obtain ⟨v0, vs0, d0, ds0, p0, q0, hargs, rfl, rfl, h0, r0⟩ := trodAll_cons hA
  obtain ⟨v1, vs1, d1, ds1, p1, q1, rfl, rfl, rfl, h1, r1⟩ := trodAll_cons r0
  obtain ⟨v2, vs2, d2, ds2, p2, q2, rfl, rfl, rfl, h2, r2⟩ := trodAll_cons r1
  obtain ⟨rfl, rfl, rfl⟩ := trodAll_nil r2
  obtain rfl : args = #[v0, v1, v2] := by cases args; simp_all
  obtain ⟨rfl, rfl⟩ := trodVars_none hV
  have k0 := h0
  have lt0 : ∀ x ∈ p0, x.block < W.heap.size := by obtain ⟨m, hm⟩ := k0; exact DataW.trod_lt m _ _ _ hm
  obtain ⟨g0, rfl, w0⟩ := open_cmd (hval 0 27 v0 rfl rfl) h0
  have k1 := h1
  have lt1 : ∀ x ∈ p1, x.block < W.heap.size := by obtain ⟨m, hm⟩ := k1; exact DataW.trod_lt m _ _ _ hm
  obtain ⟨g1, rfl, w1⟩ := open_cmd (hval 1 27 v1 rfl rfl) h1
  obtain ⟨a2, rfl, rfl, rfl, w2⟩ := open_int Try.underlying3 (hval 2 3 v2 rfl rfl) h2
  clear hA0 hval0
  refine (walk g0 g1 a2 W w0 w1 w2).mono fun e W' ⟨he, bel⟩ => ?_
  subst he
  exact ⟨_, rfl, _, _, _, [], _, [], hW', trodAll_mk1 (shut_bool Try.underlying4 _), (trodAll_cons_mk (Below.trod laidOut (by kernel_rfl) (of_decide_eq_true (by kernel_rfl)) k0 bel lt0) (trodAll_cons_mk (Below.trod laidOut (by kernel_rfl) (of_decide_eq_true (by kernel_rfl)) k1 bel lt1) (trodAll_cons_mk (shut_int Try.underlying3 w2) trodAll_mk0))), rfl, bel.frame _, fun h => by cases h⟩

theorem over : Rows.commandOtherRow.holds Try.pinned (OpenSpec.ofChange Rows.commandOtherSpec) :=
  OpenClaim.holds_of_wide 5 Try.f5 rfl rfl rfl rfl rfl rfl rfl ⟨rfl, rfl, rfl, rfl, rfl⟩ rfl rfl rfl rfl rfl (by kernel_rfl) Try.func5 (by kernel_rfl)
    (of_decide_eq_true (by kernel_rfl)) (by unfold Func.isWrapper; first | (rw [if_pos (by decide +kernel)]; kernel_rfl) | (rw [if_neg (by decide +kernel)]; exact ⟨rfl, rfl⟩))
    (fun os started H enc _ => lifted os started H enc)

/-- The statement. -/
theorem proved : Rows.CommandOtherSaid := over
#print axioms proved

end Go.Proofs.Ytdjkomagpihgdaa.commandOther
