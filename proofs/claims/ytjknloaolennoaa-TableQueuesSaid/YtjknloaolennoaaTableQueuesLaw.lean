/-
  The statement TableQueues: nobody of the queue passes another that it does not go together with: for every geometry, every row of commands and one command more the call answers true and leaves its arguments as they were. No conditions.
-/
import Derived.Test.YtjknloaolennoaaTabWakes
import Derived.Test.YtjknloaolennoaaTabOpen
import Derived.Test.YtjknloaolennoaaJoinTabMay
import Derived.Test.YtjknloaolennoaaJoinTabLen
import Derived.Test.YtjknloaolennoaaCmdRefMay
import Derived.Test.YtjknloaolennoaaGeoArg
import Derived.Test.YtjknloaolennoaaHeldTo
import Derived.ProofKit
import Derived.Deep.DeepCutAuto
import Derived.Deep.CutBlock
import Derived.ShutString
import Derived.ChangeOld
import Derived.Below
namespace Go.Proofs.Ytjknloaolennoaa.tableQueues
open Go.ChangeShapes Go.WideShapes Go.ChangeAt Go.RowKit
open Go.ChangeMaps (open_string shut_string)
set_option linter.unusedVariables false
set_option linter.unusedSimpArgs false

theorem own : ownKnob Try.prog.godebug = none := by kernel_rfl
theorem laidOut : laidOutB Try.prog = true := by kernel_rfl
theorem not_yet {b : Bool} {p : Prop} (e : b = true) (h : b = false) : p := by rw [e] at h; cases h

set_option maxRecDepth 100000 in
set_option maxHeartbeats 4000000 in
theorem walk (g : G) (A : Option Addr) (n c : Nat) (l : List CmdM) (z : CmdM) (w : World) (wl : IsCmds w A n c l) (wz : CmdBd z) :
    Calls Try.prog 4 #[.agg #[.int .i64 g.N, .int .i64 g.S, .int .i64 g.B, .int .i64 g.P, .int .i64 g.J, .int .i64 g.L, .int .i64 g.E, .int .i64 g.T], .slice A n c, .agg (cmdA z)] w fun e w' => e = .returned (.bool true) ∧ Below w.heap.size w w' := by
  obtain ⟨N, S, B, P, J, L, E, T⟩ := g
  obtain ⟨hl, hn, _, _, _⟩ := wl
  obtain ⟨zk, zb, zs, zd, za, zl, zh, zm⟩ := z
  clear wz
  simp only
  rw [show cmdA ⟨zk, zb, zs, zd, za, zl, zh, zm⟩ = #[.int .i8 zk, .int .i64 zb, .int .i64 zs, .int .i64 zd, .int .i64 za, .int .i64 zl, .int .i64 zh, .int .i8 zm] from rfl]
  unfold maxLen at hn
  have b0 := two_new w (.cells #[.int .i64 N, .int .i64 S, .int .i64 B, .int .i64 P, .int .i64 J, .int .i64 L, .int .i64 E, .int .i64 T] 23) (.cells #[.int .i8 zk, .int .i64 zb, .int .i64 zs, .int .i64 zd, .int .i64 za, .int .i64 zl, .int .i64 zh, .int .i8 zm] 36)
  obtain ⟨pg, pz⟩ := blk2 w #[.int .i64 N, .int .i64 S, .int .i64 B, .int .i64 P, .int .i64 J, .int .i64 L, .int .i64 E, .int .i64 T] #[.int .i8 zk, .int .i64 zb, .int .i64 zs, .int .i64 zd, .int .i64 za, .int .i64 zl, .int .i64 zh, .int .i8 zm] 23 36
  go_enter Try.func4, Try.ntmps4
  by_cases q0 : 60 < n
  · have z0 : decide ((60 : Int) < (n : Int)) = true := decide_eq_true (by omega)
    clear hl pg pz
    clear q0
    go_wp2_with fail
    refine (twakes_any _).mono ?_
    rintro e w6 ⟨rfl, hb6⟩
    have hz6 := below_then (b0) hb6
    go_wp2_with fail
    go_ret
    exact ⟨rfl, hz6⟩
  · have z0 : decide ((60 : Int) < (n : Int)) = false := decide_eq_false (by omega)
    by_cases q1 : S < 1
    · have z1 : decide (S < 1) = true := decide_eq_true (by omega)
      clear hl pg pz
      clear q0
      clear q1
      go_wp2_with fail
      refine (twakes_any _).mono ?_
      rintro e w6 ⟨rfl, hb6⟩
      have hz6 := below_then (b0) hb6
      go_wp2_with fail
      go_ret
      exact ⟨rfl, hz6⟩
    · have z1 : decide (S < 1) = false := decide_eq_false (by omega)
      by_cases q2 : 16 < S
      · have z2 : decide ((16 : Int) < S) = true := decide_eq_true (by omega)
        clear hl pg pz
        clear q0
        clear q1
        clear q2
        go_wp2_with fail
        refine (twakes_any _).mono ?_
        rintro e w6 ⟨rfl, hb6⟩
        have hz6 := below_then (b0) hb6
        go_wp2_with fail
        go_ret
        exact ⟨rfl, hz6⟩
      · have z2 : decide ((16 : Int) < S) = false := decide_eq_false (by omega)
        by_cases q3 : B < 1
        · have z3 : decide (B < 1) = true := decide_eq_true (by omega)
          clear hl pg pz
          clear q0
          clear q1
          clear q2
          clear q3
          go_wp2_with fail
          refine (twakes_any _).mono ?_
          rintro e w6 ⟨rfl, hb6⟩
          have hz6 := below_then (b0) hb6
          go_wp2_with fail
          go_ret
          exact ⟨rfl, hz6⟩
        · have z3 : decide (B < 1) = false := decide_eq_false (by omega)
          by_cases q4 : 64 < B
          · have z4 : decide ((64 : Int) < B) = true := decide_eq_true (by omega)
            clear hl pg pz
            clear q0
            clear q1
            clear q2
            clear q3
            clear q4
            go_wp2_with fail
            refine (twakes_any _).mono ?_
            rintro e w6 ⟨rfl, hb6⟩
            have hz6 := below_then (b0) hb6
            go_wp2_with fail
            go_ret
            exact ⟨rfl, hz6⟩
          · have z4 : decide ((64 : Int) < B) = false := decide_eq_false (by omega)
            have hS0 : 0 ≤ S := by omega
            have hS1 : S ≤ 16 := by omega
            have HN := Lib.hid (show n ≤ 60 by omega)
            have HS16 := Lib.hid (show S.toNat ≤ 16 by omega)
            obtain ⟨W0, hW0⟩ : ∃ W, W = (w.alloc (.cells #[.int .i64 N, .int .i64 S, .int .i64 B, .int .i64 P, .int .i64 J, .int .i64 L, .int .i64 E, .int .i64 T] 23)).alloc (.cells #[.int .i8 zk, .int .i64 zb, .int .i64 zs, .int .i64 zd, .int .i64 za, .int .i64 zl, .int .i64 zh, .int .i8 zm] 36) := ⟨_, rfl⟩
            rw [← hW0] at b0 pg pz
            have hnew := fun W => tNew_any N S B P J L E T W hS0 hS1
            have hnew := Lib.hid hnew
            clear hS0 hS1 q0 q1 q2 q3 q4
            go_wp2_with fail
            rw [← hW0]
            clear hW0
            refine (refCMay_any zk zb zs zd za zl zh zm _).mono ?_
            rintro e w0 ⟨rfl, hb0⟩
            have pg0 := pg.below hb0 pg.lt
            have pz0 := pz.below hb0 pz.lt
            have b00 := below_then b0 hb0
            clear b0 pg pz hb0
            cases hzm : cMay ⟨zk, zb, zs, zd, za, zl, zh, zm⟩ with
            | false =>
              clear hzm hl
              go_wp2_with fail
              refine (twakes_any _).mono ?_
              rintro e w6 ⟨rfl, hb6⟩
              have hz6 := below_then (b00) hb6
              go_wp2_with fail
              go_ret
              exact ⟨rfl, hz6⟩
            | true =>
              have HZM := Lib.hid hzm
              clear hzm
              obtain ⟨g0, g1, g2, g3, g4, g5, g6, g7⟩ := tgeo_cells pg0
              have hlg := pg0.lt
              go_wp2_with fail
              refine (hnew.out _).mono ?_
              clear hnew
              rintro e w1 ⟨v1, rfl, T1, hb1⟩
              obtain ⟨aS, cS, aH, cH, aQ, cQ, e1⟩ := T1.shape
              subst e1
              have hMay := Lib.hid (may_newT B S.toNat)
              have hL0 : (newT S.toNat).ho.length + (newT S.toNat).qu.length = 0 := rfl
              obtain ⟨t1, ht1⟩ : ∃ t, newT S.toNat = t := ⟨_, rfl⟩
              rw [ht1] at T1 hMay hL0 ⊢
              clear ht1
              obtain ⟨mS, hmS⟩ : ∃ m, t1.sl.length = m := ⟨_, rfl⟩
              obtain ⟨mH, hmH⟩ : ∃ m, t1.ho.length = m := ⟨_, rfl⟩
              obtain ⟨mQ, hmQ⟩ : ∃ m, t1.qu.length = m := ⟨_, rfl⟩
              have HL1 := Lib.hid (And.intro hmH hmQ)
              rw [hmS, hmH, hmQ] at T1 ⊢
              clear hmS hmH hmQ
              have pg1 := pg0.below hb1 pg0.lt
              have pz1 := pz0.below hb1 pz0.lt
              have b1 := below_then b00 hb1
              have po := Blk.new w1 #[.slice aS mS cS, .slice aH mH cH, .slice aQ mQ cQ] 29
              have bo := one_new w1 (.cells #[.slice aS mS cS, .slice aH mH cH, .slice aQ mQ cQ] 29)
              have pg2 := pg1.below bo pg1.lt
              have pz2 := pz1.below bo pz1.lt
              have b2 := below_then b1 bo
              have T2 := T1.below bo
              have ho1 : w.heap.size + 2 ≤ w1.heap.size := by have := pz1.lt; omega
              obtain ⟨o, ho⟩ : ∃ o, w1.heap.size = o := ⟨_, rfl⟩
              clear hb1 pg0 pz0 b00 b1 T1 bo g0 g1 g2 g3 g4 g5 g6 g7 hlg pg1 pz1
              go_upto_region 4 with fail
              obtain ⟨W2, hW2⟩ : ∃ W, W = w1.alloc (.cells #[.slice aS mS cS, .slice aH mH cH, .slice aQ mQ cQ] 29) := ⟨_, rfl⟩
              rw [← hW2] at po pg2 pz2 b2 T2 ⊢
              rw [ho] at po ho1
              clear hW2 ho
              have HL : Hid (∀ W, Below w.heap.size w W → LiesC W W.heap.size A n l) := fun W h => hl.below h
              have HLn : Hid (l.length = n) := hl.1
              clear hl
              go_wp2_with fail
              go_loopw [8] (fun i wr => ∃ (k : Nat) (t : TabM) (aS : Option Addr) (mS cS : Nat) (aH : Option Addr) (mH cH : Nat) (aQ : Option Addr) (mQ cQ : Nat), k ≤ n ∧ i = .int .i64 k ∧ TabAt wr (.agg #[.slice aS mS cS, .slice aH mH cH, .slice aQ mQ cQ]) t ∧ Blk wr o #[.slice aS mS cS, .slice aH mH cH, .slice aQ mQ cQ] 29 ∧ Hid (MayT B S.toNat t) ∧ Hid (t.ho.length = mH ∧ t.qu.length = mQ) ∧ t.ho.length + t.qu.length ≤ k ∧ Blk wr w.heap.size #[.int .i64 N, .int .i64 S, .int .i64 B, .int .i64 P, .int .i64 J, .int .i64 L, .int .i64 E, .int .i64 T] 23 ∧ Blk wr (w.heap.size + 1) #[.int .i8 zk, .int .i64 zb, .int .i64 zs, .int .i64 zd, .int .i64 za, .int .i64 zl, .int .i64 zh, .int .i8 zm] 36 ∧ Below w.heap.size w wr) (fun i _ => n - (intOf i).toNat)
              case atStart => exact ⟨0, t1, _, _, _, _, _, _, _, _, _, Nat.zero_le _, rfl, T2, po, hMay, HL1, by omega, pg2, pz2, b2⟩
              case round =>
                clear T2 po pg2 pz2 b2 hMay hL0 HL1
                obtain ⟨k, t, aS, mS, cS, aH, mH, cH, aQ, mQ, cQ, hk, rfl, hT, po, hM, HLL, hlen, pg, pz, hb⟩ := hrel
                obtain ⟨g0, g1, g2, g3, g4, g5, g6, g7⟩ := tgeo_cells pg
                obtain ⟨o0, o1, o2⟩ := tcells po
                have hlg := pg.lt
                have hlo := po.lt
                have hlz := pz.lt
                have hTL : Hid (TabLt t) := ⟨by rw [hM.out.len]; have := HS16.out; omega, by have := HN.out; omega, by have := HN.out; omega⟩
                by_cases hlt : k < n
                · have hkl : k < l.length := by rw [HLn.out]; exact hlt
                  obtain ⟨⟨ck, cb, cs, cd, ca, cl, ch, cm⟩, hxx⟩ : ∃ x, l[k] = x := ⟨_, rfl⟩
                  obtain ⟨ad, e1, had, d0, d1, d2, d3, d4, d5, d6, d7⟩ := cmd_at (HL.out _ hb) hlt hkl hxx
                  subst e1
                  have hAd : Hid (∀ W, Below w.heap.size w W → W.cell? (ad.add (k * 8)) = some (.int .i8 ck) ∧ W.cell? ⟨(ad.add (k * 8)).block, (ad.add (k * 8)).off + 1, none⟩ = some (.int .i64 cb) ∧ W.cell? ⟨(ad.add (k * 8)).block, (ad.add (k * 8)).off + 2, none⟩ = some (.int .i64 cs) ∧ W.cell? ⟨(ad.add (k * 8)).block, (ad.add (k * 8)).off + 3, none⟩ = some (.int .i64 cd) ∧ W.cell? ⟨(ad.add (k * 8)).block, (ad.add (k * 8)).off + 4, none⟩ = some (.int .i64 ca) ∧ W.cell? ⟨(ad.add (k * 8)).block, (ad.add (k * 8)).off + 5, none⟩ = some (.int .i64 cl) ∧ W.cell? ⟨(ad.add (k * 8)).block, (ad.add (k * 8)).off + 6, none⟩ = some (.int .i64 ch) ∧ W.cell? ⟨(ad.add (k * 8)).block, (ad.add (k * 8)).off + 7, none⟩ = some (.int .i8 cm)) := fun W hW => by
                    obtain ⟨ad', e1, _, q⟩ := cmd_at (HL.out _ hW) hlt hkl hxx
                    injection e1 with e1
                    subst e1
                    exact q
                  clear hxx hkl
                  go_wp2_with fail
                  refine (refCMay_any ck cb cs cd ca cl ch cm _).mono ?_
                  rintro e w2 ⟨rfl, hx2⟩
                  have po2 := po.below hx2 hlo
                  have pg2 := pg.below hx2 hlg
                  have pz2 := pz.below hx2 hlz
                  have hb2 := below_then hb hx2
                  have hT2 := hT.below hx2
                  clear po pg pz hb hT hx2 g0 g1 g2 g3 g4 g5 g6 g7 o0 o1 o2 hlg hlo hlz d0 d1 d2 d3 d4 d5 d6 d7
                  cases hm : cMay ⟨ck, cb, cs, cd, ca, cl, ch, cm⟩ with
                  | false =>
                    clear hm
                    go_wp2_with fail
                    go_roundw
                    case rel => exact ⟨k + 1, t, _, _, _, _, _, _, _, _, _, by omega, by go_num, hT2, po2, hM, HLL, by omega, pg2, pz2, hb2⟩
                    case measure => simp [intOf]; omega
                  | true =>
                    have HMA := Lib.hid (may_apply hM.out hm)
                    have hkd := Lib.hid (kind_may hm)
                    have HAL := Lib.hid (apply_len B t ⟨ck, cb, cs, cd, ca, cl, ch, cm⟩)
                    clear hm
                    have hkeep : ∀ W, Below w2.heap.size w2 W → (W.cell? ⟨w.heap.size, 0, none⟩ = some (.int .i64 N) ∧ W.cell? ⟨w.heap.size, 1, none⟩ = some (.int .i64 S) ∧ W.cell? ⟨w.heap.size, 2, none⟩ = some (.int .i64 B) ∧ W.cell? ⟨w.heap.size, 3, none⟩ = some (.int .i64 P) ∧ W.cell? ⟨w.heap.size, 4, none⟩ = some (.int .i64 J) ∧ W.cell? ⟨w.heap.size, 5, none⟩ = some (.int .i64 L) ∧ W.cell? ⟨w.heap.size, 6, none⟩ = some (.int .i64 E) ∧ W.cell? ⟨w.heap.size, 7, none⟩ = some (.int .i64 T)) ∧ (W.cell? ⟨o, 0, none⟩ = some (.slice aS mS cS) ∧ W.cell? ⟨o, 1, none⟩ = some (.slice aH mH cH) ∧ W.cell? ⟨o, 2, none⟩ = some (.slice aQ mQ cQ)) ∧ (W.cell? (ad.add (k * 8)) = some (.int .i8 ck) ∧ W.cell? ⟨(ad.add (k * 8)).block, (ad.add (k * 8)).off + 1, none⟩ = some (.int .i64 cb) ∧ W.cell? ⟨(ad.add (k * 8)).block, (ad.add (k * 8)).off + 2, none⟩ = some (.int .i64 cs) ∧ W.cell? ⟨(ad.add (k * 8)).block, (ad.add (k * 8)).off + 3, none⟩ = some (.int .i64 cd) ∧ W.cell? ⟨(ad.add (k * 8)).block, (ad.add (k * 8)).off + 4, none⟩ = some (.int .i64 ca) ∧ W.cell? ⟨(ad.add (k * 8)).block, (ad.add (k * 8)).off + 5, none⟩ = some (.int .i64 cl) ∧ W.cell? ⟨(ad.add (k * 8)).block, (ad.add (k * 8)).off + 6, none⟩ = some (.int .i64 ch) ∧ W.cell? ⟨(ad.add (k * 8)).block, (ad.add (k * 8)).off + 7, none⟩ = some (.int .i8 cm)) := fun W h => ⟨tgeo_cells (pg2.below h pg2.lt), tcells (po2.below h po2.lt), hAd.out W (below_then hb2 h)⟩
                    have happ := tApply_any N S B P J L E T _ t ck cb cs cd ca cl ch cm w2.drew (hT2.below (Below.refl _ _).drew) hTL.out hkd.out ⟨_, hM.out⟩
                    obtain ⟨t', ht'⟩ : ∃ t', applyT B t ⟨ck, cb, cs, cd, ca, cl, ch, cm⟩ = t' := ⟨_, rfl⟩
                    rw [ht'] at HMA HAL happ
                    clear ht'
                    have hHeld := hkeep w2.drew ((Below.refl _ _).drew)
                    go_upto_region 8 with fail
                    refine wp_region_to (S := (fun W => (W.cell? ⟨w.heap.size, 0, none⟩ = some (.int .i64 N) ∧ W.cell? ⟨w.heap.size, 1, none⟩ = some (.int .i64 S) ∧ W.cell? ⟨w.heap.size, 2, none⟩ = some (.int .i64 B) ∧ W.cell? ⟨w.heap.size, 3, none⟩ = some (.int .i64 P) ∧ W.cell? ⟨w.heap.size, 4, none⟩ = some (.int .i64 J) ∧ W.cell? ⟨w.heap.size, 5, none⟩ = some (.int .i64 L) ∧ W.cell? ⟨w.heap.size, 6, none⟩ = some (.int .i64 E) ∧ W.cell? ⟨w.heap.size, 7, none⟩ = some (.int .i64 T)) ∧ (W.cell? ⟨o, 0, none⟩ = some (.slice aS mS cS) ∧ W.cell? ⟨o, 1, none⟩ = some (.slice aH mH cH) ∧ W.cell? ⟨o, 2, none⟩ = some (.slice aQ mQ cQ)) ∧ (W.cell? (ad.add (k * 8)) = some (.int .i8 ck) ∧ W.cell? ⟨(ad.add (k * 8)).block, (ad.add (k * 8)).off + 1, none⟩ = some (.int .i64 cb) ∧ W.cell? ⟨(ad.add (k * 8)).block, (ad.add (k * 8)).off + 2, none⟩ = some (.int .i64 cs) ∧ W.cell? ⟨(ad.add (k * 8)).block, (ad.add (k * 8)).off + 3, none⟩ = some (.int .i64 cd) ∧ W.cell? ⟨(ad.add (k * 8)).block, (ad.add (k * 8)).off + 4, none⟩ = some (.int .i64 ca) ∧ W.cell? ⟨(ad.add (k * 8)).block, (ad.add (k * 8)).off + 5, none⟩ = some (.int .i64 cl) ∧ W.cell? ⟨(ad.add (k * 8)).block, (ad.add (k * 8)).off + 6, none⟩ = some (.int .i64 ch) ∧ W.cell? ⟨(ad.add (k * 8)).block, (ad.add (k * 8)).off + 7, none⟩ = some (.int .i8 cm)))) 7 (by kernel_rfl) hHeld (fun _ => ?_)
                    refine wpAnyM_take (i := 0) (oi := ⟨some 54, _, _, _, _, _⟩) (v := ?_) rfl (by kernel_rfl) (by kernel_rfl) (by kernel_rfl) (fun _ _ _ h => h) (by decide) (by kernel_rfl) (by kernel_rfl) (Or.inl ⟨by rfl, ?_⟩) (fun _ => hHeld) ?_
                    rotate_left
                    focus (intro wq hSq; (try dsimp only at hSq); go_simp; try with_reducible rfl)
                    try simp only [Act.put, List.setIfInBounds_toArray, List.set_cons_zero, List.set_cons_succ]
                    refine wpAnyM_take (i := 1) (oi := ⟨some 55, _, _, _, _, _⟩) (v := ?_) rfl (by kernel_rfl) (by kernel_rfl) (by kernel_rfl) (fun _ _ _ h => h) (by decide) (by kernel_rfl) (by kernel_rfl) (Or.inl ⟨by rfl, ?_⟩) (fun _ => hHeld) ?_
                    rotate_left
                    focus (intro wq hSq; (try dsimp only at hSq); go_simp; try with_reducible rfl)
                    try simp only [Act.put, List.setIfInBounds_toArray, List.set_cons_zero, List.set_cons_succ]
                    refine wpAnyM_take (i := 2) (oi := ⟨some 56, _, _, _, _, _⟩) (v := ?_) rfl (by kernel_rfl) (by kernel_rfl) (by kernel_rfl) (fun _ _ _ h => h) (by decide) (by kernel_rfl) (by kernel_rfl) (Or.inl ⟨by rfl, ?_⟩) (fun _ => hHeld) ?_
                    rotate_left
                    focus (intro wq hSq; (try dsimp only at hSq); go_simp; try with_reducible rfl)
                    try simp only [Act.put, List.setIfInBounds_toArray, List.set_cons_zero, List.set_cons_succ]
                    refine wpAnyM_take (i := 3) (oi := ⟨some 57, _, _, _, _, _⟩) (v := ?_) rfl (by kernel_rfl) (by kernel_rfl) (by kernel_rfl) (fun _ _ _ h => h) (by decide) (by kernel_rfl) (by kernel_rfl) (Or.inl ⟨by rfl, ?_⟩) (fun _ => hHeld) ?_
                    rotate_left
                    focus (intro wq hSq; (try dsimp only at hSq); go_simp; try with_reducible rfl)
                    try simp only [Act.put, List.setIfInBounds_toArray, List.set_cons_zero, List.set_cons_succ]
                    refine wpAnyM_take (i := 4) (oi := ⟨some 58, _, _, _, _, _⟩) (v := ?_) rfl (by kernel_rfl) (by kernel_rfl) (by kernel_rfl) (fun _ _ _ h => h) (by decide) (by kernel_rfl) (by kernel_rfl) (Or.inl ⟨by rfl, ?_⟩) (fun _ => hHeld) ?_
                    rotate_left
                    focus (intro wq hSq; (try dsimp only at hSq); go_simp; try with_reducible rfl)
                    try simp only [Act.put, List.setIfInBounds_toArray, List.set_cons_zero, List.set_cons_succ]
                    refine wpAnyM_take (i := 5) (oi := ⟨some 59, _, _, _, _, _⟩) (v := ?_) rfl (by kernel_rfl) (by kernel_rfl) (by kernel_rfl) (fun _ _ _ h => h) (by decide) (by kernel_rfl) (by kernel_rfl) (Or.inl ⟨by rfl, ?_⟩) (fun _ => hHeld) ?_
                    rotate_left
                    focus (intro wq hSq; (try dsimp only at hSq); go_simp; try with_reducible rfl)
                    try simp only [Act.put, List.setIfInBounds_toArray, List.set_cons_zero, List.set_cons_succ]
                    refine wpAnyM_ready (rs := [6]) (by kernel_rfl) (by simp) ?_
                    refine AllReadyM.cons (o := ⟨some 60, _, _, _, _, _⟩) rfl (fun K hK => ?_) AllReadyM.nil
                    go_simp
                    refine happ.mono ?_
                    rintro e w3 ⟨v3, rfl, T3, hx3⟩
                    have hb3 : Below w2.heap.size w2 w3 := ((Below.refl _ _).drew).trans hx3
                    have hHeld3 := hkeep w3 hb3
                    obtain ⟨bS, dS, bH, dH, bQ, dQ, e3⟩ := T3.shape
                    subst e3
                    obtain ⟨nS, hnS⟩ : ∃ m, t'.sl.length = m := ⟨_, rfl⟩
                    obtain ⟨nH, hnH⟩ : ∃ m, t'.ho.length = m := ⟨_, rfl⟩
                    obtain ⟨nQ, hnQ⟩ : ∃ m, t'.qu.length = m := ⟨_, rfl⟩
                    have HNN := Lib.hid (And.intro hnH hnQ)
                    rw [hnS, hnH, hnQ] at T3 ⊢
                    clear happ hx3 hnS hnH hnQ
                    refine hK.out _ _ (fun _ => hHeld3) (fun _ => ?_)
                    clear hK K
                    try simp only [Act.put, List.setIfInBounds_toArray, List.set_cons_zero, List.set_cons_succ]
                    have po3 := po2.below hb3 po2.lt
                    have pg3 := pg2.below hb3 pg2.lt
                    have pz3 := pz2.below hb3 pz2.lt
                    obtain ⟨o0, o1, o2⟩ := tcells po3
                    have f0 := po3.free 0
                    have f1 := po3.free 1
                    have f2 := po3.free 2
                    have hlo := po3.lt
                    obtain ⟨W4, hW4⟩ : ∃ W, W = into3 w3 o (.slice bS nS dS) (.slice bH nH dH) (.slice bQ nQ dQ) := ⟨_, rfl⟩
                    have po4 := into3_self po3 (.slice bS nS dS) (.slice bH nH dH) (.slice bQ nQ dQ)
                    have T4 := into3_tab (B1 := bS) (m1 := nS) (d1 := dS) (B2 := bH) (m2 := nH) (d2 := dH) (B3 := bQ) (m3 := nQ) (d3 := dQ) po3 T3
                    have pg4 := into3_other pg3 (show w.heap.size ≠ o by omega) (.slice bS nS dS) (.slice bH nH dH) (.slice bQ nQ dQ)
                    have pz4 := into3_other pz3 (show w.heap.size + 1 ≠ o by omega) (.slice bS nS dS) (.slice bH nH dH) (.slice bQ nQ dQ)
                    have hb4 := into3_below (below_then hb2 hb3) (show w.heap.size ≤ o by omega) (.slice bS nS dS) (.slice bH nH dH) (.slice bQ nQ dQ)
                    rw [← hW4] at po4 T4 pg4 pz4 hb4
                    unfold into3 at hW4
                    clear hHeld hHeld3 hkeep po2 pg2 pz2 hb2 hb3 hT2 T3 po3 pg3 pz3
                    refine wpAnyM_ready (rs := [7]) (by kernel_rfl) (by simp) ?_
                    refine AllReadyM.cons (o := ⟨none, _, _, _, _, _⟩) rfl (fun K hK => ?_) AllReadyM.nil
                    go_simp
                    rw [← hW4]
                    refine hK.out _ _ (fun h => not_yet (by kernel_rfl) h) (fun _ => ?_)
                    clear hK K
                    try simp only [Act.put, List.setIfInBounds_toArray, List.set_cons_zero, List.set_cons_succ]
                    refine wpAnyM_done (by kernel_rfl) ?_ _
                    clear hW4 o0 o1 o2 f0 f1 f2 hlo
                    go_wp2_with fail
                    go_roundw
                    case rel => exact ⟨k + 1, t', _, _, _, _, _, _, _, _, _, by omega, by go_num, T4, po4, HMA, HNN, by have := HAL.out.1; omega, pg4, pz4, hb4⟩
                    case measure => simp [intOf]; omega
                · have hkn : k = n := by omega
                  clear hlt
                  obtain ⟨z0', z1', z2', z3', z4', z5', z6', z7'⟩ := cmd_cells pz
                  have happ := Lib.hid (tApply_any N S B P J L E T _ t zk zb zs zd za zl zh zm _ hT hTL.out (kind_may HZM.out) ⟨_, hM.out⟩)
                  have HQA : Hid (∀ (i k : Nat) (hi : i < t.qu.length) (hk : k < i), hasB (applyT B t ⟨zk, zb, zs, zd, za, zl, zh, zm⟩).ho t.qu[i] = true → hasB t.ho t.qu[i] = false → hasB (applyT B t ⟨zk, zb, zs, zd, za, zl, zh, zm⟩).qu (t.qu[k]'(by omega)) = true → sTog t.qu[i] (t.qu[k]'(by omega)) = true) := fun i k hi hk h1 h2 h3 => queue_apply hM.out HZM.out hi hk (hasB_iff.1 h1) (fun h => by rw [hasB_iff.2 h] at h2; cases h2) (hasB_iff.1 h3)
                  have HAL := Lib.hid (apply_len B t ⟨zk, zb, zs, zd, za, zl, zh, zm⟩)
                  obtain ⟨t', ht'⟩ : ∃ t', applyT B t ⟨zk, zb, zs, zd, za, zl, zh, zm⟩ = t' := ⟨_, rfl⟩
                  rw [ht'] at happ HQA HAL
                  clear ht'
                  go_wp2_with fail
                  refine happ.out.mono ?_
                  rintro e w3 ⟨v3, rfl, T3, hx3⟩
                  obtain ⟨bS, dS, bH, dH, bQ, dQ, e3⟩ := T3.shape
                  subst e3
                  obtain ⟨nS, hnS⟩ : ∃ m, t'.sl.length = m := ⟨_, rfl⟩
                  obtain ⟨nH, hnH⟩ : ∃ m, t'.ho.length = m := ⟨_, rfl⟩
                  obtain ⟨nQ, hnQ⟩ : ∃ m, t'.qu.length = m := ⟨_, rfl⟩
                  have HNN := Lib.hid (And.intro hnH hnQ)
                  rw [hnS, hnH, hnQ] at T3 ⊢
                  clear happ hnS hnH hnQ
                  have po3 := po.below hx3 hlo
                  have hb3 := below_then hb hx3
                  have hT3 := hT.below hx3
                  have pp := Blk.new w3 #[.slice bS nS dS, .slice bH nH dH, .slice bQ nQ dQ] 29
                  have bp := one_new w3 (.cells #[.slice bS nS dS, .slice bH nH dH, .slice bQ nQ dQ] 29)
                  have po4 := po3.below bp po3.lt
                  have hb4 := below_then hb3 bp
                  have hT4 := hT3.below bp
                  have T4 := T3.below bp
                  obtain ⟨op, hop⟩ : ∃ o, w3.heap.size = o := ⟨_, rfl⟩
                  clear hT hx3 po pg pz hb g0 g1 g2 g3 g4 g5 g6 g7 o0 o1 o2 hlg hlo hlz z0' z1' z2' z3' z4' z5' z6' z7' po3 hb3 hT3 T3 bp
                  go_upto_region 10 with fail
                  obtain ⟨V, hV⟩ : ∃ W, W = w3.alloc (.cells #[.slice bS nS dS, .slice bH nH dH, .slice bQ nQ dQ] 29) := ⟨_, rfl⟩
                  rw [← hV] at pp po4 hb4 hT4 T4 ⊢
                  rw [hop] at pp
                  clear hV hop
                  obtain ⟨vS, vH, vQ, ev, _, ⟨_, _, eH, lH, _⟩, ⟨_, _, eQ, lQ, _⟩⟩ := hT4
                  injection ev with ev
                  have ev := congrArg Array.toList ev
                  simp only [List.cons.injEq, and_true] at ev
                  obtain ⟨rfl, rfl, rfl⟩ := ev
                  injection eH with eH eH2 eH3
                  injection eQ with eQ eQ2 eQ3
                  subst eH eQ
                  clear eH2 eH3 eQ2 eQ3
                  obtain ⟨vS, vH, vQ, ev, _, ⟨_, _, eH, lH', _⟩, ⟨_, _, eQ, lQ', _⟩⟩ := T4
                  injection ev with ev
                  have ev := congrArg Array.toList ev
                  simp only [List.cons.injEq, and_true] at ev
                  obtain ⟨rfl, rfl, rfl⟩ := ev
                  injection eH with eH eH2 eH3
                  injection eQ with eQ eQ2 eQ3
                  subst eH eQ
                  clear eH2 eH3 eQ2 eQ3
                  rw [HLL.out.1] at lH
                  rw [HLL.out.2] at lQ
                  rw [HNN.out.1] at lH'
                  rw [HNN.out.2] at lQ'
                  have HH : Hid (∀ W, Below V.heap.size V W → LiesH W W.heap.size aH mH t.ho) := fun W h => lH.below h
                  have HQ : Hid (∀ W, Below V.heap.size V W → LiesH W W.heap.size aQ mQ t.qu) := fun W h => lQ.below h
                  have HH' : Hid (∀ W, Below V.heap.size V W → LiesH W W.heap.size bH nH t'.ho) := fun W h => lH'.below h
                  have HQ' : Hid (∀ W, Below V.heap.size V W → LiesH W W.heap.size bQ nQ t'.qu) := fun W h => lQ'.below h
                  have HM6 : Hid (mH ≤ 1000 ∧ mQ ≤ 1000 ∧ nH ≤ 1000 ∧ nQ ≤ 1000) := by
                    have h1 := HLL.out
                    have h2 := HNN.out
                    have h3 := HAL.out.1
                    have h4 := HN.out
                    exact ⟨by omega, by omega, by omega, by omega⟩
                  clear lH lQ lH' lQ'
                  go_wp2_with fail
                  go_loopw [10] (fun v wr => ∃ i : Nat, i ≤ mQ ∧ v = .int .i64 i ∧ Below V.heap.size V wr) (fun v _ => mQ - (intOf v).toNat)
                  case atStart => exact ⟨0, Nat.zero_le _, rfl, Below.refl _ _⟩
                  case round =>
                    obtain ⟨i, hi, rfl, hbr⟩ := hrel
                    have hiq : i ≤ 1000 := by have := HM6.out.2.1; omega
                    have pp1 := pp.below hbr pp.lt
                    have po1 := po4.below hbr po4.lt
                    obtain ⟨o0, o1, o2⟩ := tcells po1
                    obtain ⟨r0, r1, r2⟩ := tcells pp1
                    have hlo := po1.lt
                    have hlp := pp1.lt
                    by_cases hlt : i < mQ
                    · have hil : i < t.qu.length := by rw [HLL.out.2]; exact hlt
                      obtain ⟨ad, e1, had, _⟩ := hol_cells (HQ.out _ hbr) hlt hil
                      rename_i q0
                      clear q0
                      subst e1
                      obtain ⟨kx, lx, hx, mx, hxx⟩ : ∃ kx lx hx' mx, t.qu[i] = (⟨kx, ⟨lx, hx'⟩, mx⟩ : HoldM) := ⟨_, _, _, _, rfl⟩
                      have HX : Hid (∃ h : i < t.qu.length, t.qu[i] = (⟨kx, ⟨lx, hx⟩, mx⟩ : HoldM)) := ⟨hil, hxx⟩
                      have hAd : Hid (∀ W, Below V.heap.size V W → W.cell? (ad.add (i * 4)) = some (.int .i64 kx) ∧ W.cell? ⟨(ad.add (i * 4)).block, (ad.add (i * 4)).off + 1, none⟩ = some (.int .i64 lx) ∧ W.cell? ⟨(ad.add (i * 4)).block, (ad.add (i * 4)).off + 2, none⟩ = some (.int .i64 hx) ∧ W.cell? ⟨(ad.add (i * 4)).block, (ad.add (i * 4)).off + 3, none⟩ = some (.int .i8 mx)) := fun W hW => by
                        obtain ⟨ad', e1, _, q⟩ := hol_cells (HQ.out _ hW) hlt hil
                        injection e1 with e1
                        subst e1
                        rw [hxx] at q
                        exact q
                      clear hxx hil
                      obtain ⟨r1', hr1⟩ : ∃ r, Hid (hasB t'.ho ⟨kx, ⟨lx, hx⟩, mx⟩ = r) := ⟨_, rfl⟩
                      obtain ⟨r2', hr2⟩ : ∃ r, Hid (hasB t.ho ⟨kx, ⟨lx, hx⟩, mx⟩ = r) := ⟨_, rfl⟩
                      have hS : ∀ W, Below V.heap.size V W → (W.cell? ⟨o, 0, none⟩ = some (.slice aS mS cS) ∧ W.cell? ⟨o, 1, none⟩ = some (.slice aH mH cH) ∧ W.cell? ⟨o, 2, none⟩ = some (.slice (some ad) mQ cQ)) ∧ (W.cell? ⟨op, 0, none⟩ = some (.slice bS nS dS) ∧ W.cell? ⟨op, 1, none⟩ = some (.slice bH nH dH) ∧ W.cell? ⟨op, 2, none⟩ = some (.slice bQ nQ dQ)) ∧ (W.cell? (ad.add (i * 4)) = some (.int .i64 kx) ∧ W.cell? ⟨(ad.add (i * 4)).block, (ad.add (i * 4)).off + 1, none⟩ = some (.int .i64 lx) ∧ W.cell? ⟨(ad.add (i * 4)).block, (ad.add (i * 4)).off + 2, none⟩ = some (.int .i64 hx) ∧ W.cell? ⟨(ad.add (i * 4)).block, (ad.add (i * 4)).off + 3, none⟩ = some (.int .i8 mx)) ∧ Below V.heap.size V W := fun W h => ⟨tcells (po4.below h po4.lt), tcells (pp.below h pp.lt), hAd.out W h, h⟩
                      clear o0 o1 o2 r0 r1 r2
                      have hHas1 : ∀ c W, (W.cell? ⟨o, 0, none⟩ = some (.slice aS mS cS) ∧ W.cell? ⟨o, 1, none⟩ = some (.slice aH mH cH) ∧ W.cell? ⟨o, 2, none⟩ = some (.slice (some ad) mQ cQ)) ∧ (W.cell? ⟨op, 0, none⟩ = some (.slice bS nS dS) ∧ W.cell? ⟨op, 1, none⟩ = some (.slice bH nH dH) ∧ W.cell? ⟨op, 2, none⟩ = some (.slice bQ nQ dQ)) ∧ (W.cell? (ad.add (i * 4)) = some (.int .i64 kx) ∧ W.cell? ⟨(ad.add (i * 4)).block, (ad.add (i * 4)).off + 1, none⟩ = some (.int .i64 lx) ∧ W.cell? ⟨(ad.add (i * 4)).block, (ad.add (i * 4)).off + 2, none⟩ = some (.int .i64 hx) ∧ W.cell? ⟨(ad.add (i * 4)).block, (ad.add (i * 4)).off + 3, none⟩ = some (.int .i8 mx)) ∧ Below V.heap.size V W → Calls Try.prog 13 #[.slice bH nH c, .agg #[.int .i64 kx, .int .i64 lx, .int .i64 hx, .int .i8 mx]] W fun e W => e = .returned (.bool r1') ∧ (W.cell? ⟨o, 0, none⟩ = some (.slice aS mS cS) ∧ W.cell? ⟨o, 1, none⟩ = some (.slice aH mH cH) ∧ W.cell? ⟨o, 2, none⟩ = some (.slice (some ad) mQ cQ)) ∧ (W.cell? ⟨op, 0, none⟩ = some (.slice bS nS dS) ∧ W.cell? ⟨op, 1, none⟩ = some (.slice bH nH dH) ∧ W.cell? ⟨op, 2, none⟩ = some (.slice bQ nQ dQ)) ∧ (W.cell? (ad.add (i * 4)) = some (.int .i64 kx) ∧ W.cell? ⟨(ad.add (i * 4)).block, (ad.add (i * 4)).off + 1, none⟩ = some (.int .i64 lx) ∧ W.cell? ⟨(ad.add (i * 4)).block, (ad.add (i * 4)).off + 2, none⟩ = some (.int .i64 hx) ∧ W.cell? ⟨(ad.add (i * 4)).block, (ad.add (i * 4)).off + 3, none⟩ = some (.int .i8 mx)) ∧ Below V.heap.size V W := fun c W h => (has_law bH nH c t'.ho kx lx hx mx W (HH'.out W h.2.2.2) (by have := HM6.out; unfold maxLen; omega)).mono (by
                        rintro e w' ⟨rfl, hb⟩
                        exact ⟨by rw [hr1.out], hS _ (below_then h.2.2.2 hb)⟩)
                      have hHas2 : ∀ c W, (W.cell? ⟨o, 0, none⟩ = some (.slice aS mS cS) ∧ W.cell? ⟨o, 1, none⟩ = some (.slice aH mH cH) ∧ W.cell? ⟨o, 2, none⟩ = some (.slice (some ad) mQ cQ)) ∧ (W.cell? ⟨op, 0, none⟩ = some (.slice bS nS dS) ∧ W.cell? ⟨op, 1, none⟩ = some (.slice bH nH dH) ∧ W.cell? ⟨op, 2, none⟩ = some (.slice bQ nQ dQ)) ∧ (W.cell? (ad.add (i * 4)) = some (.int .i64 kx) ∧ W.cell? ⟨(ad.add (i * 4)).block, (ad.add (i * 4)).off + 1, none⟩ = some (.int .i64 lx) ∧ W.cell? ⟨(ad.add (i * 4)).block, (ad.add (i * 4)).off + 2, none⟩ = some (.int .i64 hx) ∧ W.cell? ⟨(ad.add (i * 4)).block, (ad.add (i * 4)).off + 3, none⟩ = some (.int .i8 mx)) ∧ Below V.heap.size V W → Calls Try.prog 13 #[.slice aH mH c, .agg #[.int .i64 kx, .int .i64 lx, .int .i64 hx, .int .i8 mx]] W fun e W => e = .returned (.bool r2') ∧ (W.cell? ⟨o, 0, none⟩ = some (.slice aS mS cS) ∧ W.cell? ⟨o, 1, none⟩ = some (.slice aH mH cH) ∧ W.cell? ⟨o, 2, none⟩ = some (.slice (some ad) mQ cQ)) ∧ (W.cell? ⟨op, 0, none⟩ = some (.slice bS nS dS) ∧ W.cell? ⟨op, 1, none⟩ = some (.slice bH nH dH) ∧ W.cell? ⟨op, 2, none⟩ = some (.slice bQ nQ dQ)) ∧ (W.cell? (ad.add (i * 4)) = some (.int .i64 kx) ∧ W.cell? ⟨(ad.add (i * 4)).block, (ad.add (i * 4)).off + 1, none⟩ = some (.int .i64 lx) ∧ W.cell? ⟨(ad.add (i * 4)).block, (ad.add (i * 4)).off + 2, none⟩ = some (.int .i64 hx) ∧ W.cell? ⟨(ad.add (i * 4)).block, (ad.add (i * 4)).off + 3, none⟩ = some (.int .i8 mx)) ∧ Below V.heap.size V W := fun c W h => (has_law aH mH c t.ho kx lx hx mx W (HH.out W h.2.2.2) (by have := HM6.out; unfold maxLen; omega)).mono (by
                        rintro e w' ⟨rfl, hb⟩
                        exact ⟨by rw [hr2.out], hS _ (below_then h.2.2.2 hb)⟩)
                      have hD := hS _ hbr.drew
                      obtain ⟨o0, o1, o2⟩ := tcells po1
                      obtain ⟨r0, r1, r2⟩ := tcells pp1
                      rcases r1' with _ | _
                      · go_upto_region 13 with fail
                        refine wp_region_held_drew (S := (fun W => (W.cell? ⟨o, 0, none⟩ = some (.slice aS mS cS) ∧ W.cell? ⟨o, 1, none⟩ = some (.slice aH mH cH) ∧ W.cell? ⟨o, 2, none⟩ = some (.slice (some ad) mQ cQ)) ∧ (W.cell? ⟨op, 0, none⟩ = some (.slice bS nS dS) ∧ W.cell? ⟨op, 1, none⟩ = some (.slice bH nH dH) ∧ W.cell? ⟨op, 2, none⟩ = some (.slice bQ nQ dQ)) ∧ (W.cell? (ad.add (i * 4)) = some (.int .i64 kx) ∧ W.cell? ⟨(ad.add (i * 4)).block, (ad.add (i * 4)).off + 1, none⟩ = some (.int .i64 lx) ∧ W.cell? ⟨(ad.add (i * 4)).block, (ad.add (i * 4)).off + 2, none⟩ = some (.int .i64 hx) ∧ W.cell? ⟨(ad.add (i * 4)).block, (ad.add (i * 4)).off + 3, none⟩ = some (.int .i8 mx)) ∧ Below V.heap.size V W)) (by kernel_rfl) ?_ (fun hHeld => ?_)
                        focus (exact hS _ hbr.drew)
                        refine wpAnyH_take (i := 0) (oi := ⟨some 72, _, _, _, _, _⟩) (v := ?_) rfl (by kernel_rfl) (by kernel_rfl) (by kernel_rfl) (fun _ _ _ h => h) (Or.inl ⟨by rfl, ?_⟩) (by assumption) ?_
                        rotate_left
                        focus (intro wq hSq; (try dsimp only at hSq); go_simp; try with_reducible rfl)
                        try simp only [Act.put, List.setIfInBounds_toArray, List.set_cons_zero, List.set_cons_succ]
                        refine wpAnyH_take (i := 1) (oi := ⟨some 73, _, _, _, _, _⟩) (v := ?_) rfl (by kernel_rfl) (by kernel_rfl) (by kernel_rfl) (fun _ _ _ h => h) (Or.inl ⟨by rfl, ?_⟩) (by assumption) ?_
                        rotate_left
                        focus (intro wq hSq; (try dsimp only at hSq); go_simp; try with_reducible rfl)
                        try simp only [Act.put, List.setIfInBounds_toArray, List.set_cons_zero, List.set_cons_succ]
                        refine wpAnyH_take (i := 2) (oi := ⟨some 74, _, _, _, _, _⟩) (v := ?_) rfl (by kernel_rfl) (by kernel_rfl) (by kernel_rfl) (fun _ _ _ h => h) (Or.inl ⟨by rfl, ?_⟩) (by assumption) ?_
                        rotate_left
                        focus (intro wq hSq; (try dsimp only at hSq); go_simp; try with_reducible rfl)
                        try simp only [Act.put, List.setIfInBounds_toArray, List.set_cons_zero, List.set_cons_succ]
                        refine wpAnyH_take (i := 3) (oi := ⟨some 75, _, _, _, _, _⟩) (v := ?_) rfl (by kernel_rfl) (by kernel_rfl) (by kernel_rfl) (fun _ _ _ h => h) (Or.inl ⟨by rfl, ?_⟩) (by assumption) ?_
                        rotate_left
                        focus (intro wq hSq; (try dsimp only at hSq); go_simp; try with_reducible rfl)
                        try simp only [Act.put, List.setIfInBounds_toArray, List.set_cons_zero, List.set_cons_succ]
                        refine wpAnyH_take (i := 4) (oi := ⟨some 76, _, _, _, _, _⟩) (v := ?_) rfl (by kernel_rfl) (by kernel_rfl) (by kernel_rfl) (fun _ _ _ h => h) (Or.inl ⟨by rfl, ?_⟩) (by assumption) ?_
                        rotate_left
                        focus (intro wq hSq; (try dsimp only at hSq); go_simp; try with_reducible rfl)
                        try simp only [Act.put, List.setIfInBounds_toArray, List.set_cons_zero, List.set_cons_succ]
                        refine wpAnyH_take (i := 5) (oi := ⟨some 77, _, _, _, _, _⟩) (v := ?_) rfl (by kernel_rfl) (by kernel_rfl) (by kernel_rfl) (fun _ _ _ h => h) (Or.inl ⟨by rfl, ?_⟩) (by assumption) ?_
                        rotate_left
                        focus (intro wq hSq; (try dsimp only at hSq); go_simp; try with_reducible rfl)
                        try simp only [Act.put, List.setIfInBounds_toArray, List.set_cons_zero, List.set_cons_succ]
                        refine wpAnyH_take (i := 6) (oi := ⟨some 78, _, _, _, _, _⟩) (v := ?_) rfl (by kernel_rfl) (by kernel_rfl) (by kernel_rfl) (fun _ _ _ h => h) (Or.inl ⟨by rfl, ?_⟩) (by assumption) ?_
                        rotate_left
                        focus (intro wq hSq; (try dsimp only at hSq); go_simp; try with_reducible rfl)
                        try simp only [Act.put, List.setIfInBounds_toArray, List.set_cons_zero, List.set_cons_succ]
                        refine wpAnyH_ready (rs := [7]) (by kernel_rfl) (by simp) ?_
                        refine AllReadyH.cons (o := ⟨some 79, _, _, _, _, _⟩) rfl (fun K hK => ?_) AllReadyH.nil
                        go_simp
                        go_at_call 13
                        first | (with_reducible refine (hHas1 _ _ ?_).mono ?_) | (with_reducible refine (hHas2 _ _ ?_).mono ?_)
                        assumption
                        rintro e W2 ⟨rfl, hN⟩
                        go_wp2_with fail
                        refine hK.out _ _ ?_ (fun hHeld => ?_)
                        focus (exact hN)
                        clear hK K
                        try simp only [Act.put, List.setIfInBounds_toArray, List.set_cons_zero, List.set_cons_succ]
                        refine wpAnyH_take (i := 8) (oi := ⟨some 80, _, _, _, _, _⟩) (v := ?_) rfl (by kernel_rfl) (by kernel_rfl) (by kernel_rfl) (fun _ _ _ h => h) (Or.inl ⟨by rfl, ?_⟩) (by assumption) ?_
                        rotate_left
                        focus (intro wq hSq; (try dsimp only at hSq); go_simp; try with_reducible rfl)
                        try simp only [Act.put, List.setIfInBounds_toArray, List.set_cons_zero, List.set_cons_succ]
                        refine wpAnyH_take (i := 9) (oi := ⟨some 81, _, _, _, _, _⟩) (v := ?_) rfl (by kernel_rfl) (by kernel_rfl) (by kernel_rfl) (fun _ _ _ h => h) (Or.inl ⟨by rfl, ?_⟩) (by assumption) ?_
                        rotate_left
                        focus (intro wq hSq; (try dsimp only at hSq); go_simp; try with_reducible rfl)
                        try simp only [Act.put, List.setIfInBounds_toArray, List.set_cons_zero, List.set_cons_succ]
                        refine wpAnyH_take (i := 10) (oi := ⟨some 82, _, _, _, _, _⟩) (v := undef) rfl (by kernel_rfl) (by kernel_rfl) (by kernel_rfl) (fun _ _ _ h => h) (Or.inr ⟨by rfl, rfl⟩) (by assumption) ?_
                        try simp only [Act.put, List.setIfInBounds_toArray, List.set_cons_zero, List.set_cons_succ]
                        refine wpAnyH_take (i := 11) (oi := ⟨some 83, _, _, _, _, _⟩) (v := undef) rfl (by kernel_rfl) (by kernel_rfl) (by kernel_rfl) (fun _ _ _ h => h) (Or.inr ⟨by rfl, rfl⟩) (by assumption) ?_
                        try simp only [Act.put, List.setIfInBounds_toArray, List.set_cons_zero, List.set_cons_succ]
                        refine wpAnyH_take (i := 12) (oi := ⟨some 84, _, _, _, _, _⟩) (v := undef) rfl (by kernel_rfl) (by kernel_rfl) (by kernel_rfl) (fun _ _ _ h => h) (Or.inr ⟨by rfl, rfl⟩) (by assumption) ?_
                        try simp only [Act.put, List.setIfInBounds_toArray, List.set_cons_zero, List.set_cons_succ]
                        refine wpAnyH_take (i := 13) (oi := ⟨some 85, _, _, _, _, _⟩) (v := undef) rfl (by kernel_rfl) (by kernel_rfl) (by kernel_rfl) (fun _ _ _ h => h) (Or.inr ⟨by rfl, rfl⟩) (by assumption) ?_
                        try simp only [Act.put, List.setIfInBounds_toArray, List.set_cons_zero, List.set_cons_succ]
                        refine wpAnyH_take (i := 14) (oi := ⟨some 86, _, _, _, _, _⟩) (v := undef) rfl (by kernel_rfl) (by kernel_rfl) (by kernel_rfl) (fun _ _ _ h => h) (Or.inr ⟨by rfl, rfl⟩) (by assumption) ?_
                        try simp only [Act.put, List.setIfInBounds_toArray, List.set_cons_zero, List.set_cons_succ]
                        refine wpAnyH_take (i := 15) (oi := ⟨some 87, _, _, _, _, _⟩) (v := undef) rfl (by kernel_rfl) (by kernel_rfl) (by kernel_rfl) (fun _ _ _ h => h) (Or.inr ⟨by rfl, rfl⟩) (by assumption) ?_
                        try simp only [Act.put, List.setIfInBounds_toArray, List.set_cons_zero, List.set_cons_succ]
                        refine wpAnyH_take (i := 16) (oi := ⟨some 88, _, _, _, _, _⟩) (v := undef) rfl (by kernel_rfl) (by kernel_rfl) (by kernel_rfl) (fun _ _ _ h => h) (Or.inr ⟨by rfl, rfl⟩) (by assumption) ?_
                        try simp only [Act.put, List.setIfInBounds_toArray, List.set_cons_zero, List.set_cons_succ]
                        refine wpAnyH_take (i := 17) (oi := ⟨some 89, _, _, _, _, _⟩) (v := undef) rfl (by kernel_rfl) (by kernel_rfl) (by kernel_rfl) (fun _ _ _ h => h) (Or.inr ⟨by rfl, rfl⟩) (by assumption) ?_
                        try simp only [Act.put, List.setIfInBounds_toArray, List.set_cons_zero, List.set_cons_succ]
                        refine wpAnyH_take (i := 18) (oi := ⟨some 90, _, _, _, _, _⟩) (v := ?_) rfl (by kernel_rfl) (by kernel_rfl) (by kernel_rfl) (fun _ _ _ h => h) (Or.inl ⟨by rfl, ?_⟩) (by assumption) ?_
                        rotate_left
                        focus (intro wq hSq; (try dsimp only at hSq); go_simp; try with_reducible rfl)
                        try simp only [Act.put, List.setIfInBounds_toArray, List.set_cons_zero, List.set_cons_succ]
                        refine wpAnyH_done (by kernel_rfl) ?_ _
                        go_wp2_with fail
                        go_roundw
                        case rel => exact ⟨i + 1, by omega, by go_num, hHeld.2.2.2⟩
                        case measure => simp [intOf]; omega
                      · rcases r2' with _ | _
                        · go_upto_region 13 with fail
                          refine wp_region_held_drew (S := (fun W => (W.cell? ⟨o, 0, none⟩ = some (.slice aS mS cS) ∧ W.cell? ⟨o, 1, none⟩ = some (.slice aH mH cH) ∧ W.cell? ⟨o, 2, none⟩ = some (.slice (some ad) mQ cQ)) ∧ (W.cell? ⟨op, 0, none⟩ = some (.slice bS nS dS) ∧ W.cell? ⟨op, 1, none⟩ = some (.slice bH nH dH) ∧ W.cell? ⟨op, 2, none⟩ = some (.slice bQ nQ dQ)) ∧ (W.cell? (ad.add (i * 4)) = some (.int .i64 kx) ∧ W.cell? ⟨(ad.add (i * 4)).block, (ad.add (i * 4)).off + 1, none⟩ = some (.int .i64 lx) ∧ W.cell? ⟨(ad.add (i * 4)).block, (ad.add (i * 4)).off + 2, none⟩ = some (.int .i64 hx) ∧ W.cell? ⟨(ad.add (i * 4)).block, (ad.add (i * 4)).off + 3, none⟩ = some (.int .i8 mx)) ∧ Below V.heap.size V W)) (by kernel_rfl) ?_ (fun hHeld => ?_)
                          focus (exact hS _ hbr.drew)
                          refine wpAnyH_take (i := 0) (oi := ⟨some 72, _, _, _, _, _⟩) (v := ?_) rfl (by kernel_rfl) (by kernel_rfl) (by kernel_rfl) (fun _ _ _ h => h) (Or.inl ⟨by rfl, ?_⟩) (by assumption) ?_
                          rotate_left
                          focus (intro wq hSq; (try dsimp only at hSq); go_simp; try with_reducible rfl)
                          try simp only [Act.put, List.setIfInBounds_toArray, List.set_cons_zero, List.set_cons_succ]
                          refine wpAnyH_take (i := 1) (oi := ⟨some 73, _, _, _, _, _⟩) (v := ?_) rfl (by kernel_rfl) (by kernel_rfl) (by kernel_rfl) (fun _ _ _ h => h) (Or.inl ⟨by rfl, ?_⟩) (by assumption) ?_
                          rotate_left
                          focus (intro wq hSq; (try dsimp only at hSq); go_simp; try with_reducible rfl)
                          try simp only [Act.put, List.setIfInBounds_toArray, List.set_cons_zero, List.set_cons_succ]
                          refine wpAnyH_take (i := 2) (oi := ⟨some 74, _, _, _, _, _⟩) (v := ?_) rfl (by kernel_rfl) (by kernel_rfl) (by kernel_rfl) (fun _ _ _ h => h) (Or.inl ⟨by rfl, ?_⟩) (by assumption) ?_
                          rotate_left
                          focus (intro wq hSq; (try dsimp only at hSq); go_simp; try with_reducible rfl)
                          try simp only [Act.put, List.setIfInBounds_toArray, List.set_cons_zero, List.set_cons_succ]
                          refine wpAnyH_take (i := 3) (oi := ⟨some 75, _, _, _, _, _⟩) (v := ?_) rfl (by kernel_rfl) (by kernel_rfl) (by kernel_rfl) (fun _ _ _ h => h) (Or.inl ⟨by rfl, ?_⟩) (by assumption) ?_
                          rotate_left
                          focus (intro wq hSq; (try dsimp only at hSq); go_simp; try with_reducible rfl)
                          try simp only [Act.put, List.setIfInBounds_toArray, List.set_cons_zero, List.set_cons_succ]
                          refine wpAnyH_take (i := 4) (oi := ⟨some 76, _, _, _, _, _⟩) (v := ?_) rfl (by kernel_rfl) (by kernel_rfl) (by kernel_rfl) (fun _ _ _ h => h) (Or.inl ⟨by rfl, ?_⟩) (by assumption) ?_
                          rotate_left
                          focus (intro wq hSq; (try dsimp only at hSq); go_simp; try with_reducible rfl)
                          try simp only [Act.put, List.setIfInBounds_toArray, List.set_cons_zero, List.set_cons_succ]
                          refine wpAnyH_take (i := 5) (oi := ⟨some 77, _, _, _, _, _⟩) (v := ?_) rfl (by kernel_rfl) (by kernel_rfl) (by kernel_rfl) (fun _ _ _ h => h) (Or.inl ⟨by rfl, ?_⟩) (by assumption) ?_
                          rotate_left
                          focus (intro wq hSq; (try dsimp only at hSq); go_simp; try with_reducible rfl)
                          try simp only [Act.put, List.setIfInBounds_toArray, List.set_cons_zero, List.set_cons_succ]
                          refine wpAnyH_take (i := 6) (oi := ⟨some 78, _, _, _, _, _⟩) (v := ?_) rfl (by kernel_rfl) (by kernel_rfl) (by kernel_rfl) (fun _ _ _ h => h) (Or.inl ⟨by rfl, ?_⟩) (by assumption) ?_
                          rotate_left
                          focus (intro wq hSq; (try dsimp only at hSq); go_simp; try with_reducible rfl)
                          try simp only [Act.put, List.setIfInBounds_toArray, List.set_cons_zero, List.set_cons_succ]
                          refine wpAnyH_ready (rs := [7]) (by kernel_rfl) (by simp) ?_
                          refine AllReadyH.cons (o := ⟨some 79, _, _, _, _, _⟩) rfl (fun K hK => ?_) AllReadyH.nil
                          go_simp
                          go_at_call 13
                          first | (with_reducible refine (hHas1 _ _ ?_).mono ?_) | (with_reducible refine (hHas2 _ _ ?_).mono ?_)
                          assumption
                          rintro e W2 ⟨rfl, hN⟩
                          go_wp2_with fail
                          refine hK.out _ _ ?_ (fun hHeld => ?_)
                          focus (exact hN)
                          clear hK K
                          try simp only [Act.put, List.setIfInBounds_toArray, List.set_cons_zero, List.set_cons_succ]
                          refine wpAnyH_take (i := 8) (oi := ⟨some 80, _, _, _, _, _⟩) (v := ?_) rfl (by kernel_rfl) (by kernel_rfl) (by kernel_rfl) (fun _ _ _ h => h) (Or.inl ⟨by rfl, ?_⟩) (by assumption) ?_
                          rotate_left
                          focus (intro wq hSq; (try dsimp only at hSq); go_simp; try with_reducible rfl)
                          try simp only [Act.put, List.setIfInBounds_toArray, List.set_cons_zero, List.set_cons_succ]
                          refine wpAnyH_take (i := 9) (oi := ⟨some 81, _, _, _, _, _⟩) (v := ?_) rfl (by kernel_rfl) (by kernel_rfl) (by kernel_rfl) (fun _ _ _ h => h) (Or.inl ⟨by rfl, ?_⟩) (by assumption) ?_
                          rotate_left
                          focus (intro wq hSq; (try dsimp only at hSq); go_simp; try with_reducible rfl)
                          try simp only [Act.put, List.setIfInBounds_toArray, List.set_cons_zero, List.set_cons_succ]
                          refine wpAnyH_take (i := 10) (oi := ⟨some 82, _, _, _, _, _⟩) (v := ?_) rfl (by kernel_rfl) (by kernel_rfl) (by kernel_rfl) (fun _ _ _ h => h) (Or.inl ⟨by rfl, ?_⟩) (by assumption) ?_
                          rotate_left
                          focus (intro wq hSq; (try dsimp only at hSq); go_simp; try with_reducible rfl)
                          try simp only [Act.put, List.setIfInBounds_toArray, List.set_cons_zero, List.set_cons_succ]
                          refine wpAnyH_take (i := 11) (oi := ⟨some 83, _, _, _, _, _⟩) (v := ?_) rfl (by kernel_rfl) (by kernel_rfl) (by kernel_rfl) (fun _ _ _ h => h) (Or.inl ⟨by rfl, ?_⟩) (by assumption) ?_
                          rotate_left
                          focus (intro wq hSq; (try dsimp only at hSq); go_simp; try with_reducible rfl)
                          try simp only [Act.put, List.setIfInBounds_toArray, List.set_cons_zero, List.set_cons_succ]
                          refine wpAnyH_take (i := 12) (oi := ⟨some 84, _, _, _, _, _⟩) (v := ?_) rfl (by kernel_rfl) (by kernel_rfl) (by kernel_rfl) (fun _ _ _ h => h) (Or.inl ⟨by rfl, ?_⟩) (by assumption) ?_
                          rotate_left
                          focus (intro wq hSq; (try dsimp only at hSq); go_simp; try with_reducible rfl)
                          try simp only [Act.put, List.setIfInBounds_toArray, List.set_cons_zero, List.set_cons_succ]
                          refine wpAnyH_take (i := 13) (oi := ⟨some 85, _, _, _, _, _⟩) (v := ?_) rfl (by kernel_rfl) (by kernel_rfl) (by kernel_rfl) (fun _ _ _ h => h) (Or.inl ⟨by rfl, ?_⟩) (by assumption) ?_
                          rotate_left
                          focus (intro wq hSq; (try dsimp only at hSq); go_simp; try with_reducible rfl)
                          try simp only [Act.put, List.setIfInBounds_toArray, List.set_cons_zero, List.set_cons_succ]
                          refine wpAnyH_take (i := 14) (oi := ⟨some 86, _, _, _, _, _⟩) (v := ?_) rfl (by kernel_rfl) (by kernel_rfl) (by kernel_rfl) (fun _ _ _ h => h) (Or.inl ⟨by rfl, ?_⟩) (by assumption) ?_
                          rotate_left
                          focus (intro wq hSq; (try dsimp only at hSq); go_simp; try with_reducible rfl)
                          try simp only [Act.put, List.setIfInBounds_toArray, List.set_cons_zero, List.set_cons_succ]
                          refine wpAnyH_take (i := 15) (oi := ⟨some 87, _, _, _, _, _⟩) (v := ?_) rfl (by kernel_rfl) (by kernel_rfl) (by kernel_rfl) (fun _ _ _ h => h) (Or.inl ⟨by rfl, ?_⟩) (by assumption) ?_
                          rotate_left
                          focus (intro wq hSq; (try dsimp only at hSq); go_simp; try with_reducible rfl)
                          try simp only [Act.put, List.setIfInBounds_toArray, List.set_cons_zero, List.set_cons_succ]
                          refine wpAnyH_take (i := 16) (oi := ⟨some 88, _, _, _, _, _⟩) (v := ?_) rfl (by kernel_rfl) (by kernel_rfl) (by kernel_rfl) (fun _ _ _ h => h) (Or.inl ⟨by rfl, ?_⟩) (by assumption) ?_
                          rotate_left
                          focus (intro wq hSq; (try dsimp only at hSq); go_simp; try with_reducible rfl)
                          try simp only [Act.put, List.setIfInBounds_toArray, List.set_cons_zero, List.set_cons_succ]
                          refine wpAnyH_ready (rs := [17]) (by kernel_rfl) (by simp) ?_
                          refine AllReadyH.cons (o := ⟨some 89, _, _, _, _, _⟩) rfl (fun K hK => ?_) AllReadyH.nil
                          go_simp
                          go_at_call 13
                          first | (with_reducible refine (hHas1 _ _ ?_).mono ?_) | (with_reducible refine (hHas2 _ _ ?_).mono ?_)
                          assumption
                          rintro e W2 ⟨rfl, hN⟩
                          go_wp2_with fail
                          refine hK.out _ _ ?_ (fun hHeld => ?_)
                          focus (exact hN)
                          clear hK K
                          try simp only [Act.put, List.setIfInBounds_toArray, List.set_cons_zero, List.set_cons_succ]
                          refine wpAnyH_take (i := 18) (oi := ⟨some 90, _, _, _, _, _⟩) (v := ?_) rfl (by kernel_rfl) (by kernel_rfl) (by kernel_rfl) (fun _ _ _ h => h) (Or.inl ⟨by rfl, ?_⟩) (by assumption) ?_
                          rotate_left
                          focus (intro wq hSq; (try dsimp only at hSq); go_simp; try with_reducible rfl)
                          try simp only [Act.put, List.setIfInBounds_toArray, List.set_cons_zero, List.set_cons_succ]
                          refine wpAnyH_done (by kernel_rfl) ?_ _
                          have hb3 := hHeld.2.2.2
                          clear hHas1 hHas2 hD hS hHeld pp1 po1 o0 o1 o2 r0 r1 r2 hlo hlp
                          go_wp2_with fail
                          go_loopw [11] (fun v wq => ∃ j : Nat, j ≤ i ∧ v = .int .i64 j ∧ Below V.heap.size V wq) (fun v _ => i - (intOf v).toNat)
                          case atStart => exact ⟨0, Nat.zero_le _, rfl, hb3⟩
                          case round =>
                            clear hb3
                            obtain ⟨j, hj, rfl, hbq⟩ := hrel
                            have hjq : j ≤ 1000 := by omega
                            have pp1 := pp.below hbq pp.lt
                            have po1 := po4.below hbq po4.lt
                            obtain ⟨o0, o1, o2⟩ := tcells po1
                            obtain ⟨r0, r1, r2⟩ := tcells pp1
                            have hlo := po1.lt
                            have hlp := pp1.lt
                            by_cases hjt : j < i
                            · have hjm : j < mQ := by omega
                              have hjl : j < t.qu.length := by rw [HLL.out.2]; omega
                              obtain ⟨ky, ly, hy, my, hyy⟩ : ∃ kx lx hx' mx, t.qu[j] = (⟨kx, ⟨lx, hx'⟩, mx⟩ : HoldM) := ⟨_, _, _, _, rfl⟩
                              have HY : Hid (∃ h : j < t.qu.length, t.qu[j] = (⟨ky, ⟨ly, hy⟩, my⟩ : HoldM)) := ⟨hjl, hyy⟩
                              have hAy : Hid (∀ W, Below V.heap.size V W → W.cell? (ad.add (j * 4)) = some (.int .i64 ky) ∧ W.cell? ⟨(ad.add (j * 4)).block, (ad.add (j * 4)).off + 1, none⟩ = some (.int .i64 ly) ∧ W.cell? ⟨(ad.add (j * 4)).block, (ad.add (j * 4)).off + 2, none⟩ = some (.int .i64 hy) ∧ W.cell? ⟨(ad.add (j * 4)).block, (ad.add (j * 4)).off + 3, none⟩ = some (.int .i8 my)) := fun W hW => by
                                obtain ⟨ad', e1, _, q⟩ := hol_cells (HQ.out _ hW) (show j < mQ by omega) hjl
                                injection e1 with e1
                                subst e1
                                rw [hyy] at q
                                exact q
                              clear hyy hjl
                              obtain ⟨r3', hr3⟩ : ∃ r, Hid (hasB t'.qu ⟨ky, ⟨ly, hy⟩, my⟩ = r) := ⟨_, rfl⟩
                              obtain ⟨r4', hr4⟩ : ∃ r, Hid (sTog ⟨kx, ⟨lx, hx⟩, mx⟩ ⟨ky, ⟨ly, hy⟩, my⟩ = r) := ⟨_, rfl⟩
                              have hS : ∀ W, Below V.heap.size V W → (W.cell? ⟨o, 0, none⟩ = some (.slice aS mS cS) ∧ W.cell? ⟨o, 1, none⟩ = some (.slice aH mH cH) ∧ W.cell? ⟨o, 2, none⟩ = some (.slice (some ad) mQ cQ)) ∧ (W.cell? ⟨op, 0, none⟩ = some (.slice bS nS dS) ∧ W.cell? ⟨op, 1, none⟩ = some (.slice bH nH dH) ∧ W.cell? ⟨op, 2, none⟩ = some (.slice bQ nQ dQ)) ∧ (W.cell? (ad.add (i * 4)) = some (.int .i64 kx) ∧ W.cell? ⟨(ad.add (i * 4)).block, (ad.add (i * 4)).off + 1, none⟩ = some (.int .i64 lx) ∧ W.cell? ⟨(ad.add (i * 4)).block, (ad.add (i * 4)).off + 2, none⟩ = some (.int .i64 hx) ∧ W.cell? ⟨(ad.add (i * 4)).block, (ad.add (i * 4)).off + 3, none⟩ = some (.int .i8 mx)) ∧ (W.cell? (ad.add (j * 4)) = some (.int .i64 ky) ∧ W.cell? ⟨(ad.add (j * 4)).block, (ad.add (j * 4)).off + 1, none⟩ = some (.int .i64 ly) ∧ W.cell? ⟨(ad.add (j * 4)).block, (ad.add (j * 4)).off + 2, none⟩ = some (.int .i64 hy) ∧ W.cell? ⟨(ad.add (j * 4)).block, (ad.add (j * 4)).off + 3, none⟩ = some (.int .i8 my)) ∧ Below V.heap.size V W := fun W h => ⟨tcells (po4.below h po4.lt), tcells (pp.below h pp.lt), hAd.out W h, hAy.out W h, h⟩
                              have hHas3 : ∀ c W, (W.cell? ⟨o, 0, none⟩ = some (.slice aS mS cS) ∧ W.cell? ⟨o, 1, none⟩ = some (.slice aH mH cH) ∧ W.cell? ⟨o, 2, none⟩ = some (.slice (some ad) mQ cQ)) ∧ (W.cell? ⟨op, 0, none⟩ = some (.slice bS nS dS) ∧ W.cell? ⟨op, 1, none⟩ = some (.slice bH nH dH) ∧ W.cell? ⟨op, 2, none⟩ = some (.slice bQ nQ dQ)) ∧ (W.cell? (ad.add (i * 4)) = some (.int .i64 kx) ∧ W.cell? ⟨(ad.add (i * 4)).block, (ad.add (i * 4)).off + 1, none⟩ = some (.int .i64 lx) ∧ W.cell? ⟨(ad.add (i * 4)).block, (ad.add (i * 4)).off + 2, none⟩ = some (.int .i64 hx) ∧ W.cell? ⟨(ad.add (i * 4)).block, (ad.add (i * 4)).off + 3, none⟩ = some (.int .i8 mx)) ∧ (W.cell? (ad.add (j * 4)) = some (.int .i64 ky) ∧ W.cell? ⟨(ad.add (j * 4)).block, (ad.add (j * 4)).off + 1, none⟩ = some (.int .i64 ly) ∧ W.cell? ⟨(ad.add (j * 4)).block, (ad.add (j * 4)).off + 2, none⟩ = some (.int .i64 hy) ∧ W.cell? ⟨(ad.add (j * 4)).block, (ad.add (j * 4)).off + 3, none⟩ = some (.int .i8 my)) ∧ Below V.heap.size V W → Calls Try.prog 13 #[.slice bQ nQ c, .agg #[.int .i64 ky, .int .i64 ly, .int .i64 hy, .int .i8 my]] W fun e W => e = .returned (.bool r3') ∧ (W.cell? ⟨o, 0, none⟩ = some (.slice aS mS cS) ∧ W.cell? ⟨o, 1, none⟩ = some (.slice aH mH cH) ∧ W.cell? ⟨o, 2, none⟩ = some (.slice (some ad) mQ cQ)) ∧ (W.cell? ⟨op, 0, none⟩ = some (.slice bS nS dS) ∧ W.cell? ⟨op, 1, none⟩ = some (.slice bH nH dH) ∧ W.cell? ⟨op, 2, none⟩ = some (.slice bQ nQ dQ)) ∧ (W.cell? (ad.add (i * 4)) = some (.int .i64 kx) ∧ W.cell? ⟨(ad.add (i * 4)).block, (ad.add (i * 4)).off + 1, none⟩ = some (.int .i64 lx) ∧ W.cell? ⟨(ad.add (i * 4)).block, (ad.add (i * 4)).off + 2, none⟩ = some (.int .i64 hx) ∧ W.cell? ⟨(ad.add (i * 4)).block, (ad.add (i * 4)).off + 3, none⟩ = some (.int .i8 mx)) ∧ (W.cell? (ad.add (j * 4)) = some (.int .i64 ky) ∧ W.cell? ⟨(ad.add (j * 4)).block, (ad.add (j * 4)).off + 1, none⟩ = some (.int .i64 ly) ∧ W.cell? ⟨(ad.add (j * 4)).block, (ad.add (j * 4)).off + 2, none⟩ = some (.int .i64 hy) ∧ W.cell? ⟨(ad.add (j * 4)).block, (ad.add (j * 4)).off + 3, none⟩ = some (.int .i8 my)) ∧ Below V.heap.size V W := fun c W h => (has_law bQ nQ c t'.qu ky ly hy my W (HQ'.out W h.2.2.2.2) (by have := HM6.out; unfold maxLen; omega)).mono (by
                                rintro e w' ⟨rfl, hb⟩
                                exact ⟨by rw [hr3.out], hS _ (below_then h.2.2.2.2 hb)⟩)
                              have hTog : ∀ W, (W.cell? ⟨o, 0, none⟩ = some (.slice aS mS cS) ∧ W.cell? ⟨o, 1, none⟩ = some (.slice aH mH cH) ∧ W.cell? ⟨o, 2, none⟩ = some (.slice (some ad) mQ cQ)) ∧ (W.cell? ⟨op, 0, none⟩ = some (.slice bS nS dS) ∧ W.cell? ⟨op, 1, none⟩ = some (.slice bH nH dH) ∧ W.cell? ⟨op, 2, none⟩ = some (.slice bQ nQ dQ)) ∧ (W.cell? (ad.add (i * 4)) = some (.int .i64 kx) ∧ W.cell? ⟨(ad.add (i * 4)).block, (ad.add (i * 4)).off + 1, none⟩ = some (.int .i64 lx) ∧ W.cell? ⟨(ad.add (i * 4)).block, (ad.add (i * 4)).off + 2, none⟩ = some (.int .i64 hx) ∧ W.cell? ⟨(ad.add (i * 4)).block, (ad.add (i * 4)).off + 3, none⟩ = some (.int .i8 mx)) ∧ (W.cell? (ad.add (j * 4)) = some (.int .i64 ky) ∧ W.cell? ⟨(ad.add (j * 4)).block, (ad.add (j * 4)).off + 1, none⟩ = some (.int .i64 ly) ∧ W.cell? ⟨(ad.add (j * 4)).block, (ad.add (j * 4)).off + 2, none⟩ = some (.int .i64 hy) ∧ W.cell? ⟨(ad.add (j * 4)).block, (ad.add (j * 4)).off + 3, none⟩ = some (.int .i8 my)) ∧ Below V.heap.size V W → Calls Try.prog 14 #[.agg #[.int .i64 kx, .int .i64 lx, .int .i64 hx, .int .i8 mx], .agg #[.int .i64 ky, .int .i64 ly, .int .i64 hy, .int .i8 my]] W fun e W => e = .returned (.bool r4') ∧ (W.cell? ⟨o, 0, none⟩ = some (.slice aS mS cS) ∧ W.cell? ⟨o, 1, none⟩ = some (.slice aH mH cH) ∧ W.cell? ⟨o, 2, none⟩ = some (.slice (some ad) mQ cQ)) ∧ (W.cell? ⟨op, 0, none⟩ = some (.slice bS nS dS) ∧ W.cell? ⟨op, 1, none⟩ = some (.slice bH nH dH) ∧ W.cell? ⟨op, 2, none⟩ = some (.slice bQ nQ dQ)) ∧ (W.cell? (ad.add (i * 4)) = some (.int .i64 kx) ∧ W.cell? ⟨(ad.add (i * 4)).block, (ad.add (i * 4)).off + 1, none⟩ = some (.int .i64 lx) ∧ W.cell? ⟨(ad.add (i * 4)).block, (ad.add (i * 4)).off + 2, none⟩ = some (.int .i64 hx) ∧ W.cell? ⟨(ad.add (i * 4)).block, (ad.add (i * 4)).off + 3, none⟩ = some (.int .i8 mx)) ∧ (W.cell? (ad.add (j * 4)) = some (.int .i64 ky) ∧ W.cell? ⟨(ad.add (j * 4)).block, (ad.add (j * 4)).off + 1, none⟩ = some (.int .i64 ly) ∧ W.cell? ⟨(ad.add (j * 4)).block, (ad.add (j * 4)).off + 2, none⟩ = some (.int .i64 hy) ∧ W.cell? ⟨(ad.add (j * 4)).block, (ad.add (j * 4)).off + 3, none⟩ = some (.int .i8 my)) ∧ Below V.heap.size V W := fun W h => (refTogether_any kx lx hx mx ky ly hy my W).mono (by
                                rintro e w' ⟨rfl, hb⟩
                                exact ⟨by rw [hr4.out], hS _ (below_then h.2.2.2.2 hb)⟩)
                              have hD := hS _ hbq.drew
                              rcases r3' with _ | _
                              · go_upto_region 17 with fail
                                refine wp_region_held_drew (S := (fun W => (W.cell? ⟨o, 0, none⟩ = some (.slice aS mS cS) ∧ W.cell? ⟨o, 1, none⟩ = some (.slice aH mH cH) ∧ W.cell? ⟨o, 2, none⟩ = some (.slice (some ad) mQ cQ)) ∧ (W.cell? ⟨op, 0, none⟩ = some (.slice bS nS dS) ∧ W.cell? ⟨op, 1, none⟩ = some (.slice bH nH dH) ∧ W.cell? ⟨op, 2, none⟩ = some (.slice bQ nQ dQ)) ∧ (W.cell? (ad.add (i * 4)) = some (.int .i64 kx) ∧ W.cell? ⟨(ad.add (i * 4)).block, (ad.add (i * 4)).off + 1, none⟩ = some (.int .i64 lx) ∧ W.cell? ⟨(ad.add (i * 4)).block, (ad.add (i * 4)).off + 2, none⟩ = some (.int .i64 hx) ∧ W.cell? ⟨(ad.add (i * 4)).block, (ad.add (i * 4)).off + 3, none⟩ = some (.int .i8 mx)) ∧ (W.cell? (ad.add (j * 4)) = some (.int .i64 ky) ∧ W.cell? ⟨(ad.add (j * 4)).block, (ad.add (j * 4)).off + 1, none⟩ = some (.int .i64 ly) ∧ W.cell? ⟨(ad.add (j * 4)).block, (ad.add (j * 4)).off + 2, none⟩ = some (.int .i64 hy) ∧ W.cell? ⟨(ad.add (j * 4)).block, (ad.add (j * 4)).off + 3, none⟩ = some (.int .i8 my)) ∧ Below V.heap.size V W)) (by kernel_rfl) ?_ (fun hHeld => ?_)
                                focus (exact hS _ hbq.drew)
                                refine wpAnyH_take (i := 0) (oi := ⟨some 96, _, _, _, _, _⟩) (v := ?_) rfl (by kernel_rfl) (by kernel_rfl) (by kernel_rfl) (fun _ _ _ h => h) (Or.inl ⟨by rfl, ?_⟩) (by assumption) ?_
                                rotate_left
                                focus (intro wq hSq; (try dsimp only at hSq); go_simp; try with_reducible rfl)
                                try simp only [Act.put, List.setIfInBounds_toArray, List.set_cons_zero, List.set_cons_succ]
                                refine wpAnyH_take (i := 1) (oi := ⟨some 97, _, _, _, _, _⟩) (v := ?_) rfl (by kernel_rfl) (by kernel_rfl) (by kernel_rfl) (fun _ _ _ h => h) (Or.inl ⟨by rfl, ?_⟩) (by assumption) ?_
                                rotate_left
                                focus (intro wq hSq; (try dsimp only at hSq); go_simp; try with_reducible rfl)
                                try simp only [Act.put, List.setIfInBounds_toArray, List.set_cons_zero, List.set_cons_succ]
                                refine wpAnyH_take (i := 2) (oi := ⟨some 98, _, _, _, _, _⟩) (v := ?_) rfl (by kernel_rfl) (by kernel_rfl) (by kernel_rfl) (fun _ _ _ h => h) (Or.inl ⟨by rfl, ?_⟩) (by assumption) ?_
                                rotate_left
                                focus (intro wq hSq; (try dsimp only at hSq); go_simp; try with_reducible rfl)
                                try simp only [Act.put, List.setIfInBounds_toArray, List.set_cons_zero, List.set_cons_succ]
                                refine wpAnyH_take (i := 3) (oi := ⟨some 99, _, _, _, _, _⟩) (v := ?_) rfl (by kernel_rfl) (by kernel_rfl) (by kernel_rfl) (fun _ _ _ h => h) (Or.inl ⟨by rfl, ?_⟩) (by assumption) ?_
                                rotate_left
                                focus (intro wq hSq; (try dsimp only at hSq); go_simp; try with_reducible rfl)
                                try simp only [Act.put, List.setIfInBounds_toArray, List.set_cons_zero, List.set_cons_succ]
                                refine wpAnyH_take (i := 4) (oi := ⟨some 100, _, _, _, _, _⟩) (v := ?_) rfl (by kernel_rfl) (by kernel_rfl) (by kernel_rfl) (fun _ _ _ h => h) (Or.inl ⟨by rfl, ?_⟩) (by assumption) ?_
                                rotate_left
                                focus (intro wq hSq; (try dsimp only at hSq); go_simp; try with_reducible rfl)
                                try simp only [Act.put, List.setIfInBounds_toArray, List.set_cons_zero, List.set_cons_succ]
                                refine wpAnyH_take (i := 5) (oi := ⟨some 101, _, _, _, _, _⟩) (v := ?_) rfl (by kernel_rfl) (by kernel_rfl) (by kernel_rfl) (fun _ _ _ h => h) (Or.inl ⟨by rfl, ?_⟩) (by assumption) ?_
                                rotate_left
                                focus (intro wq hSq; (try dsimp only at hSq); go_simp; try with_reducible rfl)
                                try simp only [Act.put, List.setIfInBounds_toArray, List.set_cons_zero, List.set_cons_succ]
                                refine wpAnyH_take (i := 6) (oi := ⟨some 102, _, _, _, _, _⟩) (v := ?_) rfl (by kernel_rfl) (by kernel_rfl) (by kernel_rfl) (fun _ _ _ h => h) (Or.inl ⟨by rfl, ?_⟩) (by assumption) ?_
                                rotate_left
                                focus (intro wq hSq; (try dsimp only at hSq); go_simp; try with_reducible rfl)
                                try simp only [Act.put, List.setIfInBounds_toArray, List.set_cons_zero, List.set_cons_succ]
                                refine wpAnyH_ready (rs := [7]) (by kernel_rfl) (by simp) ?_
                                refine AllReadyH.cons (o := ⟨some 103, _, _, _, _, _⟩) rfl (fun K hK => ?_) AllReadyH.nil
                                go_simp
                                go_at_call 13
                                (with_reducible refine (hHas3 _ _ ?_).mono ?_)
                                assumption
                                rintro e W2 ⟨rfl, hN⟩
                                go_wp2_with fail
                                refine hK.out _ _ ?_ (fun hHeld => ?_)
                                focus (exact hN)
                                clear hK K
                                try simp only [Act.put, List.setIfInBounds_toArray, List.set_cons_zero, List.set_cons_succ]
                                refine wpAnyH_take (i := 8) (oi := ⟨some 104, _, _, _, _, _⟩) (v := ?_) rfl (by kernel_rfl) (by kernel_rfl) (by kernel_rfl) (fun _ _ _ h => h) (Or.inl ⟨by rfl, ?_⟩) (by assumption) ?_
                                rotate_left
                                focus (intro wq hSq; (try dsimp only at hSq); go_simp; try with_reducible rfl)
                                try simp only [Act.put, List.setIfInBounds_toArray, List.set_cons_zero, List.set_cons_succ]
                                refine wpAnyH_take (i := 9) (oi := ⟨some 105, _, _, _, _, _⟩) (v := undef) rfl (by kernel_rfl) (by kernel_rfl) (by kernel_rfl) (fun _ _ _ h => h) (Or.inr ⟨by rfl, rfl⟩) (by assumption) ?_
                                try simp only [Act.put, List.setIfInBounds_toArray, List.set_cons_zero, List.set_cons_succ]
                                refine wpAnyH_take (i := 10) (oi := ⟨some 106, _, _, _, _, _⟩) (v := undef) rfl (by kernel_rfl) (by kernel_rfl) (by kernel_rfl) (fun _ _ _ h => h) (Or.inr ⟨by rfl, rfl⟩) (by assumption) ?_
                                try simp only [Act.put, List.setIfInBounds_toArray, List.set_cons_zero, List.set_cons_succ]
                                refine wpAnyH_take (i := 11) (oi := ⟨some 107, _, _, _, _, _⟩) (v := undef) rfl (by kernel_rfl) (by kernel_rfl) (by kernel_rfl) (fun _ _ _ h => h) (Or.inr ⟨by rfl, rfl⟩) (by assumption) ?_
                                try simp only [Act.put, List.setIfInBounds_toArray, List.set_cons_zero, List.set_cons_succ]
                                refine wpAnyH_take (i := 12) (oi := ⟨some 108, _, _, _, _, _⟩) (v := undef) rfl (by kernel_rfl) (by kernel_rfl) (by kernel_rfl) (fun _ _ _ h => h) (Or.inr ⟨by rfl, rfl⟩) (by assumption) ?_
                                try simp only [Act.put, List.setIfInBounds_toArray, List.set_cons_zero, List.set_cons_succ]
                                refine wpAnyH_take (i := 13) (oi := ⟨some 109, _, _, _, _, _⟩) (v := undef) rfl (by kernel_rfl) (by kernel_rfl) (by kernel_rfl) (fun _ _ _ h => h) (Or.inr ⟨by rfl, rfl⟩) (by assumption) ?_
                                try simp only [Act.put, List.setIfInBounds_toArray, List.set_cons_zero, List.set_cons_succ]
                                refine wpAnyH_take (i := 14) (oi := ⟨some 110, _, _, _, _, _⟩) (v := undef) rfl (by kernel_rfl) (by kernel_rfl) (by kernel_rfl) (fun _ _ _ h => h) (Or.inr ⟨by rfl, rfl⟩) (by assumption) ?_
                                try simp only [Act.put, List.setIfInBounds_toArray, List.set_cons_zero, List.set_cons_succ]
                                refine wpAnyH_take (i := 15) (oi := ⟨some 111, _, _, _, _, _⟩) (v := undef) rfl (by kernel_rfl) (by kernel_rfl) (by kernel_rfl) (fun _ _ _ h => h) (Or.inr ⟨by rfl, rfl⟩) (by assumption) ?_
                                try simp only [Act.put, List.setIfInBounds_toArray, List.set_cons_zero, List.set_cons_succ]
                                refine wpAnyH_take (i := 16) (oi := ⟨some 112, _, _, _, _, _⟩) (v := undef) rfl (by kernel_rfl) (by kernel_rfl) (by kernel_rfl) (fun _ _ _ h => h) (Or.inr ⟨by rfl, rfl⟩) (by assumption) ?_
                                try simp only [Act.put, List.setIfInBounds_toArray, List.set_cons_zero, List.set_cons_succ]
                                refine wpAnyH_take (i := 17) (oi := ⟨some 113, _, _, _, _, _⟩) (v := undef) rfl (by kernel_rfl) (by kernel_rfl) (by kernel_rfl) (fun _ _ _ h => h) (Or.inr ⟨by rfl, rfl⟩) (by assumption) ?_
                                try simp only [Act.put, List.setIfInBounds_toArray, List.set_cons_zero, List.set_cons_succ]
                                refine wpAnyH_take (i := 18) (oi := ⟨some 114, _, _, _, _, _⟩) (v := undef) rfl (by kernel_rfl) (by kernel_rfl) (by kernel_rfl) (fun _ _ _ h => h) (Or.inr ⟨by rfl, rfl⟩) (by assumption) ?_
                                try simp only [Act.put, List.setIfInBounds_toArray, List.set_cons_zero, List.set_cons_succ]
                                refine wpAnyH_take (i := 19) (oi := ⟨some 115, _, _, _, _, _⟩) (v := undef) rfl (by kernel_rfl) (by kernel_rfl) (by kernel_rfl) (fun _ _ _ h => h) (Or.inr ⟨by rfl, rfl⟩) (by assumption) ?_
                                try simp only [Act.put, List.setIfInBounds_toArray, List.set_cons_zero, List.set_cons_succ]
                                refine wpAnyH_take (i := 20) (oi := ⟨some 116, _, _, _, _, _⟩) (v := undef) rfl (by kernel_rfl) (by kernel_rfl) (by kernel_rfl) (fun _ _ _ h => h) (Or.inr ⟨by rfl, rfl⟩) (by assumption) ?_
                                try simp only [Act.put, List.setIfInBounds_toArray, List.set_cons_zero, List.set_cons_succ]
                                refine wpAnyH_take (i := 21) (oi := ⟨some 117, _, _, _, _, _⟩) (v := ?_) rfl (by kernel_rfl) (by kernel_rfl) (by kernel_rfl) (fun _ _ _ h => h) (Or.inl ⟨by rfl, ?_⟩) (by assumption) ?_
                                rotate_left
                                focus (intro wq hSq; (try dsimp only at hSq); go_simp; try with_reducible rfl)
                                try simp only [Act.put, List.setIfInBounds_toArray, List.set_cons_zero, List.set_cons_succ]
                                refine wpAnyH_done (by kernel_rfl) ?_ _
                                go_wp2_with fail
                                go_roundw
                                case rel => exact ⟨j + 1, by omega, by go_num, hHeld.2.2.2.2⟩
                                case measure => simp [intOf]; omega
                              · have e4 : r4' = true := by
                                  rw [← hr4.out]
                                  have h := HQA.out i j HX.out.1 hjt (by rw [HX.out.2]; exact hr1.out) (by rw [HX.out.2]; exact hr2.out) (by rw [HY.out.2]; exact hr3.out)
                                  rwa [HX.out.2, HY.out.2] at h
                                subst e4
                                go_upto_region 17 with fail
                                refine wp_region_held_drew (S := (fun W => (W.cell? ⟨o, 0, none⟩ = some (.slice aS mS cS) ∧ W.cell? ⟨o, 1, none⟩ = some (.slice aH mH cH) ∧ W.cell? ⟨o, 2, none⟩ = some (.slice (some ad) mQ cQ)) ∧ (W.cell? ⟨op, 0, none⟩ = some (.slice bS nS dS) ∧ W.cell? ⟨op, 1, none⟩ = some (.slice bH nH dH) ∧ W.cell? ⟨op, 2, none⟩ = some (.slice bQ nQ dQ)) ∧ (W.cell? (ad.add (i * 4)) = some (.int .i64 kx) ∧ W.cell? ⟨(ad.add (i * 4)).block, (ad.add (i * 4)).off + 1, none⟩ = some (.int .i64 lx) ∧ W.cell? ⟨(ad.add (i * 4)).block, (ad.add (i * 4)).off + 2, none⟩ = some (.int .i64 hx) ∧ W.cell? ⟨(ad.add (i * 4)).block, (ad.add (i * 4)).off + 3, none⟩ = some (.int .i8 mx)) ∧ (W.cell? (ad.add (j * 4)) = some (.int .i64 ky) ∧ W.cell? ⟨(ad.add (j * 4)).block, (ad.add (j * 4)).off + 1, none⟩ = some (.int .i64 ly) ∧ W.cell? ⟨(ad.add (j * 4)).block, (ad.add (j * 4)).off + 2, none⟩ = some (.int .i64 hy) ∧ W.cell? ⟨(ad.add (j * 4)).block, (ad.add (j * 4)).off + 3, none⟩ = some (.int .i8 my)) ∧ Below V.heap.size V W)) (by kernel_rfl) ?_ (fun hHeld => ?_)
                                focus (exact hS _ hbq.drew)
                                refine wpAnyH_take (i := 0) (oi := ⟨some 96, _, _, _, _, _⟩) (v := ?_) rfl (by kernel_rfl) (by kernel_rfl) (by kernel_rfl) (fun _ _ _ h => h) (Or.inl ⟨by rfl, ?_⟩) (by assumption) ?_
                                rotate_left
                                focus (intro wq hSq; (try dsimp only at hSq); go_simp; try with_reducible rfl)
                                try simp only [Act.put, List.setIfInBounds_toArray, List.set_cons_zero, List.set_cons_succ]
                                refine wpAnyH_take (i := 1) (oi := ⟨some 97, _, _, _, _, _⟩) (v := ?_) rfl (by kernel_rfl) (by kernel_rfl) (by kernel_rfl) (fun _ _ _ h => h) (Or.inl ⟨by rfl, ?_⟩) (by assumption) ?_
                                rotate_left
                                focus (intro wq hSq; (try dsimp only at hSq); go_simp; try with_reducible rfl)
                                try simp only [Act.put, List.setIfInBounds_toArray, List.set_cons_zero, List.set_cons_succ]
                                refine wpAnyH_take (i := 2) (oi := ⟨some 98, _, _, _, _, _⟩) (v := ?_) rfl (by kernel_rfl) (by kernel_rfl) (by kernel_rfl) (fun _ _ _ h => h) (Or.inl ⟨by rfl, ?_⟩) (by assumption) ?_
                                rotate_left
                                focus (intro wq hSq; (try dsimp only at hSq); go_simp; try with_reducible rfl)
                                try simp only [Act.put, List.setIfInBounds_toArray, List.set_cons_zero, List.set_cons_succ]
                                refine wpAnyH_take (i := 3) (oi := ⟨some 99, _, _, _, _, _⟩) (v := ?_) rfl (by kernel_rfl) (by kernel_rfl) (by kernel_rfl) (fun _ _ _ h => h) (Or.inl ⟨by rfl, ?_⟩) (by assumption) ?_
                                rotate_left
                                focus (intro wq hSq; (try dsimp only at hSq); go_simp; try with_reducible rfl)
                                try simp only [Act.put, List.setIfInBounds_toArray, List.set_cons_zero, List.set_cons_succ]
                                refine wpAnyH_take (i := 4) (oi := ⟨some 100, _, _, _, _, _⟩) (v := ?_) rfl (by kernel_rfl) (by kernel_rfl) (by kernel_rfl) (fun _ _ _ h => h) (Or.inl ⟨by rfl, ?_⟩) (by assumption) ?_
                                rotate_left
                                focus (intro wq hSq; (try dsimp only at hSq); go_simp; try with_reducible rfl)
                                try simp only [Act.put, List.setIfInBounds_toArray, List.set_cons_zero, List.set_cons_succ]
                                refine wpAnyH_take (i := 5) (oi := ⟨some 101, _, _, _, _, _⟩) (v := ?_) rfl (by kernel_rfl) (by kernel_rfl) (by kernel_rfl) (fun _ _ _ h => h) (Or.inl ⟨by rfl, ?_⟩) (by assumption) ?_
                                rotate_left
                                focus (intro wq hSq; (try dsimp only at hSq); go_simp; try with_reducible rfl)
                                try simp only [Act.put, List.setIfInBounds_toArray, List.set_cons_zero, List.set_cons_succ]
                                refine wpAnyH_take (i := 6) (oi := ⟨some 102, _, _, _, _, _⟩) (v := ?_) rfl (by kernel_rfl) (by kernel_rfl) (by kernel_rfl) (fun _ _ _ h => h) (Or.inl ⟨by rfl, ?_⟩) (by assumption) ?_
                                rotate_left
                                focus (intro wq hSq; (try dsimp only at hSq); go_simp; try with_reducible rfl)
                                try simp only [Act.put, List.setIfInBounds_toArray, List.set_cons_zero, List.set_cons_succ]
                                refine wpAnyH_ready (rs := [7]) (by kernel_rfl) (by simp) ?_
                                refine AllReadyH.cons (o := ⟨some 103, _, _, _, _, _⟩) rfl (fun K hK => ?_) AllReadyH.nil
                                go_simp
                                go_at_call 13
                                (with_reducible refine (hHas3 _ _ ?_).mono ?_)
                                assumption
                                rintro e W2 ⟨rfl, hN⟩
                                go_wp2_with fail
                                refine hK.out _ _ ?_ (fun hHeld => ?_)
                                focus (exact hN)
                                clear hK K
                                try simp only [Act.put, List.setIfInBounds_toArray, List.set_cons_zero, List.set_cons_succ]
                                refine wpAnyH_take (i := 8) (oi := ⟨some 104, _, _, _, _, _⟩) (v := ?_) rfl (by kernel_rfl) (by kernel_rfl) (by kernel_rfl) (fun _ _ _ h => h) (Or.inl ⟨by rfl, ?_⟩) (by assumption) ?_
                                rotate_left
                                focus (intro wq hSq; (try dsimp only at hSq); go_simp; try with_reducible rfl)
                                try simp only [Act.put, List.setIfInBounds_toArray, List.set_cons_zero, List.set_cons_succ]
                                refine wpAnyH_take (i := 9) (oi := ⟨some 105, _, _, _, _, _⟩) (v := ?_) rfl (by kernel_rfl) (by kernel_rfl) (by kernel_rfl) (fun _ _ _ h => h) (Or.inl ⟨by rfl, ?_⟩) (by assumption) ?_
                                rotate_left
                                focus (intro wq hSq; (try dsimp only at hSq); go_simp; try with_reducible rfl)
                                try simp only [Act.put, List.setIfInBounds_toArray, List.set_cons_zero, List.set_cons_succ]
                                refine wpAnyH_take (i := 10) (oi := ⟨some 106, _, _, _, _, _⟩) (v := ?_) rfl (by kernel_rfl) (by kernel_rfl) (by kernel_rfl) (fun _ _ _ h => h) (Or.inl ⟨by rfl, ?_⟩) (by assumption) ?_
                                rotate_left
                                focus (intro wq hSq; (try dsimp only at hSq); go_simp; try with_reducible rfl)
                                try simp only [Act.put, List.setIfInBounds_toArray, List.set_cons_zero, List.set_cons_succ]
                                refine wpAnyH_take (i := 11) (oi := ⟨some 107, _, _, _, _, _⟩) (v := ?_) rfl (by kernel_rfl) (by kernel_rfl) (by kernel_rfl) (fun _ _ _ h => h) (Or.inl ⟨by rfl, ?_⟩) (by assumption) ?_
                                rotate_left
                                focus (intro wq hSq; (try dsimp only at hSq); go_simp; try with_reducible rfl)
                                try simp only [Act.put, List.setIfInBounds_toArray, List.set_cons_zero, List.set_cons_succ]
                                refine wpAnyH_take (i := 12) (oi := ⟨some 108, _, _, _, _, _⟩) (v := ?_) rfl (by kernel_rfl) (by kernel_rfl) (by kernel_rfl) (fun _ _ _ h => h) (Or.inl ⟨by rfl, ?_⟩) (by assumption) ?_
                                rotate_left
                                focus (intro wq hSq; (try dsimp only at hSq); go_simp; try with_reducible rfl)
                                try simp only [Act.put, List.setIfInBounds_toArray, List.set_cons_zero, List.set_cons_succ]
                                refine wpAnyH_take (i := 13) (oi := ⟨some 109, _, _, _, _, _⟩) (v := ?_) rfl (by kernel_rfl) (by kernel_rfl) (by kernel_rfl) (fun _ _ _ h => h) (Or.inl ⟨by rfl, ?_⟩) (by assumption) ?_
                                rotate_left
                                focus (intro wq hSq; (try dsimp only at hSq); go_simp; try with_reducible rfl)
                                try simp only [Act.put, List.setIfInBounds_toArray, List.set_cons_zero, List.set_cons_succ]
                                refine wpAnyH_take (i := 14) (oi := ⟨some 110, _, _, _, _, _⟩) (v := ?_) rfl (by kernel_rfl) (by kernel_rfl) (by kernel_rfl) (fun _ _ _ h => h) (Or.inl ⟨by rfl, ?_⟩) (by assumption) ?_
                                rotate_left
                                focus (intro wq hSq; (try dsimp only at hSq); go_simp; try with_reducible rfl)
                                try simp only [Act.put, List.setIfInBounds_toArray, List.set_cons_zero, List.set_cons_succ]
                                refine wpAnyH_take (i := 15) (oi := ⟨some 111, _, _, _, _, _⟩) (v := ?_) rfl (by kernel_rfl) (by kernel_rfl) (by kernel_rfl) (fun _ _ _ h => h) (Or.inl ⟨by rfl, ?_⟩) (by assumption) ?_
                                rotate_left
                                focus (intro wq hSq; (try dsimp only at hSq); go_simp; try with_reducible rfl)
                                try simp only [Act.put, List.setIfInBounds_toArray, List.set_cons_zero, List.set_cons_succ]
                                refine wpAnyH_take (i := 16) (oi := ⟨some 112, _, _, _, _, _⟩) (v := ?_) rfl (by kernel_rfl) (by kernel_rfl) (by kernel_rfl) (fun _ _ _ h => h) (Or.inl ⟨by rfl, ?_⟩) (by assumption) ?_
                                rotate_left
                                focus (intro wq hSq; (try dsimp only at hSq); go_simp; try with_reducible rfl)
                                try simp only [Act.put, List.setIfInBounds_toArray, List.set_cons_zero, List.set_cons_succ]
                                refine wpAnyH_take (i := 17) (oi := ⟨some 113, _, _, _, _, _⟩) (v := ?_) rfl (by kernel_rfl) (by kernel_rfl) (by kernel_rfl) (fun _ _ _ h => h) (Or.inl ⟨by rfl, ?_⟩) (by assumption) ?_
                                rotate_left
                                focus (intro wq hSq; (try dsimp only at hSq); go_simp; try with_reducible rfl)
                                try simp only [Act.put, List.setIfInBounds_toArray, List.set_cons_zero, List.set_cons_succ]
                                refine wpAnyH_take (i := 18) (oi := ⟨some 114, _, _, _, _, _⟩) (v := ?_) rfl (by kernel_rfl) (by kernel_rfl) (by kernel_rfl) (fun _ _ _ h => h) (Or.inl ⟨by rfl, ?_⟩) (by assumption) ?_
                                rotate_left
                                focus (intro wq hSq; (try dsimp only at hSq); go_simp; try with_reducible rfl)
                                try simp only [Act.put, List.setIfInBounds_toArray, List.set_cons_zero, List.set_cons_succ]
                                refine wpAnyH_ready (rs := [19]) (by kernel_rfl) (by simp) ?_
                                refine AllReadyH.cons (o := ⟨some 115, _, _, _, _, _⟩) rfl (fun K hK => ?_) AllReadyH.nil
                                go_simp
                                go_at_call 14
                                (with_reducible refine (hTog _ ?_).mono ?_)
                                assumption
                                rintro e W3 ⟨rfl, hN⟩
                                go_wp2_with fail
                                refine hK.out _ _ ?_ (fun hHeld => ?_)
                                focus (exact hN)
                                clear hK K
                                try simp only [Act.put, List.setIfInBounds_toArray, List.set_cons_zero, List.set_cons_succ]
                                refine wpAnyH_take (i := 20) (oi := ⟨some 116, _, _, _, _, _⟩) (v := ?_) rfl (by kernel_rfl) (by kernel_rfl) (by kernel_rfl) (fun _ _ _ h => h) (Or.inl ⟨by rfl, ?_⟩) (by assumption) ?_
                                rotate_left
                                focus (intro wq hSq; (try dsimp only at hSq); go_simp; try with_reducible rfl)
                                try simp only [Act.put, List.setIfInBounds_toArray, List.set_cons_zero, List.set_cons_succ]
                                refine wpAnyH_take (i := 21) (oi := ⟨some 117, _, _, _, _, _⟩) (v := ?_) rfl (by kernel_rfl) (by kernel_rfl) (by kernel_rfl) (fun _ _ _ h => h) (Or.inl ⟨by rfl, ?_⟩) (by assumption) ?_
                                rotate_left
                                focus (intro wq hSq; (try dsimp only at hSq); go_simp; try with_reducible rfl)
                                try simp only [Act.put, List.setIfInBounds_toArray, List.set_cons_zero, List.set_cons_succ]
                                refine wpAnyH_done (by kernel_rfl) ?_ _
                                go_wp2_with fail
                                go_roundw
                                case rel => exact ⟨j + 1, by omega, by go_num, hHeld.2.2.2.2⟩
                                case measure => simp [intOf]; omega
                            · have hji : j = i := by omega
                              clear hjt
                              go_wp2_with fail
                              go_roundw
                              case rel => exact ⟨i + 1, by omega, by go_num, hbq⟩
                              case measure => simp [intOf]; omega
                        · go_upto_region 13 with fail
                          refine wp_region_held_drew (S := (fun W => (W.cell? ⟨o, 0, none⟩ = some (.slice aS mS cS) ∧ W.cell? ⟨o, 1, none⟩ = some (.slice aH mH cH) ∧ W.cell? ⟨o, 2, none⟩ = some (.slice (some ad) mQ cQ)) ∧ (W.cell? ⟨op, 0, none⟩ = some (.slice bS nS dS) ∧ W.cell? ⟨op, 1, none⟩ = some (.slice bH nH dH) ∧ W.cell? ⟨op, 2, none⟩ = some (.slice bQ nQ dQ)) ∧ (W.cell? (ad.add (i * 4)) = some (.int .i64 kx) ∧ W.cell? ⟨(ad.add (i * 4)).block, (ad.add (i * 4)).off + 1, none⟩ = some (.int .i64 lx) ∧ W.cell? ⟨(ad.add (i * 4)).block, (ad.add (i * 4)).off + 2, none⟩ = some (.int .i64 hx) ∧ W.cell? ⟨(ad.add (i * 4)).block, (ad.add (i * 4)).off + 3, none⟩ = some (.int .i8 mx)) ∧ Below V.heap.size V W)) (by kernel_rfl) ?_ (fun hHeld => ?_)
                          focus (exact hS _ hbr.drew)
                          refine wpAnyH_take (i := 0) (oi := ⟨some 72, _, _, _, _, _⟩) (v := ?_) rfl (by kernel_rfl) (by kernel_rfl) (by kernel_rfl) (fun _ _ _ h => h) (Or.inl ⟨by rfl, ?_⟩) (by assumption) ?_
                          rotate_left
                          focus (intro wq hSq; (try dsimp only at hSq); go_simp; try with_reducible rfl)
                          try simp only [Act.put, List.setIfInBounds_toArray, List.set_cons_zero, List.set_cons_succ]
                          refine wpAnyH_take (i := 1) (oi := ⟨some 73, _, _, _, _, _⟩) (v := ?_) rfl (by kernel_rfl) (by kernel_rfl) (by kernel_rfl) (fun _ _ _ h => h) (Or.inl ⟨by rfl, ?_⟩) (by assumption) ?_
                          rotate_left
                          focus (intro wq hSq; (try dsimp only at hSq); go_simp; try with_reducible rfl)
                          try simp only [Act.put, List.setIfInBounds_toArray, List.set_cons_zero, List.set_cons_succ]
                          refine wpAnyH_take (i := 2) (oi := ⟨some 74, _, _, _, _, _⟩) (v := ?_) rfl (by kernel_rfl) (by kernel_rfl) (by kernel_rfl) (fun _ _ _ h => h) (Or.inl ⟨by rfl, ?_⟩) (by assumption) ?_
                          rotate_left
                          focus (intro wq hSq; (try dsimp only at hSq); go_simp; try with_reducible rfl)
                          try simp only [Act.put, List.setIfInBounds_toArray, List.set_cons_zero, List.set_cons_succ]
                          refine wpAnyH_take (i := 3) (oi := ⟨some 75, _, _, _, _, _⟩) (v := ?_) rfl (by kernel_rfl) (by kernel_rfl) (by kernel_rfl) (fun _ _ _ h => h) (Or.inl ⟨by rfl, ?_⟩) (by assumption) ?_
                          rotate_left
                          focus (intro wq hSq; (try dsimp only at hSq); go_simp; try with_reducible rfl)
                          try simp only [Act.put, List.setIfInBounds_toArray, List.set_cons_zero, List.set_cons_succ]
                          refine wpAnyH_take (i := 4) (oi := ⟨some 76, _, _, _, _, _⟩) (v := ?_) rfl (by kernel_rfl) (by kernel_rfl) (by kernel_rfl) (fun _ _ _ h => h) (Or.inl ⟨by rfl, ?_⟩) (by assumption) ?_
                          rotate_left
                          focus (intro wq hSq; (try dsimp only at hSq); go_simp; try with_reducible rfl)
                          try simp only [Act.put, List.setIfInBounds_toArray, List.set_cons_zero, List.set_cons_succ]
                          refine wpAnyH_take (i := 5) (oi := ⟨some 77, _, _, _, _, _⟩) (v := ?_) rfl (by kernel_rfl) (by kernel_rfl) (by kernel_rfl) (fun _ _ _ h => h) (Or.inl ⟨by rfl, ?_⟩) (by assumption) ?_
                          rotate_left
                          focus (intro wq hSq; (try dsimp only at hSq); go_simp; try with_reducible rfl)
                          try simp only [Act.put, List.setIfInBounds_toArray, List.set_cons_zero, List.set_cons_succ]
                          refine wpAnyH_take (i := 6) (oi := ⟨some 78, _, _, _, _, _⟩) (v := ?_) rfl (by kernel_rfl) (by kernel_rfl) (by kernel_rfl) (fun _ _ _ h => h) (Or.inl ⟨by rfl, ?_⟩) (by assumption) ?_
                          rotate_left
                          focus (intro wq hSq; (try dsimp only at hSq); go_simp; try with_reducible rfl)
                          try simp only [Act.put, List.setIfInBounds_toArray, List.set_cons_zero, List.set_cons_succ]
                          refine wpAnyH_ready (rs := [7]) (by kernel_rfl) (by simp) ?_
                          refine AllReadyH.cons (o := ⟨some 79, _, _, _, _, _⟩) rfl (fun K hK => ?_) AllReadyH.nil
                          go_simp
                          go_at_call 13
                          first | (with_reducible refine (hHas1 _ _ ?_).mono ?_) | (with_reducible refine (hHas2 _ _ ?_).mono ?_)
                          assumption
                          rintro e W2 ⟨rfl, hN⟩
                          go_wp2_with fail
                          refine hK.out _ _ ?_ (fun hHeld => ?_)
                          focus (exact hN)
                          clear hK K
                          try simp only [Act.put, List.setIfInBounds_toArray, List.set_cons_zero, List.set_cons_succ]
                          refine wpAnyH_take (i := 8) (oi := ⟨some 80, _, _, _, _, _⟩) (v := ?_) rfl (by kernel_rfl) (by kernel_rfl) (by kernel_rfl) (fun _ _ _ h => h) (Or.inl ⟨by rfl, ?_⟩) (by assumption) ?_
                          rotate_left
                          focus (intro wq hSq; (try dsimp only at hSq); go_simp; try with_reducible rfl)
                          try simp only [Act.put, List.setIfInBounds_toArray, List.set_cons_zero, List.set_cons_succ]
                          refine wpAnyH_take (i := 9) (oi := ⟨some 81, _, _, _, _, _⟩) (v := ?_) rfl (by kernel_rfl) (by kernel_rfl) (by kernel_rfl) (fun _ _ _ h => h) (Or.inl ⟨by rfl, ?_⟩) (by assumption) ?_
                          rotate_left
                          focus (intro wq hSq; (try dsimp only at hSq); go_simp; try with_reducible rfl)
                          try simp only [Act.put, List.setIfInBounds_toArray, List.set_cons_zero, List.set_cons_succ]
                          refine wpAnyH_take (i := 10) (oi := ⟨some 82, _, _, _, _, _⟩) (v := ?_) rfl (by kernel_rfl) (by kernel_rfl) (by kernel_rfl) (fun _ _ _ h => h) (Or.inl ⟨by rfl, ?_⟩) (by assumption) ?_
                          rotate_left
                          focus (intro wq hSq; (try dsimp only at hSq); go_simp; try with_reducible rfl)
                          try simp only [Act.put, List.setIfInBounds_toArray, List.set_cons_zero, List.set_cons_succ]
                          refine wpAnyH_take (i := 11) (oi := ⟨some 83, _, _, _, _, _⟩) (v := ?_) rfl (by kernel_rfl) (by kernel_rfl) (by kernel_rfl) (fun _ _ _ h => h) (Or.inl ⟨by rfl, ?_⟩) (by assumption) ?_
                          rotate_left
                          focus (intro wq hSq; (try dsimp only at hSq); go_simp; try with_reducible rfl)
                          try simp only [Act.put, List.setIfInBounds_toArray, List.set_cons_zero, List.set_cons_succ]
                          refine wpAnyH_take (i := 12) (oi := ⟨some 84, _, _, _, _, _⟩) (v := ?_) rfl (by kernel_rfl) (by kernel_rfl) (by kernel_rfl) (fun _ _ _ h => h) (Or.inl ⟨by rfl, ?_⟩) (by assumption) ?_
                          rotate_left
                          focus (intro wq hSq; (try dsimp only at hSq); go_simp; try with_reducible rfl)
                          try simp only [Act.put, List.setIfInBounds_toArray, List.set_cons_zero, List.set_cons_succ]
                          refine wpAnyH_take (i := 13) (oi := ⟨some 85, _, _, _, _, _⟩) (v := ?_) rfl (by kernel_rfl) (by kernel_rfl) (by kernel_rfl) (fun _ _ _ h => h) (Or.inl ⟨by rfl, ?_⟩) (by assumption) ?_
                          rotate_left
                          focus (intro wq hSq; (try dsimp only at hSq); go_simp; try with_reducible rfl)
                          try simp only [Act.put, List.setIfInBounds_toArray, List.set_cons_zero, List.set_cons_succ]
                          refine wpAnyH_take (i := 14) (oi := ⟨some 86, _, _, _, _, _⟩) (v := ?_) rfl (by kernel_rfl) (by kernel_rfl) (by kernel_rfl) (fun _ _ _ h => h) (Or.inl ⟨by rfl, ?_⟩) (by assumption) ?_
                          rotate_left
                          focus (intro wq hSq; (try dsimp only at hSq); go_simp; try with_reducible rfl)
                          try simp only [Act.put, List.setIfInBounds_toArray, List.set_cons_zero, List.set_cons_succ]
                          refine wpAnyH_take (i := 15) (oi := ⟨some 87, _, _, _, _, _⟩) (v := ?_) rfl (by kernel_rfl) (by kernel_rfl) (by kernel_rfl) (fun _ _ _ h => h) (Or.inl ⟨by rfl, ?_⟩) (by assumption) ?_
                          rotate_left
                          focus (intro wq hSq; (try dsimp only at hSq); go_simp; try with_reducible rfl)
                          try simp only [Act.put, List.setIfInBounds_toArray, List.set_cons_zero, List.set_cons_succ]
                          refine wpAnyH_take (i := 16) (oi := ⟨some 88, _, _, _, _, _⟩) (v := ?_) rfl (by kernel_rfl) (by kernel_rfl) (by kernel_rfl) (fun _ _ _ h => h) (Or.inl ⟨by rfl, ?_⟩) (by assumption) ?_
                          rotate_left
                          focus (intro wq hSq; (try dsimp only at hSq); go_simp; try with_reducible rfl)
                          try simp only [Act.put, List.setIfInBounds_toArray, List.set_cons_zero, List.set_cons_succ]
                          refine wpAnyH_ready (rs := [17]) (by kernel_rfl) (by simp) ?_
                          refine AllReadyH.cons (o := ⟨some 89, _, _, _, _, _⟩) rfl (fun K hK => ?_) AllReadyH.nil
                          go_simp
                          go_at_call 13
                          first | (with_reducible refine (hHas1 _ _ ?_).mono ?_) | (with_reducible refine (hHas2 _ _ ?_).mono ?_)
                          assumption
                          rintro e W2 ⟨rfl, hN⟩
                          go_wp2_with fail
                          refine hK.out _ _ ?_ (fun hHeld => ?_)
                          focus (exact hN)
                          clear hK K
                          try simp only [Act.put, List.setIfInBounds_toArray, List.set_cons_zero, List.set_cons_succ]
                          refine wpAnyH_take (i := 18) (oi := ⟨some 90, _, _, _, _, _⟩) (v := ?_) rfl (by kernel_rfl) (by kernel_rfl) (by kernel_rfl) (fun _ _ _ h => h) (Or.inl ⟨by rfl, ?_⟩) (by assumption) ?_
                          rotate_left
                          focus (intro wq hSq; (try dsimp only at hSq); go_simp; try with_reducible rfl)
                          try simp only [Act.put, List.setIfInBounds_toArray, List.set_cons_zero, List.set_cons_succ]
                          refine wpAnyH_done (by kernel_rfl) ?_ _
                          go_wp2_with fail
                          go_roundw
                          case rel => exact ⟨i + 1, by omega, by go_num, hHeld.2.2.2⟩
                          case measure => simp [intOf]; omega
                    · have hkn2 : i = mQ := by omega
                      clear hlt
                      have hbz := below_then hb4 hbr
                      clear pp1 po1 r0 r1 r2 hlp
                      go_wp2_with fail
                      refine (twakes_any _).mono ?_
                      rintro e w6 ⟨rfl, hb6⟩
                      have hz6 := below_then (hbz) hb6
                      go_wp2_with fail
                      go_ret
                      exact ⟨rfl, hz6⟩

/-! ### THE ROW's STEP -/
set_option maxRecDepth 100000 in
theorem lifted (os : Os) (started : os.Started) (H : Type) (enc : TypeId × Value → H) :
    ReturnsInHanded {} Try.checked os 4 .any (Rows.tableQueuesSpec.pre6 enc Try.prog Try.f4 Rows.tableQueuesRow.domain false) (Rows.tableQueuesSpec.post enc Try.prog Try.f4 false true false false) := by
  refine returnsInHanded_of_change (C := Try.checked) own started (by kernel_rfl) Try.func4
    (ChangeSpec.witness6 (enc := enc) (C := Try.checked) false ⟨#[], #[.agg #[.int .i64 0, .int .i64 0, .int .i64 0, .int .i64 0, .int .i64 0, .int .i64 0, .int .i64 0, .int .i64 0], .slice none 0 0, .agg #[.int .i8 0, .int .i64 0, .int .i64 0, .int .i64 0, .int .i64 0, .int .i64 0, .int .i64 0, .int .i8 0]], []⟩ 8 (by kernel_rfl) (by kernel_rfl) (by kernel_rfl) (by kernel_rfl)) ?_
  intro W base args ds gs before hval0 hW hcnd _
  have hval : ∀ (j : Nat) t v, Try.f4.params[j]? = some t → args[j]? = some v → Value.okWide Try.prog W .any base t v := hval0
  have hW' := hW
  obtain ⟨p, q, hA0, hV, rfl, hfz, hnd⟩ := hW
  have hA : DataW.TrodAll enc Try.prog W 0 (fun _ => true) true Try.f4.params.toList args.toList ds p := hA0
  rw [Try.params4] at hA hval
  obtain ⟨v0, vs0, d0, ds0, p0, q0, hargs, rfl, rfl, h0, r0⟩ := trodAll_cons hA
  obtain ⟨v1, vs1, d1, ds1, p1, q1, rfl, rfl, rfl, h1, r1⟩ := trodAll_cons r0
  obtain ⟨v2, vs2, d2, ds2, p2, q2, rfl, rfl, rfl, h2, r2⟩ := trodAll_cons r1
  obtain ⟨rfl, rfl, rfl⟩ := trodAll_nil r2
  obtain rfl : args = #[v0, v1, v2] := by cases args; simp_all
  obtain ⟨rfl, rfl⟩ := trodVars_none hV
  have k0 := h0
  have lt0 : ∀ x ∈ p0, x.block < W.heap.size := by obtain ⟨m, hm⟩ := k0; exact DataW.trod_lt m _ _ _ hm
  obtain ⟨g0, rfl⟩ := open_geo (hval 0 23 v0 rfl rfl) h0
  have k1 := h1
  have lt1 : ∀ x ∈ p1, x.block < W.heap.size := by obtain ⟨m, hm⟩ := k1; exact DataW.trod_lt m _ _ _ hm
  obtain ⟨a1, len1, cap1, L1, rfl, w1⟩ := open_cmds (hval 1 24 v1 rfl rfl) h1
  have k2 := h2
  have lt2 : ∀ x ∈ p2, x.block < W.heap.size := by obtain ⟨m, hm⟩ := k2; exact DataW.trod_lt m _ _ _ hm
  obtain ⟨g2, rfl, w2⟩ := open_cmd (hval 2 36 v2 rfl rfl) h2
  clear hA0 hval0
  refine (walk g0 a1 len1 cap1 L1 g2 W w1 w2).mono fun e W' ⟨he, bel⟩ => ?_
  subst he
  exact ⟨_, rfl, _, _, _, [], _, [], hW', trodAll_mk1 (shut_bool Try.underlying4 _), (trodAll_cons_mk (Below.trod laidOut (by kernel_rfl) (of_decide_eq_true (by kernel_rfl)) k0 bel lt0) (trodAll_cons_mk (Below.trod laidOut (by kernel_rfl) (of_decide_eq_true (by kernel_rfl)) k1 bel lt1) (trodAll_cons_mk (Below.trod laidOut (by kernel_rfl) (of_decide_eq_true (by kernel_rfl)) k2 bel lt2) trodAll_mk0))), rfl, bel.frame _, fun h => by cases h⟩

theorem over : Rows.tableQueuesRow.holds Try.pinned (OpenSpec.ofChange Rows.tableQueuesSpec) :=
  OpenClaim.holds_of_wide 4 Try.f4 rfl rfl rfl rfl rfl rfl rfl ⟨rfl, rfl, rfl, rfl, rfl⟩ rfl rfl rfl rfl rfl (by kernel_rfl) Try.func4 (by kernel_rfl)
    (of_decide_eq_true (by kernel_rfl)) (by unfold Func.isWrapper; first | (rw [if_pos (by decide +kernel)]; kernel_rfl) | (rw [if_neg (by decide +kernel)]; exact ⟨rfl, rfl⟩))
    (fun os started H enc _ => lifted os started H enc)

/-- The statement. -/
theorem proved : Rows.TableQueuesSaid := over
#print axioms proved
end Go.Proofs.Ytjknloaolennoaa.tableQueues
