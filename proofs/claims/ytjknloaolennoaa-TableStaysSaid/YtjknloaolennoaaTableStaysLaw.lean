/-
  The statement TableStays: of a new table, and of commands that may be, what comes may be, and holds go together: for every geometry and every row of commands the call answers true and leaves its arguments as they were. No conditions.
-/
import Derived.Test.YtjknloaolennoaaTabWakes
import Derived.Test.YtjknloaolennoaaTabOpen
import Derived.Test.YtjknloaolennoaaJoinTabMay
import Derived.Test.YtjknloaolennoaaJoinTabLen
import Derived.Test.YtjknloaolennoaaCmdRefMay
import Derived.Test.YtjknloaolennoaaGeoArg
import Derived.Test.YtjknloaolennoaaHeldTo
import Derived.ProofKit
import Derived.Deep.DeepCutAuto
import Derived.Deep.CutBlock
import Derived.ShutString
import Derived.ChangeOld
import Derived.Below
namespace Go.Proofs.Ytjknloaolennoaa.tableStays
open Go.ChangeShapes Go.WideShapes Go.ChangeAt Go.RowKit
open Go.ChangeMaps (open_string shut_string)
set_option linter.unusedVariables false
set_option linter.unusedSimpArgs false

theorem own : ownKnob Try.prog.godebug = none := by kernel_rfl
theorem laidOut : laidOutB Try.prog = true := by kernel_rfl
theorem not_yet {b : Bool} {p : Prop} (e : b = true) (h : b = false) : p := by rw [e] at h; cases h

set_option maxRecDepth 100000 in
set_option maxHeartbeats 4000000 in
theorem walk (g : G) (A : Option Addr) (n c : Nat) (l : List CmdM) (w : World) (wl : IsCmds w A n c l) :
    Calls Try.prog 3 #[.agg #[.int .i64 g.N, .int .i64 g.S, .int .i64 g.B, .int .i64 g.P, .int .i64 g.J, .int .i64 g.L, .int .i64 g.E, .int .i64 g.T], .slice A n c] w fun e w' => e = .returned (.bool true) ∧ Below w.heap.size w w' := by
  obtain ⟨N, S, B, P, J, L, E, T⟩ := g
  obtain ⟨hl, hn, _, _, _⟩ := wl
  simp only
  unfold maxLen at hn
  have b0 := one_new w (.cells #[.int .i64 N, .int .i64 S, .int .i64 B, .int .i64 P, .int .i64 J, .int .i64 L, .int .i64 E, .int .i64 T] 23)
  go_enter Try.func3, Try.ntmps3
  by_cases q0 : 60 < n
  · have z0 : decide ((60 : Int) < (n : Int)) = true := decide_eq_true (by omega)
    clear hl
    clear q0
    go_wp2_with fail
    refine (twakes_any _).mono ?_
    rintro e w6 ⟨rfl, hb6⟩
    have hz6 := below_then (b0) hb6
    go_wp2_with fail
    go_ret
    exact ⟨rfl, hz6⟩
  · have z0 : decide ((60 : Int) < (n : Int)) = false := decide_eq_false (by omega)
    by_cases q1 : S < 1
    · have z1 : decide (S < 1) = true := decide_eq_true (by omega)
      clear hl
      clear q0
      clear q1
      go_wp2_with fail
      refine (twakes_any _).mono ?_
      rintro e w6 ⟨rfl, hb6⟩
      have hz6 := below_then (b0) hb6
      go_wp2_with fail
      go_ret
      exact ⟨rfl, hz6⟩
    · have z1 : decide (S < 1) = false := decide_eq_false (by omega)
      by_cases q2 : 16 < S
      · have z2 : decide ((16 : Int) < S) = true := decide_eq_true (by omega)
        clear hl
        clear q0
        clear q1
        clear q2
        go_wp2_with fail
        refine (twakes_any _).mono ?_
        rintro e w6 ⟨rfl, hb6⟩
        have hz6 := below_then (b0) hb6
        go_wp2_with fail
        go_ret
        exact ⟨rfl, hz6⟩
      · have z2 : decide ((16 : Int) < S) = false := decide_eq_false (by omega)
        by_cases q3 : B < 1
        · have z3 : decide (B < 1) = true := decide_eq_true (by omega)
          clear hl
          clear q0
          clear q1
          clear q2
          clear q3
          go_wp2_with fail
          refine (twakes_any _).mono ?_
          rintro e w6 ⟨rfl, hb6⟩
          have hz6 := below_then (b0) hb6
          go_wp2_with fail
          go_ret
          exact ⟨rfl, hz6⟩
        · have z3 : decide (B < 1) = false := decide_eq_false (by omega)
          by_cases q4 : 64 < B
          · have z4 : decide ((64 : Int) < B) = true := decide_eq_true (by omega)
            clear hl
            clear q0
            clear q1
            clear q2
            clear q3
            clear q4
            go_wp2_with fail
            refine (twakes_any _).mono ?_
            rintro e w6 ⟨rfl, hb6⟩
            have hz6 := below_then (b0) hb6
            go_wp2_with fail
            go_ret
            exact ⟨rfl, hz6⟩
          · have z4 : decide ((64 : Int) < B) = false := decide_eq_false (by omega)
            have hS0 : 0 ≤ S := by omega
            have hS1 : S ≤ 16 := by omega
            have HN := Lib.hid (show n ≤ 60 by omega)
            have HS16 := Lib.hid (show S.toNat ≤ 16 by omega)
            have HSn : Hid (S = ((S.toNat : Nat) : Int)) := (Int.toNat_of_nonneg hS0).symm
            obtain ⟨W0, hW0⟩ : ∃ W, W = w.alloc (.cells #[.int .i64 N, .int .i64 S, .int .i64 B, .int .i64 P, .int .i64 J, .int .i64 L, .int .i64 E, .int .i64 T] 23) := ⟨_, rfl⟩
            have pg := Blk.new w #[.int .i64 N, .int .i64 S, .int .i64 B, .int .i64 P, .int .i64 J, .int .i64 L, .int .i64 E, .int .i64 T] 23
            rw [← hW0] at b0 pg
            have hnew := tNew_any N S B P J L E T W0 hS0 hS1
            clear hS0 hS1 q0 q1 q2 q3 q4
            go_wp2_with fail
            rw [← hW0]
            clear hW0
            refine hnew.mono ?_
            clear hnew
            rintro e w1 ⟨v1, rfl, T1, hb1⟩
            obtain ⟨aS, cS, aH, cH, aQ, cQ, e1⟩ := T1.shape
            subst e1
            have hMay := Lib.hid (And.intro (may_newT B S.toNat) (keys_newT S.toNat))
            have hL0 : (newT S.toNat).ho.length + (newT S.toNat).qu.length = 0 := rfl
            obtain ⟨t1, ht1⟩ : ∃ t, newT S.toNat = t := ⟨_, rfl⟩
            rw [ht1] at T1 hMay hL0 ⊢
            clear ht1
            obtain ⟨mS, hmS⟩ : ∃ m, t1.sl.length = m := ⟨_, rfl⟩
            obtain ⟨mH, hmH⟩ : ∃ m, t1.ho.length = m := ⟨_, rfl⟩
            obtain ⟨mQ, hmQ⟩ : ∃ m, t1.qu.length = m := ⟨_, rfl⟩
            rw [hmS, hmH, hmQ] at T1 ⊢
            clear hmS hmH hmQ
            have pg1 := pg.below hb1 pg.lt
            have b1 := below_then b0 hb1
            have po := Blk.new w1 #[.slice aS mS cS, .slice aH mH cH, .slice aQ mQ cQ] 29
            have bo := one_new w1 (.cells #[.slice aS mS cS, .slice aH mH cH, .slice aQ mQ cQ] 29)
            have pg2 := pg1.below bo pg1.lt
            have b2 := below_then b1 bo
            have T2 := T1.below bo
            have ho1 : w.heap.size + 1 ≤ w1.heap.size := by have := pg1.lt; omega
            obtain ⟨o, ho⟩ : ∃ o, w1.heap.size = o := ⟨_, rfl⟩
            clear hb1 pg b1 T1 bo
            go_upto_region 4 with fail
            obtain ⟨W2, hW2⟩ : ∃ W, W = w1.alloc (.cells #[.slice aS mS cS, .slice aH mH cH, .slice aQ mQ cQ] 29) := ⟨_, rfl⟩
            rw [← hW2] at po pg2 b2 T2 ⊢
            rw [ho] at po ho1
            clear hW2 ho pg1
            have HL : Hid (∀ W, Below w.heap.size w W → LiesC W W.heap.size A n l) := fun W h => hl.below h
            have HLn : Hid (l.length = n) := hl.1
            clear hl
            go_wp2_with fail
            go_loopw [6] (fun i wr => ∃ (k : Nat) (t : TabM) (aS : Option Addr) (mS cS : Nat) (aH : Option Addr) (mH cH : Nat) (aQ : Option Addr) (mQ cQ : Nat), k ≤ n ∧ i = .int .i64 k ∧ TabAt wr (.agg #[.slice aS mS cS, .slice aH mH cH, .slice aQ mQ cQ]) t ∧ Blk wr o #[.slice aS mS cS, .slice aH mH cH, .slice aQ mQ cQ] 29 ∧ Hid (MayT B S.toNat t ∧ KeysOk t.sl) ∧ t.ho.length + t.qu.length ≤ k ∧ Blk wr w.heap.size #[.int .i64 N, .int .i64 S, .int .i64 B, .int .i64 P, .int .i64 J, .int .i64 L, .int .i64 E, .int .i64 T] 23 ∧ Below w.heap.size w wr) (fun i _ => n - (intOf i).toNat)
            case atStart => exact ⟨0, t1, _, _, _, _, _, _, _, _, _, Nat.zero_le _, rfl, T2, po, hMay, by omega, pg2, b2⟩
            case round =>
              clear T2 po pg2 b2 hMay hL0
              obtain ⟨k, t, aS, mS, cS, aH, mH, cH, aQ, mQ, cQ, hk, rfl, hT, po, hM, hlen, pg, hb⟩ := hrel
              obtain ⟨g0, g1, g2, g3, g4, g5, g6, g7⟩ := tgeo_cells pg
              obtain ⟨o0, o1, o2⟩ := tcells po
              have hlg := pg.lt
              have hlo := po.lt
              have hTL : Hid (TabLt t) := ⟨by rw [hM.out.1.len]; have := HS16.out; omega, by have := HN.out; omega, by have := HN.out; omega⟩
              by_cases hlt : k < n
              · have hkl : k < l.length := by rw [HLn.out]; exact hlt
                obtain ⟨⟨ck, cb, cs, cd, ca, cl, ch, cm⟩, hxx⟩ : ∃ x, l[k] = x := ⟨_, rfl⟩
                obtain ⟨ad, e1, had, d0, d1, d2, d3, d4, d5, d6, d7⟩ := cmd_at (HL.out _ hb) hlt hkl hxx
                subst e1
                have hAd : Hid (∀ W, Below w.heap.size w W → W.cell? (ad.add (k * 8)) = some (.int .i8 ck) ∧ W.cell? ⟨(ad.add (k * 8)).block, (ad.add (k * 8)).off + 1, none⟩ = some (.int .i64 cb) ∧ W.cell? ⟨(ad.add (k * 8)).block, (ad.add (k * 8)).off + 2, none⟩ = some (.int .i64 cs) ∧ W.cell? ⟨(ad.add (k * 8)).block, (ad.add (k * 8)).off + 3, none⟩ = some (.int .i64 cd) ∧ W.cell? ⟨(ad.add (k * 8)).block, (ad.add (k * 8)).off + 4, none⟩ = some (.int .i64 ca) ∧ W.cell? ⟨(ad.add (k * 8)).block, (ad.add (k * 8)).off + 5, none⟩ = some (.int .i64 cl) ∧ W.cell? ⟨(ad.add (k * 8)).block, (ad.add (k * 8)).off + 6, none⟩ = some (.int .i64 ch) ∧ W.cell? ⟨(ad.add (k * 8)).block, (ad.add (k * 8)).off + 7, none⟩ = some (.int .i8 cm)) := fun W hW => by
                  obtain ⟨ad', e1, _, q⟩ := cmd_at (HL.out _ hW) hlt hkl hxx
                  injection e1 with e1
                  subst e1
                  exact q
                clear hxx hkl
                go_wp2_with fail
                refine (refCMay_any ck cb cs cd ca cl ch cm _).mono ?_
                rintro e w2 ⟨rfl, hx2⟩
                have po2 := po.below hx2 hlo
                have pg2 := pg.below hx2 hlg
                have hb2 := below_then hb hx2
                have hT2 := hT.below hx2
                clear po pg hb hT hx2 g0 g1 g2 g3 g4 g5 g6 g7 o0 o1 o2 hlg hlo d0 d1 d2 d3 d4 d5 d6 d7
                cases hm : cMay ⟨ck, cb, cs, cd, ca, cl, ch, cm⟩ with
                | false =>
                  clear hm
                  go_wp2_with fail
                  go_roundw
                  case rel => exact ⟨k + 1, t, _, _, _, _, _, _, _, _, _, by omega, by go_num, hT2, po2, hM, by omega, pg2, hb2⟩
                  case measure => simp [intOf]; omega
                | true =>
                  have HMA := Lib.hid (And.intro (may_apply hM.out.1 hm) (keys_apply (B := B) hM.out.2 hm))
                  have hkd := Lib.hid (kind_may hm)
                  have HAL := Lib.hid (apply_len B t ⟨ck, cb, cs, cd, ca, cl, ch, cm⟩)
                  clear hm
                  have hkeep : ∀ W, Below w2.heap.size w2 W → (W.cell? ⟨w.heap.size, 0, none⟩ = some (.int .i64 N) ∧ W.cell? ⟨w.heap.size, 1, none⟩ = some (.int .i64 S) ∧ W.cell? ⟨w.heap.size, 2, none⟩ = some (.int .i64 B) ∧ W.cell? ⟨w.heap.size, 3, none⟩ = some (.int .i64 P) ∧ W.cell? ⟨w.heap.size, 4, none⟩ = some (.int .i64 J) ∧ W.cell? ⟨w.heap.size, 5, none⟩ = some (.int .i64 L) ∧ W.cell? ⟨w.heap.size, 6, none⟩ = some (.int .i64 E) ∧ W.cell? ⟨w.heap.size, 7, none⟩ = some (.int .i64 T)) ∧ (W.cell? ⟨o, 0, none⟩ = some (.slice aS mS cS) ∧ W.cell? ⟨o, 1, none⟩ = some (.slice aH mH cH) ∧ W.cell? ⟨o, 2, none⟩ = some (.slice aQ mQ cQ)) ∧ (W.cell? (ad.add (k * 8)) = some (.int .i8 ck) ∧ W.cell? ⟨(ad.add (k * 8)).block, (ad.add (k * 8)).off + 1, none⟩ = some (.int .i64 cb) ∧ W.cell? ⟨(ad.add (k * 8)).block, (ad.add (k * 8)).off + 2, none⟩ = some (.int .i64 cs) ∧ W.cell? ⟨(ad.add (k * 8)).block, (ad.add (k * 8)).off + 3, none⟩ = some (.int .i64 cd) ∧ W.cell? ⟨(ad.add (k * 8)).block, (ad.add (k * 8)).off + 4, none⟩ = some (.int .i64 ca) ∧ W.cell? ⟨(ad.add (k * 8)).block, (ad.add (k * 8)).off + 5, none⟩ = some (.int .i64 cl) ∧ W.cell? ⟨(ad.add (k * 8)).block, (ad.add (k * 8)).off + 6, none⟩ = some (.int .i64 ch) ∧ W.cell? ⟨(ad.add (k * 8)).block, (ad.add (k * 8)).off + 7, none⟩ = some (.int .i8 cm)) := fun W h => ⟨tgeo_cells (pg2.below h pg2.lt), tcells (po2.below h po2.lt), hAd.out W (below_then hb2 h)⟩
                  have happ := tApply_any N S B P J L E T _ t ck cb cs cd ca cl ch cm w2.drew (hT2.below (Below.refl _ _).drew) hTL.out hkd.out ⟨_, hM.out.1⟩
                  obtain ⟨t', ht'⟩ : ∃ t', applyT B t ⟨ck, cb, cs, cd, ca, cl, ch, cm⟩ = t' := ⟨_, rfl⟩
                  rw [ht'] at HMA HAL happ
                  clear ht'
                  have hHeld := hkeep w2.drew ((Below.refl _ _).drew)
                  go_upto_region 8 with fail
                  refine wp_region_to (S := (fun W => (W.cell? ⟨w.heap.size, 0, none⟩ = some (.int .i64 N) ∧ W.cell? ⟨w.heap.size, 1, none⟩ = some (.int .i64 S) ∧ W.cell? ⟨w.heap.size, 2, none⟩ = some (.int .i64 B) ∧ W.cell? ⟨w.heap.size, 3, none⟩ = some (.int .i64 P) ∧ W.cell? ⟨w.heap.size, 4, none⟩ = some (.int .i64 J) ∧ W.cell? ⟨w.heap.size, 5, none⟩ = some (.int .i64 L) ∧ W.cell? ⟨w.heap.size, 6, none⟩ = some (.int .i64 E) ∧ W.cell? ⟨w.heap.size, 7, none⟩ = some (.int .i64 T)) ∧ (W.cell? ⟨o, 0, none⟩ = some (.slice aS mS cS) ∧ W.cell? ⟨o, 1, none⟩ = some (.slice aH mH cH) ∧ W.cell? ⟨o, 2, none⟩ = some (.slice aQ mQ cQ)) ∧ (W.cell? (ad.add (k * 8)) = some (.int .i8 ck) ∧ W.cell? ⟨(ad.add (k * 8)).block, (ad.add (k * 8)).off + 1, none⟩ = some (.int .i64 cb) ∧ W.cell? ⟨(ad.add (k * 8)).block, (ad.add (k * 8)).off + 2, none⟩ = some (.int .i64 cs) ∧ W.cell? ⟨(ad.add (k * 8)).block, (ad.add (k * 8)).off + 3, none⟩ = some (.int .i64 cd) ∧ W.cell? ⟨(ad.add (k * 8)).block, (ad.add (k * 8)).off + 4, none⟩ = some (.int .i64 ca) ∧ W.cell? ⟨(ad.add (k * 8)).block, (ad.add (k * 8)).off + 5, none⟩ = some (.int .i64 cl) ∧ W.cell? ⟨(ad.add (k * 8)).block, (ad.add (k * 8)).off + 6, none⟩ = some (.int .i64 ch) ∧ W.cell? ⟨(ad.add (k * 8)).block, (ad.add (k * 8)).off + 7, none⟩ = some (.int .i8 cm)))) 7 (by kernel_rfl) hHeld (fun _ => ?_)
                  refine wpAnyM_take (i := 0) (oi := ⟨some 45, _, _, _, _, _⟩) (v := ?_) rfl (by kernel_rfl) (by kernel_rfl) (by kernel_rfl) (fun _ _ _ h => h) (by decide) (by kernel_rfl) (by kernel_rfl) (Or.inl ⟨by rfl, ?_⟩) (fun _ => hHeld) ?_
                  rotate_left
                  focus (intro wq hSq; (try dsimp only at hSq); go_simp; try with_reducible rfl)
                  try simp only [Act.put, List.setIfInBounds_toArray, List.set_cons_zero, List.set_cons_succ]
                  refine wpAnyM_take (i := 1) (oi := ⟨some 46, _, _, _, _, _⟩) (v := ?_) rfl (by kernel_rfl) (by kernel_rfl) (by kernel_rfl) (fun _ _ _ h => h) (by decide) (by kernel_rfl) (by kernel_rfl) (Or.inl ⟨by rfl, ?_⟩) (fun _ => hHeld) ?_
                  rotate_left
                  focus (intro wq hSq; (try dsimp only at hSq); go_simp; try with_reducible rfl)
                  try simp only [Act.put, List.setIfInBounds_toArray, List.set_cons_zero, List.set_cons_succ]
                  refine wpAnyM_take (i := 2) (oi := ⟨some 47, _, _, _, _, _⟩) (v := ?_) rfl (by kernel_rfl) (by kernel_rfl) (by kernel_rfl) (fun _ _ _ h => h) (by decide) (by kernel_rfl) (by kernel_rfl) (Or.inl ⟨by rfl, ?_⟩) (fun _ => hHeld) ?_
                  rotate_left
                  focus (intro wq hSq; (try dsimp only at hSq); go_simp; try with_reducible rfl)
                  try simp only [Act.put, List.setIfInBounds_toArray, List.set_cons_zero, List.set_cons_succ]
                  refine wpAnyM_take (i := 3) (oi := ⟨some 48, _, _, _, _, _⟩) (v := ?_) rfl (by kernel_rfl) (by kernel_rfl) (by kernel_rfl) (fun _ _ _ h => h) (by decide) (by kernel_rfl) (by kernel_rfl) (Or.inl ⟨by rfl, ?_⟩) (fun _ => hHeld) ?_
                  rotate_left
                  focus (intro wq hSq; (try dsimp only at hSq); go_simp; try with_reducible rfl)
                  try simp only [Act.put, List.setIfInBounds_toArray, List.set_cons_zero, List.set_cons_succ]
                  refine wpAnyM_take (i := 4) (oi := ⟨some 49, _, _, _, _, _⟩) (v := ?_) rfl (by kernel_rfl) (by kernel_rfl) (by kernel_rfl) (fun _ _ _ h => h) (by decide) (by kernel_rfl) (by kernel_rfl) (Or.inl ⟨by rfl, ?_⟩) (fun _ => hHeld) ?_
                  rotate_left
                  focus (intro wq hSq; (try dsimp only at hSq); go_simp; try with_reducible rfl)
                  try simp only [Act.put, List.setIfInBounds_toArray, List.set_cons_zero, List.set_cons_succ]
                  refine wpAnyM_take (i := 5) (oi := ⟨some 50, _, _, _, _, _⟩) (v := ?_) rfl (by kernel_rfl) (by kernel_rfl) (by kernel_rfl) (fun _ _ _ h => h) (by decide) (by kernel_rfl) (by kernel_rfl) (Or.inl ⟨by rfl, ?_⟩) (fun _ => hHeld) ?_
                  rotate_left
                  focus (intro wq hSq; (try dsimp only at hSq); go_simp; try with_reducible rfl)
                  try simp only [Act.put, List.setIfInBounds_toArray, List.set_cons_zero, List.set_cons_succ]
                  refine wpAnyM_ready (rs := [6]) (by kernel_rfl) (by simp) ?_
                  refine AllReadyM.cons (o := ⟨some 51, _, _, _, _, _⟩) rfl (fun K hK => ?_) AllReadyM.nil
                  go_simp
                  refine happ.mono ?_
                  rintro e w3 ⟨v3, rfl, T3, hx3⟩
                  have hb3 : Below w2.heap.size w2 w3 := ((Below.refl _ _).drew).trans hx3
                  have hHeld3 := hkeep w3 hb3
                  obtain ⟨bS, dS, bH, dH, bQ, dQ, e3⟩ := T3.shape
                  subst e3
                  obtain ⟨nS, hnS⟩ : ∃ m, t'.sl.length = m := ⟨_, rfl⟩
                  obtain ⟨nH, hnH⟩ : ∃ m, t'.ho.length = m := ⟨_, rfl⟩
                  obtain ⟨nQ, hnQ⟩ : ∃ m, t'.qu.length = m := ⟨_, rfl⟩
                  have HNN := Lib.hid (And.intro hnS (And.intro hnH hnQ))
                  rw [hnS, hnH, hnQ] at T3 ⊢
                  clear happ hx3 hnS hnH hnQ
                  refine hK.out _ _ (fun _ => hHeld3) (fun _ => ?_)
                  clear hK K
                  try simp only [Act.put, List.setIfInBounds_toArray, List.set_cons_zero, List.set_cons_succ]
                  have po3 := po2.below hb3 po2.lt
                  have pg3 := pg2.below hb3 pg2.lt
                  obtain ⟨o0, o1, o2⟩ := tcells po3
                  have f0 := po3.free 0
                  have f1 := po3.free 1
                  have f2 := po3.free 2
                  have hlo := po3.lt
                  obtain ⟨W4, hW4⟩ : ∃ W, W = into3 w3 o (.slice bS nS dS) (.slice bH nH dH) (.slice bQ nQ dQ) := ⟨_, rfl⟩
                  have po4 := into3_self po3 (.slice bS nS dS) (.slice bH nH dH) (.slice bQ nQ dQ)
                  have T4 := into3_tab (B1 := bS) (m1 := nS) (d1 := dS) (B2 := bH) (m2 := nH) (d2 := dH) (B3 := bQ) (m3 := nQ) (d3 := dQ) po3 T3
                  have pg4 := into3_other pg3 (show w.heap.size ≠ o by omega) (.slice bS nS dS) (.slice bH nH dH) (.slice bQ nQ dQ)
                  have hb4 := into3_below (below_then hb2 hb3) (show w.heap.size ≤ o by omega) (.slice bS nS dS) (.slice bH nH dH) (.slice bQ nQ dQ)
                  rw [← hW4] at po4 T4 pg4 hb4
                  unfold into3 at hW4
                  clear hHeld hHeld3 hkeep po2 pg2 hb2 hb3 hT2 T3 po3 pg3
                  refine wpAnyM_ready (rs := [7]) (by kernel_rfl) (by simp) ?_
                  refine AllReadyM.cons (o := ⟨none, _, _, _, _, _⟩) rfl (fun K hK => ?_) AllReadyM.nil
                  go_simp
                  rw [← hW4]
                  refine hK.out _ _ (fun h => not_yet (by kernel_rfl) h) (fun _ => ?_)
                  clear hK K
                  try simp only [Act.put, List.setIfInBounds_toArray, List.set_cons_zero, List.set_cons_succ]
                  refine wpAnyM_done (by kernel_rfl) ?_ _
                  clear hW4 o0 o1 o2 f0 f1 f2 hlo
                  obtain ⟨g0, g1, g2, g3, g4, g5, g6, g7⟩ := tgeo_cells pg4
                  obtain ⟨o0, o1, o2⟩ := tcells po4
                  have hlg := pg4.lt
                  have hlo := po4.lt
                  have HB : Hid (mayTB S B t' = true) := by
                    show _ = _
                    rw [HSn.out]
                    exact mayTB_iff.2 HMA.out.1
                  have hSm : TabSm t' := ⟨by rw [HMA.out.1.len]; have := HS16.out; omega, by have := HAL.out.1; have := HN.out; omega, by have := HAL.out.1; have := HN.out; omega⟩
                  obtain ⟨vS, vH, vQ, ev, t4S, t4H, t4Q⟩ := id T4
                  injection ev with ev
                  have ev := congrArg Array.toList ev
                  simp only [List.cons.injEq, and_true] at ev
                  obtain ⟨rfl, rfl, rfl⟩ := ev
                  go_wp2_with fail
                  refine (refTMay_any N S B P J L E T _ _ _ t' _ t4S t4H t4Q hSm).mono ?_
                  rintro e w5 ⟨rfl, hb5⟩
                  rw [HB.out]
                  have po5 := po4.below hb5 po4.lt
                  have pg5 := pg4.below hb5 pg4.lt
                  have T5 := T4.below hb5
                  have b5 := below_then hb4 hb5
                  obtain ⟨bH2, dH2, eH2, lH2, _, hH2, _⟩ := t4H.below hb5
                  injection eH2 with eH2 eH3 eH4
                  subst eH2 eH4
                  clear eH3
                  clear po4 pg4 T4 hb4 hb5 t4S t4H t4Q g0 g1 g2 g3 g4 g5 g6 g7 o0 o1 o2 hlg hlo hSm HB
                  obtain ⟨o0, o1, o2⟩ := tcells po5
                  have hlo := po5.lt
                  rw [HNN.out.2.1] at lH2
                  go_wp2_with fail
                  refine (refAll_any bH nH dH t'.ho _ lH2 (by have := HAL.out.1; have := HNN.out.2.1; have := HN.out; unfold maxLen; omega)).mono ?_
                  rintro e w7 ⟨rfl, hb7⟩
                  rw [HMA.out.1.all]
                  have po7 := po5.below hb7 po5.lt
                  have pg7 := pg5.below hb7 pg5.lt
                  have T7 := T5.below hb7
                  have b7 := below_then b5 hb7
                  clear po5 pg5 T5 b5 hb7 lH2 o0 o1 o2 hlo hH2
                  go_wp2_with fail
                  go_roundw
                  case rel => exact ⟨k + 1, t', _, _, _, _, _, _, _, _, _, by omega, by go_num, T7, po7, HMA, by have := HAL.out.1; omega, pg7, b7⟩
                  case measure => simp [intOf]; omega
              · have hkn : k = n := by omega
                clear hlt
                go_wp2_with fail
                refine (tMay_any N S B P J L E T _ t _ hT hTL.out S.toNat HSn.out hM.out.1 hM.out.2).mono ?_
                rintro e w5 ⟨rfl, hb5⟩
                have b5 := below_then hb hb5
                clear po pg hT hb hb5 g0 g1 g2 g3 g4 g5 g6 g7 o0 o1 o2 hlg hlo
                go_wp2_with fail
                refine (twakes_any _).mono ?_
                rintro e w6 ⟨rfl, hb6⟩
                have hz6 := below_then (b5) hb6
                go_wp2_with fail
                go_ret
                exact ⟨rfl, hz6⟩

/-! ### THE ROW's STEP -/
set_option maxRecDepth 100000 in
theorem lifted (os : Os) (started : os.Started) (H : Type) (enc : TypeId × Value → H) :
    ReturnsInHanded {} Try.checked os 3 .any (Rows.tableStaysSpec.pre6 enc Try.prog Try.f3 Rows.tableStaysRow.domain false) (Rows.tableStaysSpec.post enc Try.prog Try.f3 false true false false) := by
  refine returnsInHanded_of_change (C := Try.checked) own started (by kernel_rfl) Try.func3
    (ChangeSpec.witness6 (enc := enc) (C := Try.checked) false ⟨#[], #[.agg #[.int .i64 0, .int .i64 0, .int .i64 0, .int .i64 0, .int .i64 0, .int .i64 0, .int .i64 0, .int .i64 0], .slice none 0 0], []⟩ 8 (by kernel_rfl) (by kernel_rfl) (by kernel_rfl) (by kernel_rfl)) ?_
  intro W base args ds gs before hval0 hW hcnd _
  have hval : ∀ (j : Nat) t v, Try.f3.params[j]? = some t → args[j]? = some v → Value.okWide Try.prog W .any base t v := hval0
  have hW' := hW
  obtain ⟨p, q, hA0, hV, rfl, hfz, hnd⟩ := hW
  have hA : DataW.TrodAll enc Try.prog W 0 (fun _ => true) true Try.f3.params.toList args.toList ds p := hA0
  rw [Try.params3] at hA hval
  obtain ⟨v0, vs0, d0, ds0, p0, q0, hargs, rfl, rfl, h0, r0⟩ := trodAll_cons hA
  obtain ⟨v1, vs1, d1, ds1, p1, q1, rfl, rfl, rfl, h1, r1⟩ := trodAll_cons r0
  obtain ⟨rfl, rfl, rfl⟩ := trodAll_nil r1
  obtain rfl : args = #[v0, v1] := by cases args; simp_all
  obtain ⟨rfl, rfl⟩ := trodVars_none hV
  have k0 := h0
  have lt0 : ∀ x ∈ p0, x.block < W.heap.size := by obtain ⟨m, hm⟩ := k0; exact DataW.trod_lt m _ _ _ hm
  obtain ⟨g0, rfl⟩ := open_geo (hval 0 23 v0 rfl rfl) h0
  have k1 := h1
  have lt1 : ∀ x ∈ p1, x.block < W.heap.size := by obtain ⟨m, hm⟩ := k1; exact DataW.trod_lt m _ _ _ hm
  obtain ⟨a1, len1, cap1, L1, rfl, w1⟩ := open_cmds (hval 1 24 v1 rfl rfl) h1
  clear hA0 hval0
  refine (walk g0 a1 len1 cap1 L1 W w1).mono fun e W' ⟨he, bel⟩ => ?_
  subst he
  exact ⟨_, rfl, _, _, _, [], _, [], hW', trodAll_mk1 (shut_bool Try.underlying4 _), (trodAll_cons_mk (Below.trod laidOut (by kernel_rfl) (of_decide_eq_true (by kernel_rfl)) k0 bel lt0) (trodAll_cons_mk (Below.trod laidOut (by kernel_rfl) (of_decide_eq_true (by kernel_rfl)) k1 bel lt1) trodAll_mk0)), rfl, bel.frame _, fun h => by cases h⟩

theorem over : Rows.tableStaysRow.holds Try.pinned (OpenSpec.ofChange Rows.tableStaysSpec) :=
  OpenClaim.holds_of_wide 3 Try.f3 rfl rfl rfl rfl rfl rfl rfl ⟨rfl, rfl, rfl, rfl, rfl⟩ rfl rfl rfl rfl rfl (by kernel_rfl) Try.func3 (by kernel_rfl)
    (of_decide_eq_true (by kernel_rfl)) (by unfold Func.isWrapper; first | (rw [if_pos (by decide +kernel)]; kernel_rfl) | (rw [if_neg (by decide +kernel)]; exact ⟨rfl, rfl⟩))
    (fun os started H enc _ => lifted os started H enc)

/-- The statement. -/
theorem proved : Rows.TableStaysSaid := over
#print axioms proved
end Go.Proofs.Ytjknloaolennoaa.tableStays
