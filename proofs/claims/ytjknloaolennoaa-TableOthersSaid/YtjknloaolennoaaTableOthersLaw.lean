/-
  The statement TableOthers: a command of a key takes away no hold, and no queued one, of another key, but by granting it, unless it purges that key, and slots of others stay: for every geometry, table and command the call answers true and leaves its arguments as they were. No conditions.
-/
import Derived.Test.YtjknloaolennoaaTabWakes
import Derived.Test.YtjknloaolennoaaTabOpen
import Derived.Test.YtjknloaolennoaaJoinTabMay
import Derived.Test.YtjknloaolennoaaJoinTabLen
import Derived.Test.YtjknloaolennoaaCmdRefMay
import Derived.Test.YtjknloaolennoaaGeoArg
import Derived.Test.YtjknloaolennoaaHeldTo
import Derived.ProofKit
import Derived.Deep.DeepCutAuto
import Derived.Deep.CutBlock
import Derived.ShutString
import Derived.ChangeOld
import Derived.Below
import Derived.BigQuiet
namespace Go.Proofs.Ytjknloaolennoaa.tableOthers
open Go.ChangeShapes Go.WideShapes Go.ChangeAt Go.RowKit
open Go.ChangeMaps (open_string shut_string)
set_option linter.unusedVariables false
set_option linter.unusedSimpArgs false

theorem own : ownKnob Try.prog.godebug = none := by kernel_rfl
theorem laidOut : laidOutB Try.prog = true := by kernel_rfl
theorem great_no {a b c : Nat} (h : greatB a b c = false) : a ≤ 40 ∧ b ≤ 100 ∧ c ≤ 100 := by
  unfold greatB at h
  simp at h
  omega
theorem blk3 (w : World) (a b c : Array Value) (T U V : TypeId) : Below w.heap.size w (((w.alloc (.cells a T)).alloc (.cells b U)).alloc (.cells c V)) ∧ Blk (((w.alloc (.cells a T)).alloc (.cells b U)).alloc (.cells c V)) w.heap.size a T ∧ Blk (((w.alloc (.cells a T)).alloc (.cells b U)).alloc (.cells c V)) (w.heap.size + 1) b U ∧ Blk (((w.alloc (.cells a T)).alloc (.cells b U)).alloc (.cells c V)) (w.heap.size + 2) c V := by
  obtain ⟨p, q⟩ := blk2 w a b T U
  have b2 := two_new w (.cells a T) (.cells b U)
  have b3 := one_new ((w.alloc (.cells a T)).alloc (.cells b U)) (.cells c V)
  have r := Blk.new ((w.alloc (.cells a T)).alloc (.cells b U)) c V
  rw [show ((w.alloc (.cells a T)).alloc (.cells b U)).heap.size = w.heap.size + 2 by simp] at r
  exact ⟨below_then b2 b3, p.below b3 p.lt, q.below b3 q.lt, r⟩

set_option maxRecDepth 100000 in
set_option maxHeartbeats 4000000 in
theorem walk (g : G) (v : Value) (t : TabM) (z : CmdM) (w : World) (wT : TabAt w v t) (bT : TabBd t) (wz : CmdBd z) :
    Calls Try.prog 5 #[.agg #[.int .i64 g.N, .int .i64 g.S, .int .i64 g.B, .int .i64 g.P, .int .i64 g.J, .int .i64 g.L, .int .i64 g.E, .int .i64 g.T], v, .agg (cmdA z)] w fun e w' => e = .returned (.bool true) ∧ Below w.heap.size w w' := by
  obtain ⟨N, S, B, P, J, L, E, T⟩ := g
  obtain ⟨zk, zb, zs, zd, za, zl, zh, zm⟩ := z
  clear wz bT
  simp only
  rw [show cmdA ⟨zk, zb, zs, zd, za, zl, zh, zm⟩ = #[.int .i8 zk, .int .i64 zb, .int .i64 zs, .int .i64 zd, .int .i64 za, .int .i64 zl, .int .i64 zh, .int .i8 zm] from rfl]
  obtain ⟨aS, cS, aH, cH, aQ, cQ, ev⟩ := wT.shape
  subst ev
  obtain ⟨nS, hnS⟩ : ∃ m, t.sl.length = m := ⟨_, rfl⟩
  obtain ⟨nH, hnH⟩ : ∃ m, t.ho.length = m := ⟨_, rfl⟩
  obtain ⟨nQ, hnQ⟩ : ∃ m, t.qu.length = m := ⟨_, rfl⟩
  rw [hnS, hnH, hnQ] at wT ⊢
  have HNt := Lib.hid (And.intro hnS (And.intro hnH hnQ))
  clear hnS hnH hnQ
  obtain ⟨b0, pg, pt, pz⟩ := blk3 w #[.int .i64 N, .int .i64 S, .int .i64 B, .int .i64 P, .int .i64 J, .int .i64 L, .int .i64 E, .int .i64 T] #[.slice aS nS cS, .slice aH nH cH, .slice aQ nQ cQ] #[.int .i8 zk, .int .i64 zb, .int .i64 zs, .int .i64 zd, .int .i64 za, .int .i64 zl, .int .i64 zh, .int .i8 zm] 23 29 36
  obtain ⟨W0, hW0⟩ : ∃ W, W = ((w.alloc (.cells #[.int .i64 N, .int .i64 S, .int .i64 B, .int .i64 P, .int .i64 J, .int .i64 L, .int .i64 E, .int .i64 T] 23)).alloc (.cells #[.slice aS nS cS, .slice aH nH cH, .slice aQ nQ cQ] 29)).alloc (.cells #[.int .i8 zk, .int .i64 zb, .int .i64 zs, .int .i64 zd, .int .i64 za, .int .i64 zl, .int .i64 zh, .int .i8 zm] 36) := ⟨_, rfl⟩
  rw [← hW0] at b0 pg pt pz
  go_enter Try.func5, Try.ntmps5
  go_wp2_with fail
  rw [← hW0]
  clear hW0
  refine (refGreat_any aS aH aQ nS cS nH cH nQ cQ _).mono ?_
  rintro e w1 ⟨rfl, hx⟩
  have b1 := below_then b0 hx
  have pg1 := pg.below hx pg.lt
  have pt1 := pt.below hx pt.lt
  have pz1 := pz.below hx pz.lt
  clear hx b0 pg pt pz
  cases hg : greatB nS nH nQ with
  | true =>
    clear hg
    go_wp2_with fail
    refine (twakes_any _).mono ?_
    rintro e w6 ⟨rfl, hb6⟩
    have hz6 := below_then (b1) hb6
    go_wp2_with fail
    go_ret
    exact ⟨rfl, hz6⟩
  | false =>
    obtain ⟨l1, l2, l3⟩ := great_no hg
    have HLt : Hid (TabLt t) := ⟨by rw [HNt.out.1]; omega, by rw [HNt.out.2.1]; omega, by rw [HNt.out.2.2]; omega⟩
    clear hg
    obtain ⟨vS, vH, vQ, ev, tS, tH, tQ⟩ := wT.below b1
    injection ev with ev
    have ev := congrArg Array.toList ev
    simp only [List.cons.injEq, and_true] at ev
    obtain ⟨rfl, rfl, rfl⟩ := ev
    obtain ⟨g0, g1, g2, g3, g4, g5, g6, g7⟩ := tgeo_cells pg1
    obtain ⟨t0, t1, t2⟩ := tcells pt1
    have hlg := pg1.lt
    have hlt := pt1.lt
    go_wp2_with fail
    refine (refTMay_any N S B P J L E T _ _ _ t _ tS tH tQ HLt.out.sm).mono ?_
    rintro e w2 ⟨rfl, hx⟩
    have b2 := below_then b1 hx
    have pg2 := pg1.below hx pg1.lt
    have pt2 := pt1.below hx pt1.lt
    have pz2 := pz1.below hx pz1.lt
    clear hx b1 pg1 pt1 pz1 tS tH tQ g0 g1 g2 g3 g4 g5 g6 g7 t0 t1 t2 hlg hlt
    cases hm : mayTB S B t with
    | false =>
      clear hm
      go_wp2_with fail
      refine (twakes_any _).mono ?_
      rintro e w6 ⟨rfl, hb6⟩
      have hz6 := below_then (b2) hb6
      go_wp2_with fail
      go_ret
      exact ⟨rfl, hz6⟩
    | true =>
      have HMT := Lib.hid (mayTB_may hm)
      clear hm
      obtain ⟨y0, y1, y2, y3, y4, y5, y6, y7⟩ := cmd_cells pz2
      have hlz := pz2.lt
      go_wp2_with fail
      refine (refCMay_any zk zb zs zd za zl zh zm _).mono ?_
      rintro e w3 ⟨rfl, hx⟩
      have b3 := below_then b2 hx
      have pg3 := pg2.below hx pg2.lt
      have pt3 := pt2.below hx pt2.lt
      have pz3 := pz2.below hx pz2.lt
      clear hx b2 pg2 pt2 pz2 y0 y1 y2 y3 y4 y5 y6 y7 hlz
      cases hm : cMay ⟨zk, zb, zs, zd, za, zl, zh, zm⟩ with
      | false =>
        clear hm
        go_wp2_with fail
        refine (twakes_any _).mono ?_
        rintro e w6 ⟨rfl, hb6⟩
        have hz6 := below_then (b3) hb6
        go_wp2_with fail
        go_ret
        exact ⟨rfl, hz6⟩
      | true =>
        have hkd := Lib.hid (kind_may hm)
        clear hm
        have HOt := Lib.hid (others_apply (B := B) t ⟨zk, zb, zs, zd, za, zl, zh, zm⟩)
        have HAL := Lib.hid (apply_len B t ⟨zk, zb, zs, zd, za, zl, zh, zm⟩)
        obtain ⟨g0, g1, g2, g3, g4, g5, g6, g7⟩ := tgeo_cells pg3
        obtain ⟨t0, t1, t2⟩ := tcells pt3
        obtain ⟨y0, y1, y2, y3, y4, y5, y6, y7⟩ := cmd_cells pz3
        have hlg := pg3.lt
        have hlt := pt3.lt
        have hlz := pz3.lt
        have hT3 := wT.below b3
        have happ := Lib.hid (tApply_any N S B P J L E T _ t zk zb zs zd za zl zh zm _ hT3 HLt.out hkd.out HMT.out)
        obtain ⟨t', ht'⟩ : ∃ t', applyT B t ⟨zk, zb, zs, zd, za, zl, zh, zm⟩ = t' := ⟨_, rfl⟩
        rw [ht'] at HOt HAL happ
        clear ht'
        go_wp2_with fail
        refine happ.out.mono ?_
        rintro e w4 ⟨v4, rfl, T4, hx⟩
        obtain ⟨bS, dS, bH, dH, bQ, dQ, e4⟩ := T4.shape
        subst e4
        obtain ⟨mH, hmH⟩ : ∃ m, t'.ho.length = m := ⟨_, rfl⟩
        obtain ⟨mQ, hmQ⟩ : ∃ m, t'.qu.length = m := ⟨_, rfl⟩
        have HNN := Lib.hid (And.intro (HAL.out.2.trans HNt.out.1) (And.intro hmH hmQ))
        rw [HNN.out.1, hmH, hmQ] at T4 ⊢
        clear hmH hmQ happ
        have b4 := below_then b3 hx
        have pt4 := pt3.below hx pt3.lt
        have pz4 := pz3.below hx pz3.lt
        have hT4 := hT3.below hx
        clear hx b3 pg3 pt3 pz3 hT3 g0 g1 g2 g3 g4 g5 g6 g7 t0 t1 t2 y0 y1 y2 y3 y4 y5 y6 y7 hlg hlt hlz
        have po := Blk.new w4 #[.slice bS nS dS, .slice bH mH dH, .slice bQ mQ dQ] 29
        have bo := one_new w4 (.cells #[.slice bS nS dS, .slice bH mH dH, .slice bQ mQ dQ] 29)
        have pt5 := pt4.below bo pt4.lt
        have pz5 := pz4.below bo pz4.lt
        have b5 := below_then b4 bo
        have hT5 := hT4.below bo
        have T5 := T4.below bo
        obtain ⟨o, ho⟩ : ∃ o, w4.heap.size = o := ⟨_, rfl⟩
        clear b4 pt4 pz4 hT4 T4 bo
        have zne : ((nS : Int) != (nS : Int)) = false := by simp
        go_upto_region 4 with fail
        obtain ⟨V, hV⟩ : ∃ W, W = w4.alloc (.cells #[.slice bS nS dS, .slice bH mH dH, .slice bQ mQ dQ] 29) := ⟨_, rfl⟩
        rw [← hV] at po pt5 pz5 b5 hT5 T5 ⊢
        rw [ho] at po
        clear hV ho
        obtain ⟨vS, vH, vQ, ev, ⟨_, _, eS, lS, _⟩, ⟨_, _, eH, lH, _⟩, ⟨_, _, eQ, lQ, _⟩⟩ := hT5
        injection ev with ev
        have ev := congrArg Array.toList ev
        simp only [List.cons.injEq, and_true] at ev
        obtain ⟨rfl, rfl, rfl⟩ := ev
        injection eS with eS eS2 eS3
        injection eH with eH eH2 eH3
        injection eQ with eQ eQ2 eQ3
        subst eS eH eQ
        clear eS2 eS3 eH2 eH3 eQ2 eQ3
        obtain ⟨vS, vH, vQ, ev, ⟨_, _, eS, lS', _⟩, ⟨_, _, eH, lH', _⟩, ⟨_, _, eQ, lQ', _⟩⟩ := T5
        injection ev with ev
        have ev := congrArg Array.toList ev
        simp only [List.cons.injEq, and_true] at ev
        obtain ⟨rfl, rfl, rfl⟩ := ev
        injection eS with eS eS2 eS3
        injection eH with eH eH2 eH3
        injection eQ with eQ eQ2 eQ3
        subst eS eH eQ
        clear eS2 eS3 eH2 eH3 eQ2 eQ3
        rw [HNt.out.1] at lS
        rw [HNt.out.2.1] at lH
        rw [HNt.out.2.2] at lQ
        rw [HNN.out.1] at lS'
        rw [HNN.out.2.1] at lH'
        rw [HNN.out.2.2] at lQ'
        have HS : Hid (∀ W, Below V.heap.size V W → LiesS W W.heap.size aS nS t.sl) := fun W h => lS.below h
        have HH : Hid (∀ W, Below V.heap.size V W → LiesH W W.heap.size aH nH t.ho) := fun W h => lH.below h
        have HQ : Hid (∀ W, Below V.heap.size V W → LiesH W W.heap.size aQ nQ t.qu) := fun W h => lQ.below h
        have HS' : Hid (∀ W, Below V.heap.size V W → LiesS W W.heap.size bS nS t'.sl) := fun W h => lS'.below h
        have HH' : Hid (∀ W, Below V.heap.size V W → LiesH W W.heap.size bH mH t'.ho) := fun W h => lH'.below h
        have HQ' : Hid (∀ W, Below V.heap.size V W → LiesH W W.heap.size bQ mQ t'.qu) := fun W h => lQ'.below h
        have HM6 : Hid (mH ≤ 1000 ∧ mQ ≤ 1000) := by
          have h1 := HNt.out
          have h2 := HNN.out
          have h3 := HAL.out.1
          exact ⟨by omega, by omega⟩
        clear lS lH lQ lS' lH' lQ' HLt
        obtain ⟨t0, t1, t2⟩ := tcells pt5
        obtain ⟨o0, o1, o2⟩ := tcells po
        obtain ⟨y0, y1, y2, y3, y4, y5, y6, y7⟩ := cmd_cells pz5
        have hlt := pt5.lt
        have hlo := po.lt
        have hlz := pz5.lt
        obtain ⟨gz, hgz⟩ : ∃ x, Hid (goneK ⟨zk, zb, zs, zd, za, zl, zh, zm⟩ = x) := ⟨_, rfl⟩
        rw [hgz.out] at HOt
        go_upto_if 42 with fail
        go_cut [8] (fun v wx => v = .int .i64 gz ∧ wx = V)
        case first =>
          by_cases k5 : zk = 5
          · have HV : Hid (gz = zd) := by show _ = _; rw [← hgz.out]; unfold goneK; exact if_pos k5
            have z5 : (zk == 5) = true := beq_yes k5
            clear k5
            go_wp2_with fail
            go_meet
            exact ⟨by rw [HV.out], rfl⟩
          · have HV : Hid (gz = zb) := by show _ = _; rw [← hgz.out]; unfold goneK; exact if_neg k5
            have z5 : (zk == 5) = false := beq_no k5
            clear k5
            go_wp2_with fail
            go_meet
            exact ⟨by rw [HV.out], rfl⟩
        case rest =>
          obtain ⟨rfl, hwc⟩ := hcut
          obtain rfl := hwc.symm
          clear y0 y1 y2 y3 y4 y5 y6 y7 hlz
          go_wp2_with fail
          go_loopw [9] (fun v wr => ∃ i : Nat, i ≤ nH ∧ v = .int .i64 i ∧ Below V.heap.size V wr) (fun v _ => nH - (intOf v).toNat)
          case atStart => exact ⟨0, Nat.zero_le _, rfl, Below.refl _ _⟩
          case round =>
            obtain ⟨i, hi, rfl, hbr⟩ := hrel
            have hiq : i ≤ 1000 := by omega
            have pt1 := pt5.below hbr pt5.lt
            have po1 := po.below hbr po.lt
            obtain ⟨t0, t1, t2⟩ := tcells pt1
            obtain ⟨o0, o1, o2⟩ := tcells po1
            have hlt := pt1.lt
            have hlo := po1.lt
            by_cases hin : i < nH
            · have hil : i < t.ho.length := by rw [HNt.out.2.1]; exact hin
              obtain ⟨ad, e1, had, _⟩ := hol_cells (HH.out _ hbr) hin hil
              rename_i q0
              clear q0
              subst e1
              obtain ⟨kx, lx, hx, mx, hxx⟩ : ∃ kx lx hx' mx, t.ho[i] = (⟨kx, ⟨lx, hx'⟩, mx⟩ : HoldM) := ⟨_, _, _, _, rfl⟩
              have HXm : Hid (⟨kx, ⟨lx, hx⟩, mx⟩ ∈ t.ho) := by show _ ∈ _; rw [← hxx]; exact List.getElem_mem hil
              have hAd : Hid (∀ W, Below V.heap.size V W → W.cell? (ad.add (i * 4)) = some (.int .i64 kx) ∧ W.cell? ⟨(ad.add (i * 4)).block, (ad.add (i * 4)).off + 1, none⟩ = some (.int .i64 lx) ∧ W.cell? ⟨(ad.add (i * 4)).block, (ad.add (i * 4)).off + 2, none⟩ = some (.int .i64 hx) ∧ W.cell? ⟨(ad.add (i * 4)).block, (ad.add (i * 4)).off + 3, none⟩ = some (.int .i8 mx)) := fun W hW => by
                obtain ⟨ad', e1, _, q⟩ := hol_cells (HH.out _ hW) hin hil
                injection e1 with e1
                subst e1
                rw [hxx] at q
                exact q
              clear hxx hil
              obtain ⟨r1', hr1⟩ : ∃ r, Hid (hasB t'.ho ⟨kx, ⟨lx, hx⟩, mx⟩ = r) := ⟨_, rfl⟩
              obtain ⟨r2', hr2⟩ : ∃ r, Hid (hasB t'.qu ⟨kx, ⟨lx, hx⟩, mx⟩ = r) := ⟨_, rfl⟩
              have hS : ∀ W, Below V.heap.size V W → (W.cell? ⟨(w.heap.size + 1), 0, none⟩ = some (.slice aS nS cS) ∧ W.cell? ⟨(w.heap.size + 1), 1, none⟩ = some (.slice (some ad) nH cH) ∧ W.cell? ⟨(w.heap.size + 1), 2, none⟩ = some (.slice aQ nQ cQ)) ∧ (W.cell? ⟨o, 0, none⟩ = some (.slice bS nS dS) ∧ W.cell? ⟨o, 1, none⟩ = some (.slice bH mH dH) ∧ W.cell? ⟨o, 2, none⟩ = some (.slice bQ mQ dQ)) ∧ (W.cell? (ad.add (i * 4)) = some (.int .i64 kx) ∧ W.cell? ⟨(ad.add (i * 4)).block, (ad.add (i * 4)).off + 1, none⟩ = some (.int .i64 lx) ∧ W.cell? ⟨(ad.add (i * 4)).block, (ad.add (i * 4)).off + 2, none⟩ = some (.int .i64 hx) ∧ W.cell? ⟨(ad.add (i * 4)).block, (ad.add (i * 4)).off + 3, none⟩ = some (.int .i8 mx)) ∧ Below V.heap.size V W := fun W h => ⟨tcells (pt5.below h pt5.lt), tcells (po.below h po.lt), hAd.out W h, h⟩
              have hHas1 : ∀ c W, (W.cell? ⟨(w.heap.size + 1), 0, none⟩ = some (.slice aS nS cS) ∧ W.cell? ⟨(w.heap.size + 1), 1, none⟩ = some (.slice (some ad) nH cH) ∧ W.cell? ⟨(w.heap.size + 1), 2, none⟩ = some (.slice aQ nQ cQ)) ∧ (W.cell? ⟨o, 0, none⟩ = some (.slice bS nS dS) ∧ W.cell? ⟨o, 1, none⟩ = some (.slice bH mH dH) ∧ W.cell? ⟨o, 2, none⟩ = some (.slice bQ mQ dQ)) ∧ (W.cell? (ad.add (i * 4)) = some (.int .i64 kx) ∧ W.cell? ⟨(ad.add (i * 4)).block, (ad.add (i * 4)).off + 1, none⟩ = some (.int .i64 lx) ∧ W.cell? ⟨(ad.add (i * 4)).block, (ad.add (i * 4)).off + 2, none⟩ = some (.int .i64 hx) ∧ W.cell? ⟨(ad.add (i * 4)).block, (ad.add (i * 4)).off + 3, none⟩ = some (.int .i8 mx)) ∧ Below V.heap.size V W → Calls Try.prog 13 #[.slice bH mH c, .agg #[.int .i64 kx, .int .i64 lx, .int .i64 hx, .int .i8 mx]] W fun e W => e = .returned (.bool r1') ∧ (W.cell? ⟨(w.heap.size + 1), 0, none⟩ = some (.slice aS nS cS) ∧ W.cell? ⟨(w.heap.size + 1), 1, none⟩ = some (.slice (some ad) nH cH) ∧ W.cell? ⟨(w.heap.size + 1), 2, none⟩ = some (.slice aQ nQ cQ)) ∧ (W.cell? ⟨o, 0, none⟩ = some (.slice bS nS dS) ∧ W.cell? ⟨o, 1, none⟩ = some (.slice bH mH dH) ∧ W.cell? ⟨o, 2, none⟩ = some (.slice bQ mQ dQ)) ∧ (W.cell? (ad.add (i * 4)) = some (.int .i64 kx) ∧ W.cell? ⟨(ad.add (i * 4)).block, (ad.add (i * 4)).off + 1, none⟩ = some (.int .i64 lx) ∧ W.cell? ⟨(ad.add (i * 4)).block, (ad.add (i * 4)).off + 2, none⟩ = some (.int .i64 hx) ∧ W.cell? ⟨(ad.add (i * 4)).block, (ad.add (i * 4)).off + 3, none⟩ = some (.int .i8 mx)) ∧ Below V.heap.size V W := fun c W h => (has_law bH mH c t'.ho kx lx hx mx W (HH'.out W h.2.2.2) (by have := HM6.out; unfold maxLen; omega)).mono (by
                rintro e w' ⟨rfl, hb⟩
                exact ⟨by rw [hr1.out], hS _ (below_then h.2.2.2 hb)⟩)
              have hHas2 : ∀ c W, (W.cell? ⟨(w.heap.size + 1), 0, none⟩ = some (.slice aS nS cS) ∧ W.cell? ⟨(w.heap.size + 1), 1, none⟩ = some (.slice (some ad) nH cH) ∧ W.cell? ⟨(w.heap.size + 1), 2, none⟩ = some (.slice aQ nQ cQ)) ∧ (W.cell? ⟨o, 0, none⟩ = some (.slice bS nS dS) ∧ W.cell? ⟨o, 1, none⟩ = some (.slice bH mH dH) ∧ W.cell? ⟨o, 2, none⟩ = some (.slice bQ mQ dQ)) ∧ (W.cell? (ad.add (i * 4)) = some (.int .i64 kx) ∧ W.cell? ⟨(ad.add (i * 4)).block, (ad.add (i * 4)).off + 1, none⟩ = some (.int .i64 lx) ∧ W.cell? ⟨(ad.add (i * 4)).block, (ad.add (i * 4)).off + 2, none⟩ = some (.int .i64 hx) ∧ W.cell? ⟨(ad.add (i * 4)).block, (ad.add (i * 4)).off + 3, none⟩ = some (.int .i8 mx)) ∧ Below V.heap.size V W → Calls Try.prog 13 #[.slice bQ mQ c, .agg #[.int .i64 kx, .int .i64 lx, .int .i64 hx, .int .i8 mx]] W fun e W => e = .returned (.bool r2') ∧ (W.cell? ⟨(w.heap.size + 1), 0, none⟩ = some (.slice aS nS cS) ∧ W.cell? ⟨(w.heap.size + 1), 1, none⟩ = some (.slice (some ad) nH cH) ∧ W.cell? ⟨(w.heap.size + 1), 2, none⟩ = some (.slice aQ nQ cQ)) ∧ (W.cell? ⟨o, 0, none⟩ = some (.slice bS nS dS) ∧ W.cell? ⟨o, 1, none⟩ = some (.slice bH mH dH) ∧ W.cell? ⟨o, 2, none⟩ = some (.slice bQ mQ dQ)) ∧ (W.cell? (ad.add (i * 4)) = some (.int .i64 kx) ∧ W.cell? ⟨(ad.add (i * 4)).block, (ad.add (i * 4)).off + 1, none⟩ = some (.int .i64 lx) ∧ W.cell? ⟨(ad.add (i * 4)).block, (ad.add (i * 4)).off + 2, none⟩ = some (.int .i64 hx) ∧ W.cell? ⟨(ad.add (i * 4)).block, (ad.add (i * 4)).off + 3, none⟩ = some (.int .i8 mx)) ∧ Below V.heap.size V W := fun c W h => (has_law bQ mQ c t'.qu kx lx hx mx W (HQ'.out W h.2.2.2) (by have := HM6.out; unfold maxLen; omega)).mono (by
                rintro e w' ⟨rfl, hb⟩
                exact ⟨by rw [hr2.out], hS _ (below_then h.2.2.2 hb)⟩)
              have hD := hS _ hbr.drew
              rcases zk1 : kx == gz with _ | _
              · have e1 : r1' = true := by
                  rw [← hr1.out]
                  exact hasB_iff.2 (HOt.out.ho _ HXm.out (by simpa using zk1))
                subst e1
                have zk2 : (kx != gz) = true := by unfold bne; rw [zk1]; rfl
                go_upto_region 12 with fail
                refine wp_region_held_drew (S := (fun W => (W.cell? ⟨(w.heap.size + 1), 0, none⟩ = some (.slice aS nS cS) ∧ W.cell? ⟨(w.heap.size + 1), 1, none⟩ = some (.slice (some ad) nH cH) ∧ W.cell? ⟨(w.heap.size + 1), 2, none⟩ = some (.slice aQ nQ cQ)) ∧ (W.cell? ⟨o, 0, none⟩ = some (.slice bS nS dS) ∧ W.cell? ⟨o, 1, none⟩ = some (.slice bH mH dH) ∧ W.cell? ⟨o, 2, none⟩ = some (.slice bQ mQ dQ)) ∧ (W.cell? (ad.add (i * 4)) = some (.int .i64 kx) ∧ W.cell? ⟨(ad.add (i * 4)).block, (ad.add (i * 4)).off + 1, none⟩ = some (.int .i64 lx) ∧ W.cell? ⟨(ad.add (i * 4)).block, (ad.add (i * 4)).off + 2, none⟩ = some (.int .i64 hx) ∧ W.cell? ⟨(ad.add (i * 4)).block, (ad.add (i * 4)).off + 3, none⟩ = some (.int .i8 mx)) ∧ Below V.heap.size V W)) (by kernel_rfl) ?_ (fun hHeld => ?_)
                focus (exact hS _ hbr.drew)
                refine wpAnyH_take (i := 0) (oi := ⟨some 52, _, _, _, _, _⟩) (v := ?_) rfl (by kernel_rfl) (by kernel_rfl) (by kernel_rfl) (fun _ _ _ h => h) (Or.inl ⟨by rfl, ?_⟩) (by assumption) ?_
                rotate_left
                focus (intro wq hSq; (try dsimp only at hSq); go_simp; try with_reducible rfl)
                try simp only [Act.put, List.setIfInBounds_toArray, List.set_cons_zero, List.set_cons_succ]
                refine wpAnyH_take (i := 1) (oi := ⟨some 53, _, _, _, _, _⟩) (v := ?_) rfl (by kernel_rfl) (by kernel_rfl) (by kernel_rfl) (fun _ _ _ h => h) (Or.inl ⟨by rfl, ?_⟩) (by assumption) ?_
                rotate_left
                focus (intro wq hSq; (try dsimp only at hSq); go_simp; try with_reducible rfl)
                try simp only [Act.put, List.setIfInBounds_toArray, List.set_cons_zero, List.set_cons_succ]
                refine wpAnyH_take (i := 2) (oi := ⟨some 54, _, _, _, _, _⟩) (v := ?_) rfl (by kernel_rfl) (by kernel_rfl) (by kernel_rfl) (fun _ _ _ h => h) (Or.inl ⟨by rfl, ?_⟩) (by assumption) ?_
                rotate_left
                focus (intro wq hSq; (try dsimp only at hSq); go_simp; try with_reducible rfl)
                try simp only [Act.put, List.setIfInBounds_toArray, List.set_cons_zero, List.set_cons_succ]
                refine wpAnyH_take (i := 3) (oi := ⟨some 55, _, _, _, _, _⟩) (v := ?_) rfl (by kernel_rfl) (by kernel_rfl) (by kernel_rfl) (fun _ _ _ h => h) (Or.inl ⟨by rfl, ?_⟩) (by assumption) ?_
                rotate_left
                focus (intro wq hSq; (try dsimp only at hSq); go_simp; try with_reducible rfl)
                try simp only [Act.put, List.setIfInBounds_toArray, List.set_cons_zero, List.set_cons_succ]
                refine wpAnyH_take (i := 4) (oi := ⟨some 56, _, _, _, _, _⟩) (v := ?_) rfl (by kernel_rfl) (by kernel_rfl) (by kernel_rfl) (fun _ _ _ h => h) (Or.inl ⟨by rfl, ?_⟩) (by assumption) ?_
                rotate_left
                focus (intro wq hSq; (try dsimp only at hSq); go_simp; try with_reducible rfl)
                try simp only [Act.put, List.setIfInBounds_toArray, List.set_cons_zero, List.set_cons_succ]
                refine wpAnyH_take (i := 5) (oi := ⟨some 57, _, _, _, _, _⟩) (v := ?_) rfl (by kernel_rfl) (by kernel_rfl) (by kernel_rfl) (fun _ _ _ h => h) (Or.inl ⟨by rfl, ?_⟩) (by assumption) ?_
                rotate_left
                focus (intro wq hSq; (try dsimp only at hSq); go_simp; try with_reducible rfl)
                try simp only [Act.put, List.setIfInBounds_toArray, List.set_cons_zero, List.set_cons_succ]
                refine wpAnyH_take (i := 6) (oi := ⟨some 58, _, _, _, _, _⟩) (v := ?_) rfl (by kernel_rfl) (by kernel_rfl) (by kernel_rfl) (fun _ _ _ h => h) (Or.inl ⟨by rfl, ?_⟩) (by assumption) ?_
                rotate_left
                focus (intro wq hSq; (try dsimp only at hSq); go_simp; try with_reducible rfl)
                try simp only [Act.put, List.setIfInBounds_toArray, List.set_cons_zero, List.set_cons_succ]
                refine wpAnyH_take (i := 7) (oi := ⟨some 59, _, _, _, _, _⟩) (v := ?_) rfl (by kernel_rfl) (by kernel_rfl) (by kernel_rfl) (fun _ _ _ h => h) (Or.inl ⟨by rfl, ?_⟩) (by assumption) ?_
                rotate_left
                focus (intro wq hSq; (try dsimp only at hSq); go_simp; try with_reducible rfl)
                try simp only [Act.put, List.setIfInBounds_toArray, List.set_cons_zero, List.set_cons_succ]
                refine wpAnyH_take (i := 8) (oi := ⟨some 60, _, _, _, _, _⟩) (v := ?_) rfl (by kernel_rfl) (by kernel_rfl) (by kernel_rfl) (fun _ _ _ h => h) (Or.inl ⟨by rfl, ?_⟩) (by assumption) ?_
                rotate_left
                focus (intro wq hSq; (try dsimp only at hSq); go_simp; try with_reducible rfl)
                try simp only [Act.put, List.setIfInBounds_toArray, List.set_cons_zero, List.set_cons_succ]
                refine wpAnyH_take (i := 9) (oi := ⟨some 61, _, _, _, _, _⟩) (v := ?_) rfl (by kernel_rfl) (by kernel_rfl) (by kernel_rfl) (fun _ _ _ h => h) (Or.inl ⟨by rfl, ?_⟩) (by assumption) ?_
                rotate_left
                focus (intro wq hSq; (try dsimp only at hSq); go_simp; try with_reducible rfl)
                try simp only [Act.put, List.setIfInBounds_toArray, List.set_cons_zero, List.set_cons_succ]
                refine wpAnyH_take (i := 10) (oi := ⟨some 62, _, _, _, _, _⟩) (v := ?_) rfl (by kernel_rfl) (by kernel_rfl) (by kernel_rfl) (fun _ _ _ h => h) (Or.inl ⟨by rfl, ?_⟩) (by assumption) ?_
                rotate_left
                focus (intro wq hSq; (try dsimp only at hSq); go_simp; try with_reducible rfl)
                try simp only [Act.put, List.setIfInBounds_toArray, List.set_cons_zero, List.set_cons_succ]
                refine wpAnyH_take (i := 11) (oi := ⟨some 63, _, _, _, _, _⟩) (v := ?_) rfl (by kernel_rfl) (by kernel_rfl) (by kernel_rfl) (fun _ _ _ h => h) (Or.inl ⟨by rfl, ?_⟩) (by assumption) ?_
                rotate_left
                focus (intro wq hSq; (try dsimp only at hSq); go_simp; try with_reducible rfl)
                try simp only [Act.put, List.setIfInBounds_toArray, List.set_cons_zero, List.set_cons_succ]
                refine wpAnyH_take (i := 12) (oi := ⟨some 64, _, _, _, _, _⟩) (v := ?_) rfl (by kernel_rfl) (by kernel_rfl) (by kernel_rfl) (fun _ _ _ h => h) (Or.inl ⟨by rfl, ?_⟩) (by assumption) ?_
                rotate_left
                focus (intro wq hSq; (try dsimp only at hSq); go_simp; try with_reducible rfl)
                try simp only [Act.put, List.setIfInBounds_toArray, List.set_cons_zero, List.set_cons_succ]
                refine wpAnyH_take (i := 13) (oi := ⟨some 65, _, _, _, _, _⟩) (v := ?_) rfl (by kernel_rfl) (by kernel_rfl) (by kernel_rfl) (fun _ _ _ h => h) (Or.inl ⟨by rfl, ?_⟩) (by assumption) ?_
                rotate_left
                focus (intro wq hSq; (try dsimp only at hSq); go_simp; try with_reducible rfl)
                try simp only [Act.put, List.setIfInBounds_toArray, List.set_cons_zero, List.set_cons_succ]
                refine wpAnyH_take (i := 14) (oi := ⟨some 66, _, _, _, _, _⟩) (v := ?_) rfl (by kernel_rfl) (by kernel_rfl) (by kernel_rfl) (fun _ _ _ h => h) (Or.inl ⟨by rfl, ?_⟩) (by assumption) ?_
                rotate_left
                focus (intro wq hSq; (try dsimp only at hSq); go_simp; try with_reducible rfl)
                try simp only [Act.put, List.setIfInBounds_toArray, List.set_cons_zero, List.set_cons_succ]
                refine wpAnyH_take (i := 15) (oi := ⟨some 67, _, _, _, _, _⟩) (v := ?_) rfl (by kernel_rfl) (by kernel_rfl) (by kernel_rfl) (fun _ _ _ h => h) (Or.inl ⟨by rfl, ?_⟩) (by assumption) ?_
                rotate_left
                focus (intro wq hSq; (try dsimp only at hSq); go_simp; try with_reducible rfl)
                try simp only [Act.put, List.setIfInBounds_toArray, List.set_cons_zero, List.set_cons_succ]
                refine wpAnyH_ready (rs := [16]) (by kernel_rfl) (by simp) ?_
                refine AllReadyH.cons (o := ⟨some 68, _, _, _, _, _⟩) rfl (fun K hK => ?_) AllReadyH.nil
                go_simp
                go_at_call 13
                first | (with_reducible refine (hHas1 _ _ ?_).mono ?_) | (with_reducible refine (hHas2 _ _ ?_).mono ?_)
                assumption
                rintro e W2 ⟨rfl, hN⟩
                go_wp2_with fail
                refine hK.out _ _ ?_ (fun hHeld => ?_)
                focus (exact hN)
                clear hK K
                try simp only [Act.put, List.setIfInBounds_toArray, List.set_cons_zero, List.set_cons_succ]
                refine wpAnyH_take (i := 17) (oi := ⟨some 69, _, _, _, _, _⟩) (v := ?_) rfl (by kernel_rfl) (by kernel_rfl) (by kernel_rfl) (fun _ _ _ h => h) (Or.inl ⟨by rfl, ?_⟩) (by assumption) ?_
                rotate_left
                focus (intro wq hSq; (try dsimp only at hSq); go_simp; try with_reducible rfl)
                try simp only [Act.put, List.setIfInBounds_toArray, List.set_cons_zero, List.set_cons_succ]
                refine wpAnyH_take (i := 18) (oi := ⟨some 70, _, _, _, _, _⟩) (v := ?_) rfl (by kernel_rfl) (by kernel_rfl) (by kernel_rfl) (fun _ _ _ h => h) (Or.inl ⟨by rfl, ?_⟩) (by assumption) ?_
                rotate_left
                focus (intro wq hSq; (try dsimp only at hSq); go_simp; try with_reducible rfl)
                try simp only [Act.put, List.setIfInBounds_toArray, List.set_cons_zero, List.set_cons_succ]
                refine wpAnyH_done (by kernel_rfl) ?_ _
                go_wp2_with fail
                go_roundw
                case rel => exact ⟨i + 1, by omega, by go_num, hHeld.2.2.2⟩
                case measure => simp [intOf]; omega
              · have zk2 : (kx != gz) = false := by unfold bne; rw [zk1]; rfl
                go_upto_region 12 with fail
                refine wp_region_held_drew (S := (fun W => (W.cell? ⟨(w.heap.size + 1), 0, none⟩ = some (.slice aS nS cS) ∧ W.cell? ⟨(w.heap.size + 1), 1, none⟩ = some (.slice (some ad) nH cH) ∧ W.cell? ⟨(w.heap.size + 1), 2, none⟩ = some (.slice aQ nQ cQ)) ∧ (W.cell? ⟨o, 0, none⟩ = some (.slice bS nS dS) ∧ W.cell? ⟨o, 1, none⟩ = some (.slice bH mH dH) ∧ W.cell? ⟨o, 2, none⟩ = some (.slice bQ mQ dQ)) ∧ (W.cell? (ad.add (i * 4)) = some (.int .i64 kx) ∧ W.cell? ⟨(ad.add (i * 4)).block, (ad.add (i * 4)).off + 1, none⟩ = some (.int .i64 lx) ∧ W.cell? ⟨(ad.add (i * 4)).block, (ad.add (i * 4)).off + 2, none⟩ = some (.int .i64 hx) ∧ W.cell? ⟨(ad.add (i * 4)).block, (ad.add (i * 4)).off + 3, none⟩ = some (.int .i8 mx)) ∧ Below V.heap.size V W)) (by kernel_rfl) ?_ (fun hHeld => ?_)
                focus (exact hS _ hbr.drew)
                refine wpAnyH_take (i := 0) (oi := ⟨some 52, _, _, _, _, _⟩) (v := ?_) rfl (by kernel_rfl) (by kernel_rfl) (by kernel_rfl) (fun _ _ _ h => h) (Or.inl ⟨by rfl, ?_⟩) (by assumption) ?_
                rotate_left
                focus (intro wq hSq; (try dsimp only at hSq); go_simp; try with_reducible rfl)
                try simp only [Act.put, List.setIfInBounds_toArray, List.set_cons_zero, List.set_cons_succ]
                refine wpAnyH_take (i := 1) (oi := ⟨some 53, _, _, _, _, _⟩) (v := ?_) rfl (by kernel_rfl) (by kernel_rfl) (by kernel_rfl) (fun _ _ _ h => h) (Or.inl ⟨by rfl, ?_⟩) (by assumption) ?_
                rotate_left
                focus (intro wq hSq; (try dsimp only at hSq); go_simp; try with_reducible rfl)
                try simp only [Act.put, List.setIfInBounds_toArray, List.set_cons_zero, List.set_cons_succ]
                refine wpAnyH_take (i := 2) (oi := ⟨some 54, _, _, _, _, _⟩) (v := ?_) rfl (by kernel_rfl) (by kernel_rfl) (by kernel_rfl) (fun _ _ _ h => h) (Or.inl ⟨by rfl, ?_⟩) (by assumption) ?_
                rotate_left
                focus (intro wq hSq; (try dsimp only at hSq); go_simp; try with_reducible rfl)
                try simp only [Act.put, List.setIfInBounds_toArray, List.set_cons_zero, List.set_cons_succ]
                refine wpAnyH_take (i := 3) (oi := ⟨some 55, _, _, _, _, _⟩) (v := ?_) rfl (by kernel_rfl) (by kernel_rfl) (by kernel_rfl) (fun _ _ _ h => h) (Or.inl ⟨by rfl, ?_⟩) (by assumption) ?_
                rotate_left
                focus (intro wq hSq; (try dsimp only at hSq); go_simp; try with_reducible rfl)
                try simp only [Act.put, List.setIfInBounds_toArray, List.set_cons_zero, List.set_cons_succ]
                refine wpAnyH_take (i := 4) (oi := ⟨some 56, _, _, _, _, _⟩) (v := ?_) rfl (by kernel_rfl) (by kernel_rfl) (by kernel_rfl) (fun _ _ _ h => h) (Or.inl ⟨by rfl, ?_⟩) (by assumption) ?_
                rotate_left
                focus (intro wq hSq; (try dsimp only at hSq); go_simp; try with_reducible rfl)
                try simp only [Act.put, List.setIfInBounds_toArray, List.set_cons_zero, List.set_cons_succ]
                refine wpAnyH_take (i := 5) (oi := ⟨some 57, _, _, _, _, _⟩) (v := ?_) rfl (by kernel_rfl) (by kernel_rfl) (by kernel_rfl) (fun _ _ _ h => h) (Or.inl ⟨by rfl, ?_⟩) (by assumption) ?_
                rotate_left
                focus (intro wq hSq; (try dsimp only at hSq); go_simp; try with_reducible rfl)
                try simp only [Act.put, List.setIfInBounds_toArray, List.set_cons_zero, List.set_cons_succ]
                refine wpAnyH_take (i := 6) (oi := ⟨some 58, _, _, _, _, _⟩) (v := ?_) rfl (by kernel_rfl) (by kernel_rfl) (by kernel_rfl) (fun _ _ _ h => h) (Or.inl ⟨by rfl, ?_⟩) (by assumption) ?_
                rotate_left
                focus (intro wq hSq; (try dsimp only at hSq); go_simp; try with_reducible rfl)
                try simp only [Act.put, List.setIfInBounds_toArray, List.set_cons_zero, List.set_cons_succ]
                refine wpAnyH_take (i := 7) (oi := ⟨some 59, _, _, _, _, _⟩) (v := ?_) rfl (by kernel_rfl) (by kernel_rfl) (by kernel_rfl) (fun _ _ _ h => h) (Or.inl ⟨by rfl, ?_⟩) (by assumption) ?_
                rotate_left
                focus (intro wq hSq; (try dsimp only at hSq); go_simp; try with_reducible rfl)
                try simp only [Act.put, List.setIfInBounds_toArray, List.set_cons_zero, List.set_cons_succ]
                refine wpAnyH_take (i := 8) (oi := ⟨some 60, _, _, _, _, _⟩) (v := ?_) rfl (by kernel_rfl) (by kernel_rfl) (by kernel_rfl) (fun _ _ _ h => h) (Or.inl ⟨by rfl, ?_⟩) (by assumption) ?_
                rotate_left
                focus (intro wq hSq; (try dsimp only at hSq); go_simp; try with_reducible rfl)
                try simp only [Act.put, List.setIfInBounds_toArray, List.set_cons_zero, List.set_cons_succ]
                refine wpAnyH_take (i := 9) (oi := ⟨some 61, _, _, _, _, _⟩) (v := undef) rfl (by kernel_rfl) (by kernel_rfl) (by kernel_rfl) (fun _ _ _ h => h) (Or.inr ⟨by rfl, rfl⟩) (by assumption) ?_
                try simp only [Act.put, List.setIfInBounds_toArray, List.set_cons_zero, List.set_cons_succ]
                refine wpAnyH_take (i := 10) (oi := ⟨some 62, _, _, _, _, _⟩) (v := undef) rfl (by kernel_rfl) (by kernel_rfl) (by kernel_rfl) (fun _ _ _ h => h) (Or.inr ⟨by rfl, rfl⟩) (by assumption) ?_
                try simp only [Act.put, List.setIfInBounds_toArray, List.set_cons_zero, List.set_cons_succ]
                refine wpAnyH_take (i := 11) (oi := ⟨some 63, _, _, _, _, _⟩) (v := undef) rfl (by kernel_rfl) (by kernel_rfl) (by kernel_rfl) (fun _ _ _ h => h) (Or.inr ⟨by rfl, rfl⟩) (by assumption) ?_
                try simp only [Act.put, List.setIfInBounds_toArray, List.set_cons_zero, List.set_cons_succ]
                refine wpAnyH_take (i := 12) (oi := ⟨some 64, _, _, _, _, _⟩) (v := undef) rfl (by kernel_rfl) (by kernel_rfl) (by kernel_rfl) (fun _ _ _ h => h) (Or.inr ⟨by rfl, rfl⟩) (by assumption) ?_
                try simp only [Act.put, List.setIfInBounds_toArray, List.set_cons_zero, List.set_cons_succ]
                refine wpAnyH_take (i := 13) (oi := ⟨some 65, _, _, _, _, _⟩) (v := undef) rfl (by kernel_rfl) (by kernel_rfl) (by kernel_rfl) (fun _ _ _ h => h) (Or.inr ⟨by rfl, rfl⟩) (by assumption) ?_
                try simp only [Act.put, List.setIfInBounds_toArray, List.set_cons_zero, List.set_cons_succ]
                refine wpAnyH_take (i := 14) (oi := ⟨some 66, _, _, _, _, _⟩) (v := undef) rfl (by kernel_rfl) (by kernel_rfl) (by kernel_rfl) (fun _ _ _ h => h) (Or.inr ⟨by rfl, rfl⟩) (by assumption) ?_
                try simp only [Act.put, List.setIfInBounds_toArray, List.set_cons_zero, List.set_cons_succ]
                refine wpAnyH_take (i := 15) (oi := ⟨some 67, _, _, _, _, _⟩) (v := undef) rfl (by kernel_rfl) (by kernel_rfl) (by kernel_rfl) (fun _ _ _ h => h) (Or.inr ⟨by rfl, rfl⟩) (by assumption) ?_
                try simp only [Act.put, List.setIfInBounds_toArray, List.set_cons_zero, List.set_cons_succ]
                refine wpAnyH_take (i := 16) (oi := ⟨some 68, _, _, _, _, _⟩) (v := undef) rfl (by kernel_rfl) (by kernel_rfl) (by kernel_rfl) (fun _ _ _ h => h) (Or.inr ⟨by rfl, rfl⟩) (by assumption) ?_
                try simp only [Act.put, List.setIfInBounds_toArray, List.set_cons_zero, List.set_cons_succ]
                refine wpAnyH_take (i := 17) (oi := ⟨some 69, _, _, _, _, _⟩) (v := undef) rfl (by kernel_rfl) (by kernel_rfl) (by kernel_rfl) (fun _ _ _ h => h) (Or.inr ⟨by rfl, rfl⟩) (by assumption) ?_
                try simp only [Act.put, List.setIfInBounds_toArray, List.set_cons_zero, List.set_cons_succ]
                refine wpAnyH_take (i := 18) (oi := ⟨some 70, _, _, _, _, _⟩) (v := ?_) rfl (by kernel_rfl) (by kernel_rfl) (by kernel_rfl) (fun _ _ _ h => h) (Or.inl ⟨by rfl, ?_⟩) (by assumption) ?_
                rotate_left
                focus (intro wq hSq; (try dsimp only at hSq); go_simp; try with_reducible rfl)
                try simp only [Act.put, List.setIfInBounds_toArray, List.set_cons_zero, List.set_cons_succ]
                refine wpAnyH_done (by kernel_rfl) ?_ _
                go_wp2_with fail
                go_roundw
                case rel => exact ⟨i + 1, by omega, by go_num, hHeld.2.2.2⟩
                case measure => simp [intOf]; omega
            · obtain rfl : nH = i := by omega
              clear hin
              go_wp2_with fail
              go_loopw [10] (fun v wr => ∃ i : Nat, i ≤ nQ ∧ v = .int .i64 i ∧ Below V.heap.size V wr) (fun v _ => nQ - (intOf v).toNat)
              case atStart => exact ⟨0, Nat.zero_le _, rfl, hbr⟩
              case round =>
                clear hbr hiq
                obtain ⟨i, hi, rfl, hbr⟩ := hrel
                have hiq : i ≤ 1000 := by omega
                have pt1 := pt5.below hbr pt5.lt
                have po1 := po.below hbr po.lt
                obtain ⟨t0, t1, t2⟩ := tcells pt1
                obtain ⟨o0, o1, o2⟩ := tcells po1
                have hlt := pt1.lt
                have hlo := po1.lt
                by_cases hin : i < nQ
                · have hil : i < t.qu.length := by rw [HNt.out.2.2]; exact hin
                  obtain ⟨ad, e1, had, _⟩ := hol_cells (HQ.out _ hbr) hin hil
                  rename_i q0
                  clear q0
                  subst e1
                  obtain ⟨kx, lx, hx, mx, hxx⟩ : ∃ kx lx hx' mx, t.qu[i] = (⟨kx, ⟨lx, hx'⟩, mx⟩ : HoldM) := ⟨_, _, _, _, rfl⟩
                  have HXm : Hid (⟨kx, ⟨lx, hx⟩, mx⟩ ∈ t.qu) := by show _ ∈ _; rw [← hxx]; exact List.getElem_mem hil
                  have hAd : Hid (∀ W, Below V.heap.size V W → W.cell? (ad.add (i * 4)) = some (.int .i64 kx) ∧ W.cell? ⟨(ad.add (i * 4)).block, (ad.add (i * 4)).off + 1, none⟩ = some (.int .i64 lx) ∧ W.cell? ⟨(ad.add (i * 4)).block, (ad.add (i * 4)).off + 2, none⟩ = some (.int .i64 hx) ∧ W.cell? ⟨(ad.add (i * 4)).block, (ad.add (i * 4)).off + 3, none⟩ = some (.int .i8 mx)) := fun W hW => by
                    obtain ⟨ad', e1, _, q⟩ := hol_cells (HQ.out _ hW) hin hil
                    injection e1 with e1
                    subst e1
                    rw [hxx] at q
                    exact q
                  clear hxx hil
                  obtain ⟨r1', hr1⟩ : ∃ r, Hid (hasB t'.ho ⟨kx, ⟨lx, hx⟩, mx⟩ = r) := ⟨_, rfl⟩
                  obtain ⟨r2', hr2⟩ : ∃ r, Hid (hasB t'.qu ⟨kx, ⟨lx, hx⟩, mx⟩ = r) := ⟨_, rfl⟩
                  have hS : ∀ W, Below V.heap.size V W → (W.cell? ⟨(w.heap.size + 1), 0, none⟩ = some (.slice aS nS cS) ∧ W.cell? ⟨(w.heap.size + 1), 1, none⟩ = some (.slice aH nH cH) ∧ W.cell? ⟨(w.heap.size + 1), 2, none⟩ = some (.slice (some ad) nQ cQ)) ∧ (W.cell? ⟨o, 0, none⟩ = some (.slice bS nS dS) ∧ W.cell? ⟨o, 1, none⟩ = some (.slice bH mH dH) ∧ W.cell? ⟨o, 2, none⟩ = some (.slice bQ mQ dQ)) ∧ (W.cell? (ad.add (i * 4)) = some (.int .i64 kx) ∧ W.cell? ⟨(ad.add (i * 4)).block, (ad.add (i * 4)).off + 1, none⟩ = some (.int .i64 lx) ∧ W.cell? ⟨(ad.add (i * 4)).block, (ad.add (i * 4)).off + 2, none⟩ = some (.int .i64 hx) ∧ W.cell? ⟨(ad.add (i * 4)).block, (ad.add (i * 4)).off + 3, none⟩ = some (.int .i8 mx)) ∧ Below V.heap.size V W := fun W h => ⟨tcells (pt5.below h pt5.lt), tcells (po.below h po.lt), hAd.out W h, h⟩
                  have hHas1 : ∀ c W, (W.cell? ⟨(w.heap.size + 1), 0, none⟩ = some (.slice aS nS cS) ∧ W.cell? ⟨(w.heap.size + 1), 1, none⟩ = some (.slice aH nH cH) ∧ W.cell? ⟨(w.heap.size + 1), 2, none⟩ = some (.slice (some ad) nQ cQ)) ∧ (W.cell? ⟨o, 0, none⟩ = some (.slice bS nS dS) ∧ W.cell? ⟨o, 1, none⟩ = some (.slice bH mH dH) ∧ W.cell? ⟨o, 2, none⟩ = some (.slice bQ mQ dQ)) ∧ (W.cell? (ad.add (i * 4)) = some (.int .i64 kx) ∧ W.cell? ⟨(ad.add (i * 4)).block, (ad.add (i * 4)).off + 1, none⟩ = some (.int .i64 lx) ∧ W.cell? ⟨(ad.add (i * 4)).block, (ad.add (i * 4)).off + 2, none⟩ = some (.int .i64 hx) ∧ W.cell? ⟨(ad.add (i * 4)).block, (ad.add (i * 4)).off + 3, none⟩ = some (.int .i8 mx)) ∧ Below V.heap.size V W → Calls Try.prog 13 #[.slice bH mH c, .agg #[.int .i64 kx, .int .i64 lx, .int .i64 hx, .int .i8 mx]] W fun e W => e = .returned (.bool r1') ∧ (W.cell? ⟨(w.heap.size + 1), 0, none⟩ = some (.slice aS nS cS) ∧ W.cell? ⟨(w.heap.size + 1), 1, none⟩ = some (.slice aH nH cH) ∧ W.cell? ⟨(w.heap.size + 1), 2, none⟩ = some (.slice (some ad) nQ cQ)) ∧ (W.cell? ⟨o, 0, none⟩ = some (.slice bS nS dS) ∧ W.cell? ⟨o, 1, none⟩ = some (.slice bH mH dH) ∧ W.cell? ⟨o, 2, none⟩ = some (.slice bQ mQ dQ)) ∧ (W.cell? (ad.add (i * 4)) = some (.int .i64 kx) ∧ W.cell? ⟨(ad.add (i * 4)).block, (ad.add (i * 4)).off + 1, none⟩ = some (.int .i64 lx) ∧ W.cell? ⟨(ad.add (i * 4)).block, (ad.add (i * 4)).off + 2, none⟩ = some (.int .i64 hx) ∧ W.cell? ⟨(ad.add (i * 4)).block, (ad.add (i * 4)).off + 3, none⟩ = some (.int .i8 mx)) ∧ Below V.heap.size V W := fun c W h => (has_law bH mH c t'.ho kx lx hx mx W (HH'.out W h.2.2.2) (by have := HM6.out; unfold maxLen; omega)).mono (by
                    rintro e w' ⟨rfl, hb⟩
                    exact ⟨by rw [hr1.out], hS _ (below_then h.2.2.2 hb)⟩)
                  have hHas2 : ∀ c W, (W.cell? ⟨(w.heap.size + 1), 0, none⟩ = some (.slice aS nS cS) ∧ W.cell? ⟨(w.heap.size + 1), 1, none⟩ = some (.slice aH nH cH) ∧ W.cell? ⟨(w.heap.size + 1), 2, none⟩ = some (.slice (some ad) nQ cQ)) ∧ (W.cell? ⟨o, 0, none⟩ = some (.slice bS nS dS) ∧ W.cell? ⟨o, 1, none⟩ = some (.slice bH mH dH) ∧ W.cell? ⟨o, 2, none⟩ = some (.slice bQ mQ dQ)) ∧ (W.cell? (ad.add (i * 4)) = some (.int .i64 kx) ∧ W.cell? ⟨(ad.add (i * 4)).block, (ad.add (i * 4)).off + 1, none⟩ = some (.int .i64 lx) ∧ W.cell? ⟨(ad.add (i * 4)).block, (ad.add (i * 4)).off + 2, none⟩ = some (.int .i64 hx) ∧ W.cell? ⟨(ad.add (i * 4)).block, (ad.add (i * 4)).off + 3, none⟩ = some (.int .i8 mx)) ∧ Below V.heap.size V W → Calls Try.prog 13 #[.slice bQ mQ c, .agg #[.int .i64 kx, .int .i64 lx, .int .i64 hx, .int .i8 mx]] W fun e W => e = .returned (.bool r2') ∧ (W.cell? ⟨(w.heap.size + 1), 0, none⟩ = some (.slice aS nS cS) ∧ W.cell? ⟨(w.heap.size + 1), 1, none⟩ = some (.slice aH nH cH) ∧ W.cell? ⟨(w.heap.size + 1), 2, none⟩ = some (.slice (some ad) nQ cQ)) ∧ (W.cell? ⟨o, 0, none⟩ = some (.slice bS nS dS) ∧ W.cell? ⟨o, 1, none⟩ = some (.slice bH mH dH) ∧ W.cell? ⟨o, 2, none⟩ = some (.slice bQ mQ dQ)) ∧ (W.cell? (ad.add (i * 4)) = some (.int .i64 kx) ∧ W.cell? ⟨(ad.add (i * 4)).block, (ad.add (i * 4)).off + 1, none⟩ = some (.int .i64 lx) ∧ W.cell? ⟨(ad.add (i * 4)).block, (ad.add (i * 4)).off + 2, none⟩ = some (.int .i64 hx) ∧ W.cell? ⟨(ad.add (i * 4)).block, (ad.add (i * 4)).off + 3, none⟩ = some (.int .i8 mx)) ∧ Below V.heap.size V W := fun c W h => (has_law bQ mQ c t'.qu kx lx hx mx W (HQ'.out W h.2.2.2) (by have := HM6.out; unfold maxLen; omega)).mono (by
                    rintro e w' ⟨rfl, hb⟩
                    exact ⟨by rw [hr2.out], hS _ (below_then h.2.2.2 hb)⟩)
                  have hD := hS _ hbr.drew
                  rcases zk1 : kx == gz with _ | _
                  · have zk2 : (kx != gz) = true := by unfold bne; rw [zk1]; rfl
                    rcases r1' with _ | _
                    · have e2 : r2' = true := by
                        rw [← hr2.out]
                        rcases HOt.out.qu _ HXm.out (by simpa using zk1) with h | h
                        · have h2 := hasB_iff.2 h
                          rw [hr1.out] at h2
                          cases h2
                        · exact hasB_iff.2 h
                      subst e2
                      go_upto_region 17 with fail
                      refine wp_region_held_drew (S := (fun W => (W.cell? ⟨(w.heap.size + 1), 0, none⟩ = some (.slice aS nS cS) ∧ W.cell? ⟨(w.heap.size + 1), 1, none⟩ = some (.slice aH nH cH) ∧ W.cell? ⟨(w.heap.size + 1), 2, none⟩ = some (.slice (some ad) nQ cQ)) ∧ (W.cell? ⟨o, 0, none⟩ = some (.slice bS nS dS) ∧ W.cell? ⟨o, 1, none⟩ = some (.slice bH mH dH) ∧ W.cell? ⟨o, 2, none⟩ = some (.slice bQ mQ dQ)) ∧ (W.cell? (ad.add (i * 4)) = some (.int .i64 kx) ∧ W.cell? ⟨(ad.add (i * 4)).block, (ad.add (i * 4)).off + 1, none⟩ = some (.int .i64 lx) ∧ W.cell? ⟨(ad.add (i * 4)).block, (ad.add (i * 4)).off + 2, none⟩ = some (.int .i64 hx) ∧ W.cell? ⟨(ad.add (i * 4)).block, (ad.add (i * 4)).off + 3, none⟩ = some (.int .i8 mx)) ∧ Below V.heap.size V W)) (by kernel_rfl) ?_ (fun hHeld => ?_)
                      focus (exact hS _ hbr.drew)
                      refine wpAnyH_take (i := 0) (oi := ⟨some 78, _, _, _, _, _⟩) (v := ?_) rfl (by kernel_rfl) (by kernel_rfl) (by kernel_rfl) (fun _ _ _ h => h) (Or.inl ⟨by rfl, ?_⟩) (by assumption) ?_
                      rotate_left
                      focus (intro wq hSq; (try dsimp only at hSq); go_simp; try with_reducible rfl)
                      try simp only [Act.put, List.setIfInBounds_toArray, List.set_cons_zero, List.set_cons_succ]
                      refine wpAnyH_take (i := 1) (oi := ⟨some 79, _, _, _, _, _⟩) (v := ?_) rfl (by kernel_rfl) (by kernel_rfl) (by kernel_rfl) (fun _ _ _ h => h) (Or.inl ⟨by rfl, ?_⟩) (by assumption) ?_
                      rotate_left
                      focus (intro wq hSq; (try dsimp only at hSq); go_simp; try with_reducible rfl)
                      try simp only [Act.put, List.setIfInBounds_toArray, List.set_cons_zero, List.set_cons_succ]
                      refine wpAnyH_take (i := 2) (oi := ⟨some 80, _, _, _, _, _⟩) (v := ?_) rfl (by kernel_rfl) (by kernel_rfl) (by kernel_rfl) (fun _ _ _ h => h) (Or.inl ⟨by rfl, ?_⟩) (by assumption) ?_
                      rotate_left
                      focus (intro wq hSq; (try dsimp only at hSq); go_simp; try with_reducible rfl)
                      try simp only [Act.put, List.setIfInBounds_toArray, List.set_cons_zero, List.set_cons_succ]
                      refine wpAnyH_take (i := 3) (oi := ⟨some 81, _, _, _, _, _⟩) (v := ?_) rfl (by kernel_rfl) (by kernel_rfl) (by kernel_rfl) (fun _ _ _ h => h) (Or.inl ⟨by rfl, ?_⟩) (by assumption) ?_
                      rotate_left
                      focus (intro wq hSq; (try dsimp only at hSq); go_simp; try with_reducible rfl)
                      try simp only [Act.put, List.setIfInBounds_toArray, List.set_cons_zero, List.set_cons_succ]
                      refine wpAnyH_take (i := 4) (oi := ⟨some 82, _, _, _, _, _⟩) (v := ?_) rfl (by kernel_rfl) (by kernel_rfl) (by kernel_rfl) (fun _ _ _ h => h) (Or.inl ⟨by rfl, ?_⟩) (by assumption) ?_
                      rotate_left
                      focus (intro wq hSq; (try dsimp only at hSq); go_simp; try with_reducible rfl)
                      try simp only [Act.put, List.setIfInBounds_toArray, List.set_cons_zero, List.set_cons_succ]
                      refine wpAnyH_take (i := 5) (oi := ⟨some 83, _, _, _, _, _⟩) (v := ?_) rfl (by kernel_rfl) (by kernel_rfl) (by kernel_rfl) (fun _ _ _ h => h) (Or.inl ⟨by rfl, ?_⟩) (by assumption) ?_
                      rotate_left
                      focus (intro wq hSq; (try dsimp only at hSq); go_simp; try with_reducible rfl)
                      try simp only [Act.put, List.setIfInBounds_toArray, List.set_cons_zero, List.set_cons_succ]
                      refine wpAnyH_take (i := 6) (oi := ⟨some 84, _, _, _, _, _⟩) (v := ?_) rfl (by kernel_rfl) (by kernel_rfl) (by kernel_rfl) (fun _ _ _ h => h) (Or.inl ⟨by rfl, ?_⟩) (by assumption) ?_
                      rotate_left
                      focus (intro wq hSq; (try dsimp only at hSq); go_simp; try with_reducible rfl)
                      try simp only [Act.put, List.setIfInBounds_toArray, List.set_cons_zero, List.set_cons_succ]
                      refine wpAnyH_take (i := 7) (oi := ⟨some 85, _, _, _, _, _⟩) (v := ?_) rfl (by kernel_rfl) (by kernel_rfl) (by kernel_rfl) (fun _ _ _ h => h) (Or.inl ⟨by rfl, ?_⟩) (by assumption) ?_
                      rotate_left
                      focus (intro wq hSq; (try dsimp only at hSq); go_simp; try with_reducible rfl)
                      try simp only [Act.put, List.setIfInBounds_toArray, List.set_cons_zero, List.set_cons_succ]
                      refine wpAnyH_take (i := 8) (oi := ⟨some 86, _, _, _, _, _⟩) (v := ?_) rfl (by kernel_rfl) (by kernel_rfl) (by kernel_rfl) (fun _ _ _ h => h) (Or.inl ⟨by rfl, ?_⟩) (by assumption) ?_
                      rotate_left
                      focus (intro wq hSq; (try dsimp only at hSq); go_simp; try with_reducible rfl)
                      try simp only [Act.put, List.setIfInBounds_toArray, List.set_cons_zero, List.set_cons_succ]
                      refine wpAnyH_take (i := 9) (oi := ⟨some 87, _, _, _, _, _⟩) (v := ?_) rfl (by kernel_rfl) (by kernel_rfl) (by kernel_rfl) (fun _ _ _ h => h) (Or.inl ⟨by rfl, ?_⟩) (by assumption) ?_
                      rotate_left
                      focus (intro wq hSq; (try dsimp only at hSq); go_simp; try with_reducible rfl)
                      try simp only [Act.put, List.setIfInBounds_toArray, List.set_cons_zero, List.set_cons_succ]
                      refine wpAnyH_take (i := 10) (oi := ⟨some 88, _, _, _, _, _⟩) (v := ?_) rfl (by kernel_rfl) (by kernel_rfl) (by kernel_rfl) (fun _ _ _ h => h) (Or.inl ⟨by rfl, ?_⟩) (by assumption) ?_
                      rotate_left
                      focus (intro wq hSq; (try dsimp only at hSq); go_simp; try with_reducible rfl)
                      try simp only [Act.put, List.setIfInBounds_toArray, List.set_cons_zero, List.set_cons_succ]
                      refine wpAnyH_take (i := 11) (oi := ⟨some 89, _, _, _, _, _⟩) (v := ?_) rfl (by kernel_rfl) (by kernel_rfl) (by kernel_rfl) (fun _ _ _ h => h) (Or.inl ⟨by rfl, ?_⟩) (by assumption) ?_
                      rotate_left
                      focus (intro wq hSq; (try dsimp only at hSq); go_simp; try with_reducible rfl)
                      try simp only [Act.put, List.setIfInBounds_toArray, List.set_cons_zero, List.set_cons_succ]
                      refine wpAnyH_take (i := 12) (oi := ⟨some 90, _, _, _, _, _⟩) (v := ?_) rfl (by kernel_rfl) (by kernel_rfl) (by kernel_rfl) (fun _ _ _ h => h) (Or.inl ⟨by rfl, ?_⟩) (by assumption) ?_
                      rotate_left
                      focus (intro wq hSq; (try dsimp only at hSq); go_simp; try with_reducible rfl)
                      try simp only [Act.put, List.setIfInBounds_toArray, List.set_cons_zero, List.set_cons_succ]
                      refine wpAnyH_take (i := 13) (oi := ⟨some 91, _, _, _, _, _⟩) (v := ?_) rfl (by kernel_rfl) (by kernel_rfl) (by kernel_rfl) (fun _ _ _ h => h) (Or.inl ⟨by rfl, ?_⟩) (by assumption) ?_
                      rotate_left
                      focus (intro wq hSq; (try dsimp only at hSq); go_simp; try with_reducible rfl)
                      try simp only [Act.put, List.setIfInBounds_toArray, List.set_cons_zero, List.set_cons_succ]
                      refine wpAnyH_take (i := 14) (oi := ⟨some 92, _, _, _, _, _⟩) (v := ?_) rfl (by kernel_rfl) (by kernel_rfl) (by kernel_rfl) (fun _ _ _ h => h) (Or.inl ⟨by rfl, ?_⟩) (by assumption) ?_
                      rotate_left
                      focus (intro wq hSq; (try dsimp only at hSq); go_simp; try with_reducible rfl)
                      try simp only [Act.put, List.setIfInBounds_toArray, List.set_cons_zero, List.set_cons_succ]
                      refine wpAnyH_take (i := 15) (oi := ⟨some 93, _, _, _, _, _⟩) (v := ?_) rfl (by kernel_rfl) (by kernel_rfl) (by kernel_rfl) (fun _ _ _ h => h) (Or.inl ⟨by rfl, ?_⟩) (by assumption) ?_
                      rotate_left
                      focus (intro wq hSq; (try dsimp only at hSq); go_simp; try with_reducible rfl)
                      try simp only [Act.put, List.setIfInBounds_toArray, List.set_cons_zero, List.set_cons_succ]
                      refine wpAnyH_ready (rs := [16]) (by kernel_rfl) (by simp) ?_
                      refine AllReadyH.cons (o := ⟨some 94, _, _, _, _, _⟩) rfl (fun K hK => ?_) AllReadyH.nil
                      go_simp
                      go_at_call 13
                      first | (with_reducible refine (hHas1 _ _ ?_).mono ?_) | (with_reducible refine (hHas2 _ _ ?_).mono ?_)
                      assumption
                      rintro e W2 ⟨rfl, hN⟩
                      go_wp2_with fail
                      refine hK.out _ _ ?_ (fun hHeld => ?_)
                      focus (exact hN)
                      clear hK K
                      try simp only [Act.put, List.setIfInBounds_toArray, List.set_cons_zero, List.set_cons_succ]
                      refine wpAnyH_take (i := 17) (oi := ⟨some 95, _, _, _, _, _⟩) (v := ?_) rfl (by kernel_rfl) (by kernel_rfl) (by kernel_rfl) (fun _ _ _ h => h) (Or.inl ⟨by rfl, ?_⟩) (by assumption) ?_
                      rotate_left
                      focus (intro wq hSq; (try dsimp only at hSq); go_simp; try with_reducible rfl)
                      try simp only [Act.put, List.setIfInBounds_toArray, List.set_cons_zero, List.set_cons_succ]
                      refine wpAnyH_take (i := 18) (oi := ⟨some 96, _, _, _, _, _⟩) (v := ?_) rfl (by kernel_rfl) (by kernel_rfl) (by kernel_rfl) (fun _ _ _ h => h) (Or.inl ⟨by rfl, ?_⟩) (by assumption) ?_
                      rotate_left
                      focus (intro wq hSq; (try dsimp only at hSq); go_simp; try with_reducible rfl)
                      try simp only [Act.put, List.setIfInBounds_toArray, List.set_cons_zero, List.set_cons_succ]
                      refine wpAnyH_take (i := 19) (oi := ⟨some 97, _, _, _, _, _⟩) (v := ?_) rfl (by kernel_rfl) (by kernel_rfl) (by kernel_rfl) (fun _ _ _ h => h) (Or.inl ⟨by rfl, ?_⟩) (by assumption) ?_
                      rotate_left
                      focus (intro wq hSq; (try dsimp only at hSq); go_simp; try with_reducible rfl)
                      try simp only [Act.put, List.setIfInBounds_toArray, List.set_cons_zero, List.set_cons_succ]
                      refine wpAnyH_take (i := 20) (oi := ⟨some 98, _, _, _, _, _⟩) (v := ?_) rfl (by kernel_rfl) (by kernel_rfl) (by kernel_rfl) (fun _ _ _ h => h) (Or.inl ⟨by rfl, ?_⟩) (by assumption) ?_
                      rotate_left
                      focus (intro wq hSq; (try dsimp only at hSq); go_simp; try with_reducible rfl)
                      try simp only [Act.put, List.setIfInBounds_toArray, List.set_cons_zero, List.set_cons_succ]
                      refine wpAnyH_take (i := 21) (oi := ⟨some 99, _, _, _, _, _⟩) (v := ?_) rfl (by kernel_rfl) (by kernel_rfl) (by kernel_rfl) (fun _ _ _ h => h) (Or.inl ⟨by rfl, ?_⟩) (by assumption) ?_
                      rotate_left
                      focus (intro wq hSq; (try dsimp only at hSq); go_simp; try with_reducible rfl)
                      try simp only [Act.put, List.setIfInBounds_toArray, List.set_cons_zero, List.set_cons_succ]
                      refine wpAnyH_take (i := 22) (oi := ⟨some 100, _, _, _, _, _⟩) (v := ?_) rfl (by kernel_rfl) (by kernel_rfl) (by kernel_rfl) (fun _ _ _ h => h) (Or.inl ⟨by rfl, ?_⟩) (by assumption) ?_
                      rotate_left
                      focus (intro wq hSq; (try dsimp only at hSq); go_simp; try with_reducible rfl)
                      try simp only [Act.put, List.setIfInBounds_toArray, List.set_cons_zero, List.set_cons_succ]
                      refine wpAnyH_take (i := 23) (oi := ⟨some 101, _, _, _, _, _⟩) (v := ?_) rfl (by kernel_rfl) (by kernel_rfl) (by kernel_rfl) (fun _ _ _ h => h) (Or.inl ⟨by rfl, ?_⟩) (by assumption) ?_
                      rotate_left
                      focus (intro wq hSq; (try dsimp only at hSq); go_simp; try with_reducible rfl)
                      try simp only [Act.put, List.setIfInBounds_toArray, List.set_cons_zero, List.set_cons_succ]
                      refine wpAnyH_take (i := 24) (oi := ⟨some 102, _, _, _, _, _⟩) (v := ?_) rfl (by kernel_rfl) (by kernel_rfl) (by kernel_rfl) (fun _ _ _ h => h) (Or.inl ⟨by rfl, ?_⟩) (by assumption) ?_
                      rotate_left
                      focus (intro wq hSq; (try dsimp only at hSq); go_simp; try with_reducible rfl)
                      try simp only [Act.put, List.setIfInBounds_toArray, List.set_cons_zero, List.set_cons_succ]
                      refine wpAnyH_take (i := 25) (oi := ⟨some 103, _, _, _, _, _⟩) (v := ?_) rfl (by kernel_rfl) (by kernel_rfl) (by kernel_rfl) (fun _ _ _ h => h) (Or.inl ⟨by rfl, ?_⟩) (by assumption) ?_
                      rotate_left
                      focus (intro wq hSq; (try dsimp only at hSq); go_simp; try with_reducible rfl)
                      try simp only [Act.put, List.setIfInBounds_toArray, List.set_cons_zero, List.set_cons_succ]
                      refine wpAnyH_take (i := 26) (oi := ⟨some 104, _, _, _, _, _⟩) (v := ?_) rfl (by kernel_rfl) (by kernel_rfl) (by kernel_rfl) (fun _ _ _ h => h) (Or.inl ⟨by rfl, ?_⟩) (by assumption) ?_
                      rotate_left
                      focus (intro wq hSq; (try dsimp only at hSq); go_simp; try with_reducible rfl)
                      try simp only [Act.put, List.setIfInBounds_toArray, List.set_cons_zero, List.set_cons_succ]
                      refine wpAnyH_ready (rs := [27]) (by kernel_rfl) (by simp) ?_
                      refine AllReadyH.cons (o := ⟨some 105, _, _, _, _, _⟩) rfl (fun K hK => ?_) AllReadyH.nil
                      go_simp
                      go_at_call 13
                      first | (with_reducible refine (hHas1 _ _ ?_).mono ?_) | (with_reducible refine (hHas2 _ _ ?_).mono ?_)
                      assumption
                      rintro e W2 ⟨rfl, hN⟩
                      go_wp2_with fail
                      refine hK.out _ _ ?_ (fun hHeld => ?_)
                      focus (exact hN)
                      clear hK K
                      try simp only [Act.put, List.setIfInBounds_toArray, List.set_cons_zero, List.set_cons_succ]
                      refine wpAnyH_take (i := 28) (oi := ⟨some 106, _, _, _, _, _⟩) (v := ?_) rfl (by kernel_rfl) (by kernel_rfl) (by kernel_rfl) (fun _ _ _ h => h) (Or.inl ⟨by rfl, ?_⟩) (by assumption) ?_
                      rotate_left
                      focus (intro wq hSq; (try dsimp only at hSq); go_simp; try with_reducible rfl)
                      try simp only [Act.put, List.setIfInBounds_toArray, List.set_cons_zero, List.set_cons_succ]
                      refine wpAnyH_take (i := 29) (oi := ⟨some 107, _, _, _, _, _⟩) (v := ?_) rfl (by kernel_rfl) (by kernel_rfl) (by kernel_rfl) (fun _ _ _ h => h) (Or.inl ⟨by rfl, ?_⟩) (by assumption) ?_
                      rotate_left
                      focus (intro wq hSq; (try dsimp only at hSq); go_simp; try with_reducible rfl)
                      try simp only [Act.put, List.setIfInBounds_toArray, List.set_cons_zero, List.set_cons_succ]
                      refine wpAnyH_done (by kernel_rfl) ?_ _
                      go_wp2_with fail
                      go_roundw
                      case rel => exact ⟨i + 1, by omega, by go_num, hHeld.2.2.2⟩
                      case measure => simp [intOf]; omega
                    · go_upto_region 17 with fail
                      refine wp_region_held_drew (S := (fun W => (W.cell? ⟨(w.heap.size + 1), 0, none⟩ = some (.slice aS nS cS) ∧ W.cell? ⟨(w.heap.size + 1), 1, none⟩ = some (.slice aH nH cH) ∧ W.cell? ⟨(w.heap.size + 1), 2, none⟩ = some (.slice (some ad) nQ cQ)) ∧ (W.cell? ⟨o, 0, none⟩ = some (.slice bS nS dS) ∧ W.cell? ⟨o, 1, none⟩ = some (.slice bH mH dH) ∧ W.cell? ⟨o, 2, none⟩ = some (.slice bQ mQ dQ)) ∧ (W.cell? (ad.add (i * 4)) = some (.int .i64 kx) ∧ W.cell? ⟨(ad.add (i * 4)).block, (ad.add (i * 4)).off + 1, none⟩ = some (.int .i64 lx) ∧ W.cell? ⟨(ad.add (i * 4)).block, (ad.add (i * 4)).off + 2, none⟩ = some (.int .i64 hx) ∧ W.cell? ⟨(ad.add (i * 4)).block, (ad.add (i * 4)).off + 3, none⟩ = some (.int .i8 mx)) ∧ Below V.heap.size V W)) (by kernel_rfl) ?_ (fun hHeld => ?_)
                      focus (exact hS _ hbr.drew)
                      refine wpAnyH_take (i := 0) (oi := ⟨some 78, _, _, _, _, _⟩) (v := ?_) rfl (by kernel_rfl) (by kernel_rfl) (by kernel_rfl) (fun _ _ _ h => h) (Or.inl ⟨by rfl, ?_⟩) (by assumption) ?_
                      rotate_left
                      focus (intro wq hSq; (try dsimp only at hSq); go_simp; try with_reducible rfl)
                      try simp only [Act.put, List.setIfInBounds_toArray, List.set_cons_zero, List.set_cons_succ]
                      refine wpAnyH_take (i := 1) (oi := ⟨some 79, _, _, _, _, _⟩) (v := ?_) rfl (by kernel_rfl) (by kernel_rfl) (by kernel_rfl) (fun _ _ _ h => h) (Or.inl ⟨by rfl, ?_⟩) (by assumption) ?_
                      rotate_left
                      focus (intro wq hSq; (try dsimp only at hSq); go_simp; try with_reducible rfl)
                      try simp only [Act.put, List.setIfInBounds_toArray, List.set_cons_zero, List.set_cons_succ]
                      refine wpAnyH_take (i := 2) (oi := ⟨some 80, _, _, _, _, _⟩) (v := ?_) rfl (by kernel_rfl) (by kernel_rfl) (by kernel_rfl) (fun _ _ _ h => h) (Or.inl ⟨by rfl, ?_⟩) (by assumption) ?_
                      rotate_left
                      focus (intro wq hSq; (try dsimp only at hSq); go_simp; try with_reducible rfl)
                      try simp only [Act.put, List.setIfInBounds_toArray, List.set_cons_zero, List.set_cons_succ]
                      refine wpAnyH_take (i := 3) (oi := ⟨some 81, _, _, _, _, _⟩) (v := ?_) rfl (by kernel_rfl) (by kernel_rfl) (by kernel_rfl) (fun _ _ _ h => h) (Or.inl ⟨by rfl, ?_⟩) (by assumption) ?_
                      rotate_left
                      focus (intro wq hSq; (try dsimp only at hSq); go_simp; try with_reducible rfl)
                      try simp only [Act.put, List.setIfInBounds_toArray, List.set_cons_zero, List.set_cons_succ]
                      refine wpAnyH_take (i := 4) (oi := ⟨some 82, _, _, _, _, _⟩) (v := ?_) rfl (by kernel_rfl) (by kernel_rfl) (by kernel_rfl) (fun _ _ _ h => h) (Or.inl ⟨by rfl, ?_⟩) (by assumption) ?_
                      rotate_left
                      focus (intro wq hSq; (try dsimp only at hSq); go_simp; try with_reducible rfl)
                      try simp only [Act.put, List.setIfInBounds_toArray, List.set_cons_zero, List.set_cons_succ]
                      refine wpAnyH_take (i := 5) (oi := ⟨some 83, _, _, _, _, _⟩) (v := ?_) rfl (by kernel_rfl) (by kernel_rfl) (by kernel_rfl) (fun _ _ _ h => h) (Or.inl ⟨by rfl, ?_⟩) (by assumption) ?_
                      rotate_left
                      focus (intro wq hSq; (try dsimp only at hSq); go_simp; try with_reducible rfl)
                      try simp only [Act.put, List.setIfInBounds_toArray, List.set_cons_zero, List.set_cons_succ]
                      refine wpAnyH_take (i := 6) (oi := ⟨some 84, _, _, _, _, _⟩) (v := ?_) rfl (by kernel_rfl) (by kernel_rfl) (by kernel_rfl) (fun _ _ _ h => h) (Or.inl ⟨by rfl, ?_⟩) (by assumption) ?_
                      rotate_left
                      focus (intro wq hSq; (try dsimp only at hSq); go_simp; try with_reducible rfl)
                      try simp only [Act.put, List.setIfInBounds_toArray, List.set_cons_zero, List.set_cons_succ]
                      refine wpAnyH_take (i := 7) (oi := ⟨some 85, _, _, _, _, _⟩) (v := ?_) rfl (by kernel_rfl) (by kernel_rfl) (by kernel_rfl) (fun _ _ _ h => h) (Or.inl ⟨by rfl, ?_⟩) (by assumption) ?_
                      rotate_left
                      focus (intro wq hSq; (try dsimp only at hSq); go_simp; try with_reducible rfl)
                      try simp only [Act.put, List.setIfInBounds_toArray, List.set_cons_zero, List.set_cons_succ]
                      refine wpAnyH_take (i := 8) (oi := ⟨some 86, _, _, _, _, _⟩) (v := ?_) rfl (by kernel_rfl) (by kernel_rfl) (by kernel_rfl) (fun _ _ _ h => h) (Or.inl ⟨by rfl, ?_⟩) (by assumption) ?_
                      rotate_left
                      focus (intro wq hSq; (try dsimp only at hSq); go_simp; try with_reducible rfl)
                      try simp only [Act.put, List.setIfInBounds_toArray, List.set_cons_zero, List.set_cons_succ]
                      refine wpAnyH_take (i := 9) (oi := ⟨some 87, _, _, _, _, _⟩) (v := ?_) rfl (by kernel_rfl) (by kernel_rfl) (by kernel_rfl) (fun _ _ _ h => h) (Or.inl ⟨by rfl, ?_⟩) (by assumption) ?_
                      rotate_left
                      focus (intro wq hSq; (try dsimp only at hSq); go_simp; try with_reducible rfl)
                      try simp only [Act.put, List.setIfInBounds_toArray, List.set_cons_zero, List.set_cons_succ]
                      refine wpAnyH_take (i := 10) (oi := ⟨some 88, _, _, _, _, _⟩) (v := ?_) rfl (by kernel_rfl) (by kernel_rfl) (by kernel_rfl) (fun _ _ _ h => h) (Or.inl ⟨by rfl, ?_⟩) (by assumption) ?_
                      rotate_left
                      focus (intro wq hSq; (try dsimp only at hSq); go_simp; try with_reducible rfl)
                      try simp only [Act.put, List.setIfInBounds_toArray, List.set_cons_zero, List.set_cons_succ]
                      refine wpAnyH_take (i := 11) (oi := ⟨some 89, _, _, _, _, _⟩) (v := ?_) rfl (by kernel_rfl) (by kernel_rfl) (by kernel_rfl) (fun _ _ _ h => h) (Or.inl ⟨by rfl, ?_⟩) (by assumption) ?_
                      rotate_left
                      focus (intro wq hSq; (try dsimp only at hSq); go_simp; try with_reducible rfl)
                      try simp only [Act.put, List.setIfInBounds_toArray, List.set_cons_zero, List.set_cons_succ]
                      refine wpAnyH_take (i := 12) (oi := ⟨some 90, _, _, _, _, _⟩) (v := ?_) rfl (by kernel_rfl) (by kernel_rfl) (by kernel_rfl) (fun _ _ _ h => h) (Or.inl ⟨by rfl, ?_⟩) (by assumption) ?_
                      rotate_left
                      focus (intro wq hSq; (try dsimp only at hSq); go_simp; try with_reducible rfl)
                      try simp only [Act.put, List.setIfInBounds_toArray, List.set_cons_zero, List.set_cons_succ]
                      refine wpAnyH_take (i := 13) (oi := ⟨some 91, _, _, _, _, _⟩) (v := ?_) rfl (by kernel_rfl) (by kernel_rfl) (by kernel_rfl) (fun _ _ _ h => h) (Or.inl ⟨by rfl, ?_⟩) (by assumption) ?_
                      rotate_left
                      focus (intro wq hSq; (try dsimp only at hSq); go_simp; try with_reducible rfl)
                      try simp only [Act.put, List.setIfInBounds_toArray, List.set_cons_zero, List.set_cons_succ]
                      refine wpAnyH_take (i := 14) (oi := ⟨some 92, _, _, _, _, _⟩) (v := ?_) rfl (by kernel_rfl) (by kernel_rfl) (by kernel_rfl) (fun _ _ _ h => h) (Or.inl ⟨by rfl, ?_⟩) (by assumption) ?_
                      rotate_left
                      focus (intro wq hSq; (try dsimp only at hSq); go_simp; try with_reducible rfl)
                      try simp only [Act.put, List.setIfInBounds_toArray, List.set_cons_zero, List.set_cons_succ]
                      refine wpAnyH_take (i := 15) (oi := ⟨some 93, _, _, _, _, _⟩) (v := ?_) rfl (by kernel_rfl) (by kernel_rfl) (by kernel_rfl) (fun _ _ _ h => h) (Or.inl ⟨by rfl, ?_⟩) (by assumption) ?_
                      rotate_left
                      focus (intro wq hSq; (try dsimp only at hSq); go_simp; try with_reducible rfl)
                      try simp only [Act.put, List.setIfInBounds_toArray, List.set_cons_zero, List.set_cons_succ]
                      refine wpAnyH_ready (rs := [16]) (by kernel_rfl) (by simp) ?_
                      refine AllReadyH.cons (o := ⟨some 94, _, _, _, _, _⟩) rfl (fun K hK => ?_) AllReadyH.nil
                      go_simp
                      go_at_call 13
                      first | (with_reducible refine (hHas1 _ _ ?_).mono ?_) | (with_reducible refine (hHas2 _ _ ?_).mono ?_)
                      assumption
                      rintro e W2 ⟨rfl, hN⟩
                      go_wp2_with fail
                      refine hK.out _ _ ?_ (fun hHeld => ?_)
                      focus (exact hN)
                      clear hK K
                      try simp only [Act.put, List.setIfInBounds_toArray, List.set_cons_zero, List.set_cons_succ]
                      refine wpAnyH_take (i := 17) (oi := ⟨some 95, _, _, _, _, _⟩) (v := ?_) rfl (by kernel_rfl) (by kernel_rfl) (by kernel_rfl) (fun _ _ _ h => h) (Or.inl ⟨by rfl, ?_⟩) (by assumption) ?_
                      rotate_left
                      focus (intro wq hSq; (try dsimp only at hSq); go_simp; try with_reducible rfl)
                      try simp only [Act.put, List.setIfInBounds_toArray, List.set_cons_zero, List.set_cons_succ]
                      refine wpAnyH_take (i := 18) (oi := ⟨some 96, _, _, _, _, _⟩) (v := ?_) rfl (by kernel_rfl) (by kernel_rfl) (by kernel_rfl) (fun _ _ _ h => h) (Or.inl ⟨by rfl, ?_⟩) (by assumption) ?_
                      rotate_left
                      focus (intro wq hSq; (try dsimp only at hSq); go_simp; try with_reducible rfl)
                      try simp only [Act.put, List.setIfInBounds_toArray, List.set_cons_zero, List.set_cons_succ]
                      refine wpAnyH_take (i := 19) (oi := ⟨some 97, _, _, _, _, _⟩) (v := ?_) rfl (by kernel_rfl) (by kernel_rfl) (by kernel_rfl) (fun _ _ _ h => h) (Or.inl ⟨by rfl, ?_⟩) (by assumption) ?_
                      rotate_left
                      focus (intro wq hSq; (try dsimp only at hSq); go_simp; try with_reducible rfl)
                      try simp only [Act.put, List.setIfInBounds_toArray, List.set_cons_zero, List.set_cons_succ]
                      refine wpAnyH_take (i := 20) (oi := ⟨some 98, _, _, _, _, _⟩) (v := undef) rfl (by kernel_rfl) (by kernel_rfl) (by kernel_rfl) (fun _ _ _ h => h) (Or.inr ⟨by rfl, rfl⟩) (by assumption) ?_
                      try simp only [Act.put, List.setIfInBounds_toArray, List.set_cons_zero, List.set_cons_succ]
                      refine wpAnyH_take (i := 21) (oi := ⟨some 99, _, _, _, _, _⟩) (v := undef) rfl (by kernel_rfl) (by kernel_rfl) (by kernel_rfl) (fun _ _ _ h => h) (Or.inr ⟨by rfl, rfl⟩) (by assumption) ?_
                      try simp only [Act.put, List.setIfInBounds_toArray, List.set_cons_zero, List.set_cons_succ]
                      refine wpAnyH_take (i := 22) (oi := ⟨some 100, _, _, _, _, _⟩) (v := undef) rfl (by kernel_rfl) (by kernel_rfl) (by kernel_rfl) (fun _ _ _ h => h) (Or.inr ⟨by rfl, rfl⟩) (by assumption) ?_
                      try simp only [Act.put, List.setIfInBounds_toArray, List.set_cons_zero, List.set_cons_succ]
                      refine wpAnyH_take (i := 23) (oi := ⟨some 101, _, _, _, _, _⟩) (v := undef) rfl (by kernel_rfl) (by kernel_rfl) (by kernel_rfl) (fun _ _ _ h => h) (Or.inr ⟨by rfl, rfl⟩) (by assumption) ?_
                      try simp only [Act.put, List.setIfInBounds_toArray, List.set_cons_zero, List.set_cons_succ]
                      refine wpAnyH_take (i := 24) (oi := ⟨some 102, _, _, _, _, _⟩) (v := undef) rfl (by kernel_rfl) (by kernel_rfl) (by kernel_rfl) (fun _ _ _ h => h) (Or.inr ⟨by rfl, rfl⟩) (by assumption) ?_
                      try simp only [Act.put, List.setIfInBounds_toArray, List.set_cons_zero, List.set_cons_succ]
                      refine wpAnyH_take (i := 25) (oi := ⟨some 103, _, _, _, _, _⟩) (v := undef) rfl (by kernel_rfl) (by kernel_rfl) (by kernel_rfl) (fun _ _ _ h => h) (Or.inr ⟨by rfl, rfl⟩) (by assumption) ?_
                      try simp only [Act.put, List.setIfInBounds_toArray, List.set_cons_zero, List.set_cons_succ]
                      refine wpAnyH_take (i := 26) (oi := ⟨some 104, _, _, _, _, _⟩) (v := undef) rfl (by kernel_rfl) (by kernel_rfl) (by kernel_rfl) (fun _ _ _ h => h) (Or.inr ⟨by rfl, rfl⟩) (by assumption) ?_
                      try simp only [Act.put, List.setIfInBounds_toArray, List.set_cons_zero, List.set_cons_succ]
                      refine wpAnyH_take (i := 27) (oi := ⟨some 105, _, _, _, _, _⟩) (v := undef) rfl (by kernel_rfl) (by kernel_rfl) (by kernel_rfl) (fun _ _ _ h => h) (Or.inr ⟨by rfl, rfl⟩) (by assumption) ?_
                      try simp only [Act.put, List.setIfInBounds_toArray, List.set_cons_zero, List.set_cons_succ]
                      refine wpAnyH_take (i := 28) (oi := ⟨some 106, _, _, _, _, _⟩) (v := undef) rfl (by kernel_rfl) (by kernel_rfl) (by kernel_rfl) (fun _ _ _ h => h) (Or.inr ⟨by rfl, rfl⟩) (by assumption) ?_
                      try simp only [Act.put, List.setIfInBounds_toArray, List.set_cons_zero, List.set_cons_succ]
                      refine wpAnyH_take (i := 29) (oi := ⟨some 107, _, _, _, _, _⟩) (v := ?_) rfl (by kernel_rfl) (by kernel_rfl) (by kernel_rfl) (fun _ _ _ h => h) (Or.inl ⟨by rfl, ?_⟩) (by assumption) ?_
                      rotate_left
                      focus (intro wq hSq; (try dsimp only at hSq); go_simp; try with_reducible rfl)
                      try simp only [Act.put, List.setIfInBounds_toArray, List.set_cons_zero, List.set_cons_succ]
                      refine wpAnyH_done (by kernel_rfl) ?_ _
                      go_wp2_with fail
                      go_roundw
                      case rel => exact ⟨i + 1, by omega, by go_num, hHeld.2.2.2⟩
                      case measure => simp [intOf]; omega
                  · have zk2 : (kx != gz) = false := by unfold bne; rw [zk1]; rfl
                    go_upto_region 17 with fail
                    refine wp_region_held_drew (S := (fun W => (W.cell? ⟨(w.heap.size + 1), 0, none⟩ = some (.slice aS nS cS) ∧ W.cell? ⟨(w.heap.size + 1), 1, none⟩ = some (.slice aH nH cH) ∧ W.cell? ⟨(w.heap.size + 1), 2, none⟩ = some (.slice (some ad) nQ cQ)) ∧ (W.cell? ⟨o, 0, none⟩ = some (.slice bS nS dS) ∧ W.cell? ⟨o, 1, none⟩ = some (.slice bH mH dH) ∧ W.cell? ⟨o, 2, none⟩ = some (.slice bQ mQ dQ)) ∧ (W.cell? (ad.add (i * 4)) = some (.int .i64 kx) ∧ W.cell? ⟨(ad.add (i * 4)).block, (ad.add (i * 4)).off + 1, none⟩ = some (.int .i64 lx) ∧ W.cell? ⟨(ad.add (i * 4)).block, (ad.add (i * 4)).off + 2, none⟩ = some (.int .i64 hx) ∧ W.cell? ⟨(ad.add (i * 4)).block, (ad.add (i * 4)).off + 3, none⟩ = some (.int .i8 mx)) ∧ Below V.heap.size V W)) (by kernel_rfl) ?_ (fun hHeld => ?_)
                    focus (exact hS _ hbr.drew)
                    refine wpAnyH_take (i := 0) (oi := ⟨some 78, _, _, _, _, _⟩) (v := ?_) rfl (by kernel_rfl) (by kernel_rfl) (by kernel_rfl) (fun _ _ _ h => h) (Or.inl ⟨by rfl, ?_⟩) (by assumption) ?_
                    rotate_left
                    focus (intro wq hSq; (try dsimp only at hSq); go_simp; try with_reducible rfl)
                    try simp only [Act.put, List.setIfInBounds_toArray, List.set_cons_zero, List.set_cons_succ]
                    refine wpAnyH_take (i := 1) (oi := ⟨some 79, _, _, _, _, _⟩) (v := ?_) rfl (by kernel_rfl) (by kernel_rfl) (by kernel_rfl) (fun _ _ _ h => h) (Or.inl ⟨by rfl, ?_⟩) (by assumption) ?_
                    rotate_left
                    focus (intro wq hSq; (try dsimp only at hSq); go_simp; try with_reducible rfl)
                    try simp only [Act.put, List.setIfInBounds_toArray, List.set_cons_zero, List.set_cons_succ]
                    refine wpAnyH_take (i := 2) (oi := ⟨some 80, _, _, _, _, _⟩) (v := ?_) rfl (by kernel_rfl) (by kernel_rfl) (by kernel_rfl) (fun _ _ _ h => h) (Or.inl ⟨by rfl, ?_⟩) (by assumption) ?_
                    rotate_left
                    focus (intro wq hSq; (try dsimp only at hSq); go_simp; try with_reducible rfl)
                    try simp only [Act.put, List.setIfInBounds_toArray, List.set_cons_zero, List.set_cons_succ]
                    refine wpAnyH_take (i := 3) (oi := ⟨some 81, _, _, _, _, _⟩) (v := ?_) rfl (by kernel_rfl) (by kernel_rfl) (by kernel_rfl) (fun _ _ _ h => h) (Or.inl ⟨by rfl, ?_⟩) (by assumption) ?_
                    rotate_left
                    focus (intro wq hSq; (try dsimp only at hSq); go_simp; try with_reducible rfl)
                    try simp only [Act.put, List.setIfInBounds_toArray, List.set_cons_zero, List.set_cons_succ]
                    refine wpAnyH_take (i := 4) (oi := ⟨some 82, _, _, _, _, _⟩) (v := ?_) rfl (by kernel_rfl) (by kernel_rfl) (by kernel_rfl) (fun _ _ _ h => h) (Or.inl ⟨by rfl, ?_⟩) (by assumption) ?_
                    rotate_left
                    focus (intro wq hSq; (try dsimp only at hSq); go_simp; try with_reducible rfl)
                    try simp only [Act.put, List.setIfInBounds_toArray, List.set_cons_zero, List.set_cons_succ]
                    refine wpAnyH_take (i := 5) (oi := ⟨some 83, _, _, _, _, _⟩) (v := ?_) rfl (by kernel_rfl) (by kernel_rfl) (by kernel_rfl) (fun _ _ _ h => h) (Or.inl ⟨by rfl, ?_⟩) (by assumption) ?_
                    rotate_left
                    focus (intro wq hSq; (try dsimp only at hSq); go_simp; try with_reducible rfl)
                    try simp only [Act.put, List.setIfInBounds_toArray, List.set_cons_zero, List.set_cons_succ]
                    refine wpAnyH_take (i := 6) (oi := ⟨some 84, _, _, _, _, _⟩) (v := ?_) rfl (by kernel_rfl) (by kernel_rfl) (by kernel_rfl) (fun _ _ _ h => h) (Or.inl ⟨by rfl, ?_⟩) (by assumption) ?_
                    rotate_left
                    focus (intro wq hSq; (try dsimp only at hSq); go_simp; try with_reducible rfl)
                    try simp only [Act.put, List.setIfInBounds_toArray, List.set_cons_zero, List.set_cons_succ]
                    refine wpAnyH_take (i := 7) (oi := ⟨some 85, _, _, _, _, _⟩) (v := ?_) rfl (by kernel_rfl) (by kernel_rfl) (by kernel_rfl) (fun _ _ _ h => h) (Or.inl ⟨by rfl, ?_⟩) (by assumption) ?_
                    rotate_left
                    focus (intro wq hSq; (try dsimp only at hSq); go_simp; try with_reducible rfl)
                    try simp only [Act.put, List.setIfInBounds_toArray, List.set_cons_zero, List.set_cons_succ]
                    refine wpAnyH_take (i := 8) (oi := ⟨some 86, _, _, _, _, _⟩) (v := ?_) rfl (by kernel_rfl) (by kernel_rfl) (by kernel_rfl) (fun _ _ _ h => h) (Or.inl ⟨by rfl, ?_⟩) (by assumption) ?_
                    rotate_left
                    focus (intro wq hSq; (try dsimp only at hSq); go_simp; try with_reducible rfl)
                    try simp only [Act.put, List.setIfInBounds_toArray, List.set_cons_zero, List.set_cons_succ]
                    refine wpAnyH_take (i := 9) (oi := ⟨some 87, _, _, _, _, _⟩) (v := undef) rfl (by kernel_rfl) (by kernel_rfl) (by kernel_rfl) (fun _ _ _ h => h) (Or.inr ⟨by rfl, rfl⟩) (by assumption) ?_
                    try simp only [Act.put, List.setIfInBounds_toArray, List.set_cons_zero, List.set_cons_succ]
                    refine wpAnyH_take (i := 10) (oi := ⟨some 88, _, _, _, _, _⟩) (v := undef) rfl (by kernel_rfl) (by kernel_rfl) (by kernel_rfl) (fun _ _ _ h => h) (Or.inr ⟨by rfl, rfl⟩) (by assumption) ?_
                    try simp only [Act.put, List.setIfInBounds_toArray, List.set_cons_zero, List.set_cons_succ]
                    refine wpAnyH_take (i := 11) (oi := ⟨some 89, _, _, _, _, _⟩) (v := undef) rfl (by kernel_rfl) (by kernel_rfl) (by kernel_rfl) (fun _ _ _ h => h) (Or.inr ⟨by rfl, rfl⟩) (by assumption) ?_
                    try simp only [Act.put, List.setIfInBounds_toArray, List.set_cons_zero, List.set_cons_succ]
                    refine wpAnyH_take (i := 12) (oi := ⟨some 90, _, _, _, _, _⟩) (v := undef) rfl (by kernel_rfl) (by kernel_rfl) (by kernel_rfl) (fun _ _ _ h => h) (Or.inr ⟨by rfl, rfl⟩) (by assumption) ?_
                    try simp only [Act.put, List.setIfInBounds_toArray, List.set_cons_zero, List.set_cons_succ]
                    refine wpAnyH_take (i := 13) (oi := ⟨some 91, _, _, _, _, _⟩) (v := undef) rfl (by kernel_rfl) (by kernel_rfl) (by kernel_rfl) (fun _ _ _ h => h) (Or.inr ⟨by rfl, rfl⟩) (by assumption) ?_
                    try simp only [Act.put, List.setIfInBounds_toArray, List.set_cons_zero, List.set_cons_succ]
                    refine wpAnyH_take (i := 14) (oi := ⟨some 92, _, _, _, _, _⟩) (v := undef) rfl (by kernel_rfl) (by kernel_rfl) (by kernel_rfl) (fun _ _ _ h => h) (Or.inr ⟨by rfl, rfl⟩) (by assumption) ?_
                    try simp only [Act.put, List.setIfInBounds_toArray, List.set_cons_zero, List.set_cons_succ]
                    refine wpAnyH_take (i := 15) (oi := ⟨some 93, _, _, _, _, _⟩) (v := undef) rfl (by kernel_rfl) (by kernel_rfl) (by kernel_rfl) (fun _ _ _ h => h) (Or.inr ⟨by rfl, rfl⟩) (by assumption) ?_
                    try simp only [Act.put, List.setIfInBounds_toArray, List.set_cons_zero, List.set_cons_succ]
                    refine wpAnyH_take (i := 16) (oi := ⟨some 94, _, _, _, _, _⟩) (v := undef) rfl (by kernel_rfl) (by kernel_rfl) (by kernel_rfl) (fun _ _ _ h => h) (Or.inr ⟨by rfl, rfl⟩) (by assumption) ?_
                    try simp only [Act.put, List.setIfInBounds_toArray, List.set_cons_zero, List.set_cons_succ]
                    refine wpAnyH_take (i := 17) (oi := ⟨some 95, _, _, _, _, _⟩) (v := undef) rfl (by kernel_rfl) (by kernel_rfl) (by kernel_rfl) (fun _ _ _ h => h) (Or.inr ⟨by rfl, rfl⟩) (by assumption) ?_
                    try simp only [Act.put, List.setIfInBounds_toArray, List.set_cons_zero, List.set_cons_succ]
                    refine wpAnyH_take (i := 18) (oi := ⟨some 96, _, _, _, _, _⟩) (v := ?_) rfl (by kernel_rfl) (by kernel_rfl) (by kernel_rfl) (fun _ _ _ h => h) (Or.inl ⟨by rfl, ?_⟩) (by assumption) ?_
                    rotate_left
                    focus (intro wq hSq; (try dsimp only at hSq); go_simp; try with_reducible rfl)
                    try simp only [Act.put, List.setIfInBounds_toArray, List.set_cons_zero, List.set_cons_succ]
                    refine wpAnyH_take (i := 19) (oi := ⟨some 97, _, _, _, _, _⟩) (v := ?_) rfl (by kernel_rfl) (by kernel_rfl) (by kernel_rfl) (fun _ _ _ h => h) (Or.inl ⟨by rfl, ?_⟩) (by assumption) ?_
                    rotate_left
                    focus (intro wq hSq; (try dsimp only at hSq); go_simp; try with_reducible rfl)
                    try simp only [Act.put, List.setIfInBounds_toArray, List.set_cons_zero, List.set_cons_succ]
                    refine wpAnyH_take (i := 20) (oi := ⟨some 98, _, _, _, _, _⟩) (v := undef) rfl (by kernel_rfl) (by kernel_rfl) (by kernel_rfl) (fun _ _ _ h => h) (Or.inr ⟨by rfl, rfl⟩) (by assumption) ?_
                    try simp only [Act.put, List.setIfInBounds_toArray, List.set_cons_zero, List.set_cons_succ]
                    refine wpAnyH_take (i := 21) (oi := ⟨some 99, _, _, _, _, _⟩) (v := undef) rfl (by kernel_rfl) (by kernel_rfl) (by kernel_rfl) (fun _ _ _ h => h) (Or.inr ⟨by rfl, rfl⟩) (by assumption) ?_
                    try simp only [Act.put, List.setIfInBounds_toArray, List.set_cons_zero, List.set_cons_succ]
                    refine wpAnyH_take (i := 22) (oi := ⟨some 100, _, _, _, _, _⟩) (v := undef) rfl (by kernel_rfl) (by kernel_rfl) (by kernel_rfl) (fun _ _ _ h => h) (Or.inr ⟨by rfl, rfl⟩) (by assumption) ?_
                    try simp only [Act.put, List.setIfInBounds_toArray, List.set_cons_zero, List.set_cons_succ]
                    refine wpAnyH_take (i := 23) (oi := ⟨some 101, _, _, _, _, _⟩) (v := undef) rfl (by kernel_rfl) (by kernel_rfl) (by kernel_rfl) (fun _ _ _ h => h) (Or.inr ⟨by rfl, rfl⟩) (by assumption) ?_
                    try simp only [Act.put, List.setIfInBounds_toArray, List.set_cons_zero, List.set_cons_succ]
                    refine wpAnyH_take (i := 24) (oi := ⟨some 102, _, _, _, _, _⟩) (v := undef) rfl (by kernel_rfl) (by kernel_rfl) (by kernel_rfl) (fun _ _ _ h => h) (Or.inr ⟨by rfl, rfl⟩) (by assumption) ?_
                    try simp only [Act.put, List.setIfInBounds_toArray, List.set_cons_zero, List.set_cons_succ]
                    refine wpAnyH_take (i := 25) (oi := ⟨some 103, _, _, _, _, _⟩) (v := undef) rfl (by kernel_rfl) (by kernel_rfl) (by kernel_rfl) (fun _ _ _ h => h) (Or.inr ⟨by rfl, rfl⟩) (by assumption) ?_
                    try simp only [Act.put, List.setIfInBounds_toArray, List.set_cons_zero, List.set_cons_succ]
                    refine wpAnyH_take (i := 26) (oi := ⟨some 104, _, _, _, _, _⟩) (v := undef) rfl (by kernel_rfl) (by kernel_rfl) (by kernel_rfl) (fun _ _ _ h => h) (Or.inr ⟨by rfl, rfl⟩) (by assumption) ?_
                    try simp only [Act.put, List.setIfInBounds_toArray, List.set_cons_zero, List.set_cons_succ]
                    refine wpAnyH_take (i := 27) (oi := ⟨some 105, _, _, _, _, _⟩) (v := undef) rfl (by kernel_rfl) (by kernel_rfl) (by kernel_rfl) (fun _ _ _ h => h) (Or.inr ⟨by rfl, rfl⟩) (by assumption) ?_
                    try simp only [Act.put, List.setIfInBounds_toArray, List.set_cons_zero, List.set_cons_succ]
                    refine wpAnyH_take (i := 28) (oi := ⟨some 106, _, _, _, _, _⟩) (v := undef) rfl (by kernel_rfl) (by kernel_rfl) (by kernel_rfl) (fun _ _ _ h => h) (Or.inr ⟨by rfl, rfl⟩) (by assumption) ?_
                    try simp only [Act.put, List.setIfInBounds_toArray, List.set_cons_zero, List.set_cons_succ]
                    refine wpAnyH_take (i := 29) (oi := ⟨some 107, _, _, _, _, _⟩) (v := ?_) rfl (by kernel_rfl) (by kernel_rfl) (by kernel_rfl) (fun _ _ _ h => h) (Or.inl ⟨by rfl, ?_⟩) (by assumption) ?_
                    rotate_left
                    focus (intro wq hSq; (try dsimp only at hSq); go_simp; try with_reducible rfl)
                    try simp only [Act.put, List.setIfInBounds_toArray, List.set_cons_zero, List.set_cons_succ]
                    refine wpAnyH_done (by kernel_rfl) ?_ _
                    go_wp2_with fail
                    go_roundw
                    case rel => exact ⟨i + 1, by omega, by go_num, hHeld.2.2.2⟩
                    case measure => simp [intOf]; omega
                · obtain rfl : nQ = i := by omega
                  clear hin
                  go_wp2_with fail
                  go_loopw [11] (fun v wr => ∃ i : Nat, i ≤ nS ∧ v = .int .i64 i ∧ Below V.heap.size V wr) (fun v _ => nS - (intOf v).toNat)
                  case atStart => exact ⟨0, Nat.zero_le _, rfl, hbr⟩
                  case round =>
                    clear hbr hiq
                    obtain ⟨i, hi, rfl, hbr⟩ := hrel
                    have hiq : i ≤ 1000 := by omega
                    have pt1 := pt5.below hbr pt5.lt
                    have po1 := po.below hbr po.lt
                    obtain ⟨t0, t1, t2⟩ := tcells pt1
                    obtain ⟨o0, o1, o2⟩ := tcells po1
                    have hlt := pt1.lt
                    have hlo := po1.lt
                    by_cases hin : i < nS
                    · have hil : i < t.sl.length := by rw [HNt.out.1]; exact hin
                      have hil' : i < t'.sl.length := by rw [HNN.out.1]; exact hin
                      obtain ⟨ad, e1, had, s0, q0⟩ := slo_cells (HS.out _ hbr) hin hil
                      obtain ⟨ad', e2, had', s0', q1⟩ := slo_cells (HS'.out _ hbr) hin hil'
                      subst e1 e2
                      obtain ⟨kx, hkx⟩ : ∃ k, (t.sl[i]).key = k := ⟨_, rfl⟩
                      obtain ⟨ky, hky⟩ : ∃ k, (t'.sl[i]).key = k := ⟨_, rfl⟩
                      have HO2 := Lib.hid (HOt.out.sl i hil hil')
                      rw [hkx, hky] at HO2
                      rw [hkx] at s0
                      rw [hky] at s0'
                      clear q0 q1 hkx hky hil hil'
                      rcases zk0 : kx == 0 with _ | _
                      · have zk4 : (kx != 0) = true := by unfold bne; rw [zk0]; rfl
                        rcases zk1 : kx == gz with _ | _
                        · have zk2 : (kx != gz) = true := by unfold bne; rw [zk1]; rfl
                          have zk3 : ky = kx := HO2.out (by simpa using zk0) (by simpa using zk1)
                          subst zk3
                          have zk5 : (ky != ky) = false := by simp
                          go_wp2_with fail
                          go_roundw
                          case rel => exact ⟨i + 1, by omega, by go_num, hbr⟩
                          case measure => simp [intOf]; omega
                        · have zk2 : (kx != gz) = false := by unfold bne; rw [zk1]; rfl
                          go_wp2_with fail
                          go_roundw
                          case rel => exact ⟨i + 1, by omega, by go_num, hbr⟩
                          case measure => simp [intOf]; omega
                      · have zk4 : (kx != 0) = false := by unfold bne; rw [zk0]; rfl
                        go_wp2_with fail
                        go_roundw
                        case rel => exact ⟨i + 1, by omega, by go_num, hbr⟩
                        case measure => simp [intOf]; omega
                    · obtain rfl : nS = i := by omega
                      clear hin
                      have hbz := below_then b5 hbr
                      go_wp2_with fail
                      refine (twakes_any _).mono ?_
                      rintro e w6 ⟨rfl, hb6⟩
                      have hz6 := below_then (hbz) hb6
                      go_wp2_with fail
                      go_ret
                      exact ⟨rfl, hz6⟩

/-! ### THE ROW's STEP -/
set_option maxRecDepth 100000 in
theorem lifted (os : Os) (started : os.Started) (H : Type) (enc : TypeId × Value → H) :
    ReturnsInHanded {} Try.checked os 5 .any (Rows.tableOthersSpec.pre6 enc Try.prog Try.f5 Rows.tableOthersRow.domain false) (Rows.tableOthersSpec.post enc Try.prog Try.f5 false true false false) := by
  refine returnsInHanded_of_change (C := Try.checked) own started (by kernel_rfl) Try.func5
    (ChangeSpec.witness6 (enc := enc) (C := Try.checked) false ⟨#[], #[.agg #[.int .i64 0, .int .i64 0, .int .i64 0, .int .i64 0, .int .i64 0, .int .i64 0, .int .i64 0, .int .i64 0], .agg #[.slice none 0 0, .slice none 0 0, .slice none 0 0], .agg #[.int .i8 0, .int .i64 0, .int .i64 0, .int .i64 0, .int .i64 0, .int .i64 0, .int .i64 0, .int .i8 0]], []⟩ 8 (by kernel_rfl) (by kernel_rfl) (by kernel_rfl) (by kernel_rfl)) ?_
  intro W base args ds gs before hval0 hW hcnd _
  have hval : ∀ (j : Nat) t v, Try.f5.params[j]? = some t → args[j]? = some v → Value.okWide Try.prog W .any base t v := hval0
  have hW' := hW
  obtain ⟨p, q, hA0, hV, rfl, hfz, hnd⟩ := hW
  have hA : DataW.TrodAll enc Try.prog W 0 (fun _ => true) true Try.f5.params.toList args.toList ds p := hA0
  rw [Try.params5] at hA hval
  obtain ⟨v0, vs0, d0, ds0, p0, q0, hargs, rfl, rfl, h0, r0⟩ := trodAll_cons hA
  obtain ⟨v1, vs1, d1, ds1, p1, q1, rfl, rfl, rfl, h1, r1⟩ := trodAll_cons r0
  obtain ⟨v2, vs2, d2, ds2, p2, q2, rfl, rfl, rfl, h2, r2⟩ := trodAll_cons r1
  obtain ⟨rfl, rfl, rfl⟩ := trodAll_nil r2
  obtain rfl : args = #[v0, v1, v2] := by cases args; simp_all
  obtain ⟨rfl, rfl⟩ := trodVars_none hV
  have k0 := h0
  have lt0 : ∀ x ∈ p0, x.block < W.heap.size := by obtain ⟨m, hm⟩ := k0; exact DataW.trod_lt m _ _ _ hm
  obtain ⟨g0, rfl⟩ := open_geo (hval 0 23 v0 rfl rfl) h0
  have k1 := h1
  have lt1 : ∀ x ∈ p1, x.block < W.heap.size := by obtain ⟨m, hm⟩ := k1; exact DataW.trod_lt m _ _ _ hm
  obtain ⟨t1, w1, b1⟩ := open_table (hval 1 29 v1 rfl rfl) h1
  have k2 := h2
  have lt2 : ∀ x ∈ p2, x.block < W.heap.size := by obtain ⟨m, hm⟩ := k2; exact DataW.trod_lt m _ _ _ hm
  obtain ⟨g2, rfl, w2⟩ := open_cmd (hval 2 36 v2 rfl rfl) h2
  clear hA0 hval0
  refine (walk g0 v1 t1 g2 W w1 b1 w2).mono fun e W' ⟨he, bel⟩ => ?_
  subst he
  exact ⟨_, rfl, _, _, _, [], _, [], hW', trodAll_mk1 (shut_bool Try.underlying4 _), (trodAll_cons_mk (Below.trod laidOut (by kernel_rfl) (of_decide_eq_true (by kernel_rfl)) k0 bel lt0) (trodAll_cons_mk (Below.trod laidOut (by kernel_rfl) (of_decide_eq_true (by kernel_rfl)) k1 bel lt1) (trodAll_cons_mk (Below.trod laidOut (by kernel_rfl) (of_decide_eq_true (by kernel_rfl)) k2 bel lt2) trodAll_mk0))), rfl, bel.frame _, fun h => by cases h⟩

theorem over : Rows.tableOthersRow.holds Try.pinned (OpenSpec.ofChange Rows.tableOthersSpec) :=
  OpenClaim.holds_of_wide 5 Try.f5 rfl rfl rfl rfl rfl rfl rfl ⟨rfl, rfl, rfl, rfl, rfl⟩ rfl rfl rfl rfl rfl (by kernel_rfl) Try.func5 (by kernel_rfl)
    (of_decide_eq_true (by kernel_rfl)) (by unfold Func.isWrapper; first | (rw [if_pos (by decide +kernel)]; kernel_rfl) | (rw [if_neg (by decide +kernel)]; exact ⟨rfl, rfl⟩))
    (fun os started H enc _ => lifted os started H enc)

/-- The statement. -/
theorem proved : Rows.TableOthersSaid := over
#print axioms proved
end Go.Proofs.Ytjknloaolennoaa.tableOthers
