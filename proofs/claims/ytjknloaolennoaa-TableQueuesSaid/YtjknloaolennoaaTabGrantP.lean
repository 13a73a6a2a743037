/-
  table: Grant and Apply: by contract.
-/
import Derived.Test.YtjknloaolennoaaTabApply
import Derived.Test.YtjknloaolennoaaJoinTabMay
namespace Go.Proofs.Ytjknloaolennoaa
open Go.RowKit
set_option linter.unusedVariables false
set_option linter.unusedSimpArgs false

/-- What is handed back: a table, in a variable of the result's own. -/
theorem tab_out {w : World} {base p r : Nat} {vS vH vQ : Value} {t : TabM} {N S B P J L E T : Int} (h : WorkAt N S B P J L E T w base p vS vH vQ t) : TabAt w (.agg #[vS, vH, vQ]) t := h.own.at_
theorem ownT_sets {w : World} {B r : Nat} {vS vH vQ : Value} {t : TabM} {cs : Array Value} (h : OwnT w B vS vH vQ t) (k : Blk w r cs 29) (a b c : Value) : OwnT (w.setCells r 0 [a, b, c]) B vS vH vQ t := by
  have h1 := h.set k 0 a
  have h2 := h1.set (k.set 0 a) 1 b
  exact h2.set ((k.set 0 a).set 1 b) 2 c

def GrantOut (base : Nat) (t : TabM) (e : Ending) (w' : World) : Prop := ∃ aS cS aH cH aQ cQ, e = .returned (.agg #[.slice aS t.sl.length cS, .slice aH t.ho.length cH, .slice aQ t.qu.length cQ]) ∧ OwnT w' base (.slice aS t.sl.length cS) (.slice aH t.ho.length cH) (.slice aQ t.qu.length cQ) t

set_option maxRecDepth 100000 in
set_option maxHeartbeats 4000000 in
theorem tGrant_any (aS : Option Addr) (cS : Nat) (aH : Option Addr) (cH : Nat) (aQ : Option Addr) (cQ : Nat) (nS nH nQ : Nat) (t : TabM) (w : World) (lS : LiesS w w.heap.size aS nS t.sl) (lH : LiesH w w.heap.size aH nH t.ho) (lQ : LiesH w w.heap.size aQ nQ t.qu)
    (hcS : aS = none → cS = 0) (hcH : aH = none → cH = 0) (hcQ : aQ = none → cQ = 0) (hnS : nS ≤ 1000000) (hn : nH + nQ ≤ 1000000) :
    Calls Try.prog 54 #[.agg #[.slice aS nS cS, .slice aH nH cH, .slice aQ nQ cQ]] w fun e w' => GrantOut w.heap.size (grantT t) e w' ∧ Below w.heap.size w w' := by
  obtain ⟨W0, hW0⟩ : ∃ W0, W0 = (w.alloc (.cells #[.slice aS nS cS, .slice aH nH cH, .slice aQ nQ cQ] 29)).alloc (.cells #[.slice none 0 0, .slice none 0 0, .slice none 0 0] 29) := ⟨_, rfl⟩
  have hb0 : Below w.heap.size w W0 := by rw [hW0]; exact two_new _ _ _
  obtain ⟨pt, pr⟩ : Blk W0 w.heap.size #[.slice aS nS cS, .slice aH nH cH, .slice aQ nQ cQ] 29 ∧ Blk W0 (w.heap.size + 1) #[.slice none 0 0, .slice none 0 0, .slice none 0 0] 29 := hW0 ▸ blk2 w _ _ _ _
  have HK := Lib.hid (twork_any 0 0 0 0 0 0 0 0 aS cS aH cH aQ cQ nS nH nQ t W0 (lS.below hb0) (lH.below hb0) (lQ.below hb0) hcS hcH hcQ (by omega) (by omega) (by omega))
  have hL : Hid (t.sl.length = nS ∧ t.ho.length = nH ∧ t.qu.length = nQ) := ⟨lS.1, lH.1, lQ.1⟩
  obtain ⟨q0, q1, q2⟩ := tab_cells pt
  have hlp := pt.lt
  clear lS lH lQ hcS hcH hcQ
  go_enter Try.func54, Try.ntmps54
  go_upto_region 1 with fail
  rw [← hW0]
  clear hW0
  go_wp2_with fail
  refine HK.out.mono ?_
  rintro e w1 ⟨⟨p, vS, vH, vQ, rfl, hW⟩, hb1⟩
  clear HK q0 q1 q2 hlp
  have pr1 := pr.below hb1 pr.lt
  have hb01 := below_then hb0 hb1
  obtain ⟨A1, c1, e1, _, _⟩ := ow_shape hW.own.s
  obtain ⟨A2, c2, e2, _, _⟩ := ow_shape hW.own.h
  obtain ⟨A3, c3, e3, _, _⟩ := ow_shape hW.own.q
  subst e1 e2 e3
  have hgr := Lib.hid (tgrant_any 0 0 0 0 0 0 0 0 W0.heap.size p A1 _ c1 A2 _ c2 A3 _ c3 t w1 hW rfl rfl (by rw [hL.out.2.1, hL.out.2.2]; exact hn))
  have hbase := hb0.size
  have hlr := pr.lt
  clear hW hb1 hb0
  go_wp2_with fail
  refine hgr.out.mono ?_
  rintro e w2 ⟨⟨vH2, vQ2, rfl, hW2⟩, hb2⟩
  clear hgr
  have pr2 := pr1.below hb2 hlr
  have hb02 := hb01.trans (hb2.mono hbase)
  clear pr1 hb01 hb2 pr pt
  obtain ⟨A2', c2', e2, _, _⟩ := ow_shape hW2.own.h
  obtain ⟨A3', c3', e3, _, _⟩ := ow_shape hW2.own.q
  subst e2 e3
  obtain ⟨o0, o1, o2, _⟩ := work_cells hW2.blk
  have hlp := hW2.blk.lt
  have hth := pr2.there
  have HO : Hid (OwnT (w2.setCells (w.heap.size + 1) 0 [.slice A1 t.sl.length c1, .slice A2' (grantT t).ho.length c2', .slice A3' (grantT t).qu.length c3']) w.heap.size (.slice A1 t.sl.length c1) (.slice A2' (grantT t).ho.length c2') (.slice A3' (grantT t).qu.length c3') (grantT t)) := (ownT_sets hW2.own pr2 _ _ _).less hbase
  have hB := Lib.hid (setCells_below [.slice A1 t.sl.length c1, .slice A2' (grantT t).ho.length c2', .slice A3' (grantT t).qu.length c3'] 0 hb02 (show w.heap.size ≤ w.heap.size + 1 by omega))
  clear hW2 hb02
  go_wp2_with (refine wpList_store_mid (op := ⟨none, .store 29 _ _, _, _, _, none⟩) rfl 29 _ _ (by rfl) (w.heap.size + 1) 0 #[.slice A1 t.sl.length c1, .slice A2' (grantT t).ho.length c2', .slice A3' (grantT t).qu.length c3'] (by rfl) (by rfl) (by assumption) (by kernel_rfl) (by kernel_rfl) ?_)
  refine bodyPost_ret (results_cell (cs := [.slice A1 t.sl.length c1, .slice A2' (grantT t).ho.length c2', .slice A3' (grantT t).qu.length c3']) Try.results54 (by rfl) (World.rangeAt_setCells_same _ _ _ _ hth) Try.underlying29 rfl (by kernel_rfl)) rfl ?_
  exact ⟨⟨A1, c1, A2', c2', A3', c3', rfl, HO.out⟩, hB.out⟩

set_option maxRecDepth 100000 in
set_option maxHeartbeats 4000000 in
theorem tApply_any (N S B P J L E T : Int) (v : Value) (t : TabM) (ck cb cs cd ca cl ch cm : Int) (w : World) (hT : TabAt w v t) (hlt : TabLt t) (hk : 0 ≤ ck ∧ ck ≤ 5) (hM : ∃ n, MayT B n t) :
    Calls Try.prog 9 #[.agg #[.int .i64 N, .int .i64 S, .int .i64 B, .int .i64 P, .int .i64 J, .int .i64 L, .int .i64 E, .int .i64 T], v, .agg #[.int .i8 ck, .int .i64 cb, .int .i64 cs, .int .i64 cd, .int .i64 ca, .int .i64 cl, .int .i64 ch, .int .i8 cm]] w fun e w' => ∃ v', e = .returned v' ∧ TabAt w' v' (applyT B t ⟨ck, cb, cs, cd, ca, cl, ch, cm⟩) ∧ Below w.heap.size w w' := by
  obtain ⟨nM, hM⟩ := hM
  rw [← acts_eq hM cb cs cd ca cl ch cm hk]
  obtain ⟨vS, vH, vQ, rfl, ⟨aS, cS, rfl, lS, _, _, hcS⟩, ⟨aH, cH, rfl, lH, _, _, hcH⟩, ⟨aQ, cQ, rfl, lQ, _, _, hcQ⟩⟩ := hT
  obtain ⟨hnS, hnH, hnQ⟩ := hlt
  clear hM
  obtain ⟨t', ht'⟩ : ∃ t', actsT B t ck cb cs cd ca cl ch cm = t' := ⟨_, rfl⟩
  obtain ⟨nS, enS⟩ : ∃ n, t.sl.length = n := ⟨_, rfl⟩
  obtain ⟨nH, enH⟩ : ∃ n, t.ho.length = n := ⟨_, rfl⟩
  obtain ⟨nQ, enQ⟩ : ∃ n, t.qu.length = n := ⟨_, rfl⟩
  rw [enS] at lS hnS ⊢
  rw [enH] at lH hnH ⊢
  rw [enQ] at lQ hnQ ⊢
  rw [ht']
  have HL : Hid (t.sl.length = nS ∧ t.ho.length = nH ∧ t.qu.length = nQ) := ⟨enS, enH, enQ⟩
  have HT := Lib.hid ht'
  clear enS enH enQ ht'
  obtain ⟨W1, hW1⟩ : ∃ W, W = (w.alloc (.cells #[.int .i64 N, .int .i64 S, .int .i64 B, .int .i64 P, .int .i64 J, .int .i64 L, .int .i64 E, .int .i64 T] 23)).alloc (.cells #[.slice aS nS cS, .slice aH nH cH, .slice aQ nQ cQ] 29) := ⟨_, rfl⟩
  have b1 : Below w.heap.size w W1 := hW1 ▸ two_new _ _ _
  obtain ⟨pg1, pt1⟩ : Blk W1 w.heap.size #[.int .i64 N, .int .i64 S, .int .i64 B, .int .i64 P, .int .i64 J, .int .i64 L, .int .i64 E, .int .i64 T] 23 ∧ Blk W1 (w.heap.size + 1) #[.slice aS nS cS, .slice aH nH cH, .slice aQ nQ cQ] 29 := hW1 ▸ blk2 w _ _ _ _
  obtain ⟨W0, hW0⟩ : ∃ W, W = (W1.alloc (.cells #[.int .i8 ck, .int .i64 cb, .int .i64 cs, .int .i64 cd, .int .i64 ca, .int .i64 cl, .int .i64 ch, .int .i8 cm] 36)).alloc (.cells #[.slice none 0 0, .slice none 0 0, .slice none 0 0] 29) := ⟨_, rfl⟩
  have b2 : Below W1.heap.size W1 W0 := hW0 ▸ two_new _ _ _
  obtain ⟨pc, pr⟩ : Blk W0 W1.heap.size #[.int .i8 ck, .int .i64 cb, .int .i64 cs, .int .i64 cd, .int .i64 ca, .int .i64 cl, .int .i64 ch, .int .i8 cm] 36 ∧ Blk W0 (W1.heap.size + 1) #[.slice none 0 0, .slice none 0 0, .slice none 0 0] 29 := hW0 ▸ blk2 W1 _ _ _ _
  have hsz : W1.heap.size = w.heap.size + 1 + 1 := by rw [hW1]; simp
  have pg := pg1.below b2 pg1.lt
  have pt := pt1.below b2 pt1.lt
  have hb0 := below_then b1 b2
  rw [hsz] at pc pr
  rw [hW1] at hW0
  clear hW1 b1 b2 pg1 pt1 hsz
  have HK := Lib.hid (twork_any N S B P J L E T aS cS aH cH aQ cQ nS nH nQ t W0 (lS.below hb0) (lH.below hb0) (lQ.below hb0) hcS hcH hcQ (by omega) (by omega) (by omega))
  obtain ⟨g0, g1, g2, g3, g4, g5, g6, g7⟩ := tgeo_cells pg
  obtain ⟨q0, q1, q2⟩ := tab_cells pt
  have hlp := pt.lt
  have hlg := pg.lt
  clear lS lH lQ hcS hcH hcQ
  go_enter Try.func9, Try.ntmps9
  go_upto_region 1 with fail
  rw [← hW0]
  clear hW0
  go_wp2_with fail
  refine HK.out.mono ?_
  rintro e w1 ⟨⟨p, vS, vH, vQ, rfl, hW⟩, hb1⟩
  clear HK q0 q1 q2 hlp g0 g1 g2 g3 g4 g5 g6 g7 hlg pg pt
  have pr1 := pr.below hb1 pr.lt
  have pc1 := pc.below hb1 pc.lt
  have hb01 := below_then hb0 hb1
  obtain ⟨A1, c1, e1, _, _⟩ := ow_shape hW.own.s
  obtain ⟨A2, c2, e2, _, _⟩ := ow_shape hW.own.h
  obtain ⟨A3, c3, e3, _, _⟩ := ow_shape hW.own.q
  subst e1 e2 e3
  rw [HL.out.1, HL.out.2.1, HL.out.2.2] at hW
  have hact := Lib.hid (tapply_any N S B P J L E T W0.heap.size p A1 nS c1 A2 nH c2 A3 nQ c3 t ck cb cs cd ca cl ch cm w1 hW HL.out.1 HL.out.2.1 HL.out.2.2 (by omega) (by omega) hk)
  rw [HT.out] at hact
  have hbase := hb0.size
  have hlr := pr.lt
  obtain ⟨d0, d1, d2, d3, d4, d5, d6, d7⟩ := cmd_cells8 pc1
  have hlc := pc1.lt
  clear hW hb1 hb0
  go_wp2_with fail
  refine hact.out.mono ?_
  rintro e w2 ⟨⟨vS2, vH2, vQ2, rfl, hW2⟩, hb2⟩
  clear hact d0 d1 d2 d3 d4 d5 d6 d7 hlc pc pc1
  have pr2 := pr1.below hb2 hlr
  have hb02 := hb01.trans (hb2.mono hbase)
  clear pr1 hb01 hb2 pr
  obtain ⟨A1', c1', e1, _, _⟩ := ow_shape hW2.own.s
  obtain ⟨A2', c2', e2, _, _⟩ := ow_shape hW2.own.h
  obtain ⟨A3', c3', e3, _, _⟩ := ow_shape hW2.own.q
  subst e1 e2 e3
  obtain ⟨o0, o1, o2, _⟩ := work_cells hW2.blk
  have hlp := hW2.blk.lt
  have hth := pr2.there
  have HO := Lib.hid (ownT_sets hW2.own pr2 (.slice A1' t'.sl.length c1') (.slice A2' t'.ho.length c2') (.slice A3' t'.qu.length c3')).at_
  have hB := Lib.hid (setCells_below [.slice A1' t'.sl.length c1', .slice A2' t'.ho.length c2', .slice A3' t'.qu.length c3'] 0 hb02 (show w.heap.size ≤ w.heap.size + 1 + 1 + 1 by omega))
  clear hW2 hb02
  go_wp2_with (refine wpList_store_mid (op := ⟨none, .store 29 _ _, _, _, _, none⟩) rfl 29 _ _ (by rfl) (w.heap.size + 1 + 1 + 1) 0 #[.slice A1' t'.sl.length c1', .slice A2' t'.ho.length c2', .slice A3' t'.qu.length c3'] (by rfl) (by rfl) (by assumption) (by kernel_rfl) (by kernel_rfl) ?_)
  refine bodyPost_ret (results_cell (cs := [.slice A1' t'.sl.length c1', .slice A2' t'.ho.length c2', .slice A3' t'.qu.length c3']) Try.results9 (by rfl) (World.rangeAt_setCells_same _ _ _ _ hth) Try.underlying29 rfl (by kernel_rfl)) rfl ?_
  exact ⟨_, rfl, HO.out, hB.out⟩

end Go.Proofs.Ytjknloaolennoaa
