/-
  table: what the laws call: New, Apply, May by contract.
-/
import Derived.Test.YtjknloaolennoaaTabHMay
import Derived.Test.YtjknloaolennoaaJoinTabMay
namespace Go.Proofs.Ytjknloaolennoaa
open Go.RowKit
set_option linter.unusedVariables false
set_option linter.unusedSimpArgs false

set_option maxRecDepth 100000 in
set_option maxHeartbeats 2000000 in
theorem tsettled_any (nM : Nat) (B : Int) (aS : Option Addr) (nS cS : Nat) (aH : Option Addr) (nH cH : Nat) (aQ : Option Addr) (nQ cQ : Nat) (t : TabM) (w : World) (lS : LiesS w w.heap.size aS nS t.sl) (lH : LiesH w w.heap.size aH nH t.ho) (lQ : LiesH w w.heap.size aQ nQ t.qu)
    (hcS : aS = none → cS = 0) (hcH : aH = none → cH = 0) (hcQ : aQ = none → cQ = 0) (hnS : nS ≤ 1000000) (hn : nH + nQ ≤ 1000000) (hM : MayT B nM t) :
    Calls Try.prog 42 #[.agg #[.slice aS nS cS, .slice aH nH cH, .slice aQ nQ cQ]] w fun e w' => e = .returned (.bool true) ∧ Below w.heap.size w w' := by
  obtain ⟨W0, hW⟩ : ∃ W0, W0 = w.alloc (.cells #[.slice aS nS cS, .slice aH nH cH, .slice aQ nQ cQ] 56) := ⟨_, rfl⟩
  have hbw : Below w.heap.size w W0 := hW ▸ one_new _ _
  have p0 : Blk W0 w.heap.size #[.slice aS nS cS, .slice aH nH cH, .slice aQ nQ cQ] 56 := hW ▸ Blk.new w _ _
  have hql : (grantT t).qu.length = nQ := by
    have h1 : (grantT t).qu.length = t.qu.length := (stuck_iff t.ho t.qu).2 hM.st
    rw [h1]
    exact lQ.1
  have hS : ∀ X, Below W0.heap.size W0 X → (X.cell? ⟨w.heap.size, 0, none⟩ = some (.slice aS nS cS) ∧ X.cell? ⟨w.heap.size, 1, none⟩ = some (.slice aH nH cH) ∧ X.cell? ⟨w.heap.size, 2, none⟩ = some (.slice aQ nQ cQ)) ∧ Below W0.heap.size W0 X := fun X h => ⟨tab_cells (p0.below h p0.lt), h⟩
  have hD := hS _ (Below.refl W0.heap.size W0).drew
  have hGr : ∀ X, (X.cell? ⟨w.heap.size, 0, none⟩ = some (.slice aS nS cS) ∧ X.cell? ⟨w.heap.size, 1, none⟩ = some (.slice aH nH cH) ∧ X.cell? ⟨w.heap.size, 2, none⟩ = some (.slice aQ nQ cQ)) ∧ Below W0.heap.size W0 X →
      Calls Try.prog 54 #[.agg #[.slice aS nS cS, .slice aH nH cH, .slice aQ nQ cQ]] X fun e X' => (∃ A1 n1 c1 A2 n2 c2 A3 c3, e = .returned (.agg #[.slice A1 n1 c1, .slice A2 n2 c2, .slice A3 nQ c3])) ∧ (X'.cell? ⟨w.heap.size, 0, none⟩ = some (.slice aS nS cS) ∧ X'.cell? ⟨w.heap.size, 1, none⟩ = some (.slice aH nH cH) ∧ X'.cell? ⟨w.heap.size, 2, none⟩ = some (.slice aQ nQ cQ)) ∧ Below W0.heap.size W0 X' :=
    fun X h => (tGrant_any aS cS aH cH aQ cQ nS nH nQ t X (lS.below (below_then hbw h.2)) (lH.below (below_then hbw h.2)) (lQ.below (below_then hbw h.2)) hcS hcH hcQ hnS hn).mono (by
      rintro e w' ⟨⟨A1, c1, A2, c2, A3, c3, rfl, _⟩, hx⟩
      rw [hql]
      exact ⟨⟨_, _, _, _, _, _, _, _, rfl⟩, hS _ (below_then h.2 hx)⟩)
  have hfd : ∀ (W : World) A1 n1 c1 A2 n2 c2 A3 c3, (Instr.field 29 (.agg #[.slice A1 n1 c1, .slice A2 n2 c2, .slice A3 nQ c3]) 2).run Try.prog W = .ok (.slice A3 nQ c3) W := fun _ _ _ _ _ _ _ _ _ => by kernel_rfl
  clear hS p0 lS lH lQ hcS hcH hcQ hM hql
  go_enter Try.func42, Try.ntmps42
  go_upto_region 1 with fail
  rw [← hW]
  clear hW
  go_region_held3 (fun X => (X.cell? ⟨w.heap.size, 0, none⟩ = some (.slice aS nS cS) ∧ X.cell? ⟨w.heap.size, 1, none⟩ = some (.slice aH nH cH) ∧ X.cell? ⟨w.heap.size, 2, none⟩ = some (.slice aQ nQ cQ)) ∧ Below W0.heap.size W0 X) (first | assumption)
    (first
      | (go_at_call 54; (with_reducible refine (hGr _ ?_).mono ?_); assumption; rintro e W1 ⟨⟨A1, n1, c1, A2, n2, c2, A3, c3, rfl⟩, hN⟩))
  have hb1 := hN.2
  clear hN hD hGr
  go_wp2_with fail
  go_ret
  exact ⟨by simp, below_then hbw hb1⟩

set_option maxRecDepth 100000 in
set_option maxHeartbeats 2000000 in
theorem tmay_any (N B P J L E T : Int) (nM : Nat) (aS : Option Addr) (cS : Nat) (aH : Option Addr) (nH cH : Nat) (aQ : Option Addr) (nQ cQ : Nat) (t : TabM) (w : World) (lS : LiesS w w.heap.size aS nM t.sl) (lH : LiesH w w.heap.size aH nH t.ho) (lQ : LiesH w w.heap.size aQ nQ t.qu)
    (hcS : aS = none → cS = 0) (hcH : aH = none → cH = 0) (hcQ : aQ = none → cQ = 0) (hle : nH ≤ cH) (hcm : cH ≤ maxLen) (hnS : nM ≤ 1000000) (hn : nH + nQ ≤ 1000000) (hM : MayT B nM t) (hK : KeysOk t.sl) :
    Calls Try.prog 26 #[.agg #[.slice aS nM cS, .slice aH nH cH, .slice aQ nQ cQ], .agg #[.int .i64 N, .int .i64 nM, .int .i64 B, .int .i64 P, .int .i64 J, .int .i64 L, .int .i64 E, .int .i64 T]] w fun e w' => e = .returned (.bool true) ∧ Below w.heap.size w w' := by
  obtain ⟨W0, hW⟩ : ∃ W0, W0 = (w.alloc (.cells #[.slice aS nM cS, .slice aH nH cH, .slice aQ nQ cQ] 56)).alloc (.cells #[.int .i64 N, .int .i64 nM, .int .i64 B, .int .i64 P, .int .i64 J, .int .i64 L, .int .i64 E, .int .i64 T] 23) := ⟨_, rfl⟩
  have hbw : Below w.heap.size w W0 := hW ▸ two_new _ _ _
  obtain ⟨pt, pg⟩ : Blk W0 w.heap.size #[.slice aS nM cS, .slice aH nH cH, .slice aQ nQ cQ] 56 ∧ Blk W0 (w.heap.size + 1) #[.int .i64 N, .int .i64 nM, .int .i64 B, .int .i64 P, .int .i64 J, .int .i64 L, .int .i64 E, .int .i64 T] 23 := hW ▸ blk2 w _ _ _ _
  have H1 : Hid (∀ X, Below W0.heap.size W0 X → Calls Try.prog 39 #[.agg #[.slice aS nM cS, .slice aH nH cH, .slice aQ nQ cQ]] X fun e X' => e = .returned (.bool true) ∧ Below X.heap.size X X') := fun X h => tslotsMay_any aS nM cS t.sl _ _ X (lS.below (below_then hbw h)) (by omega) hM.sok hK
  have H2 : Hid (∀ X, Below W0.heap.size W0 X → Calls Try.prog 40 #[.agg #[.slice aS nM cS, .slice aH nH cH, .slice aQ nQ cQ], .agg #[.int .i64 N, .int .i64 nM, .int .i64 B, .int .i64 P, .int .i64 J, .int .i64 L, .int .i64 E, .int .i64 T]] X fun e X' => e = .returned (.bool true) ∧ Below X.heap.size X X') := fun X h => tholdsMay_any N nM B P J L E T nM aS nM cS aH nH cH aQ nQ cQ t X (lS.below (below_then hbw h)) (lH.below (below_then hbw h)) (lQ.below (below_then hbw h)) hcH hcQ hnS hn hM
  have H3 : Hid (∀ X, Below W0.heap.size W0 X → Calls Try.prog 41 #[.slice aH nH cH] X fun e X' => e = .returned (.bool true) ∧ Below X.heap.size X X') := fun X h => hM.all ▸ All_any aH nH cH t.ho X (lH.below (below_then hbw h)) (by unfold maxLen; omega) hle hcm
  have H4 : Hid (∀ X, Below W0.heap.size W0 X → Calls Try.prog 42 #[.agg #[.slice aS nM cS, .slice aH nH cH, .slice aQ nQ cQ]] X fun e X' => e = .returned (.bool true) ∧ Below X.heap.size X X') := fun X h => tsettled_any nM B aS nM cS aH nH cH aQ nQ cQ t X (lS.below (below_then hbw h)) (lH.below (below_then hbw h)) (lQ.below (below_then hbw h)) hcS hcH hcQ hnS hn hM
  have HB : Hid (∀ X, Below W0.heap.size W0 X → (X.cell? ⟨w.heap.size, 0, none⟩ = some (.slice aS nM cS) ∧ X.cell? ⟨w.heap.size, 1, none⟩ = some (.slice aH nH cH) ∧ X.cell? ⟨w.heap.size, 2, none⟩ = some (.slice aQ nQ cQ)) ∧ (X.cell? ⟨w.heap.size + 1, 0, none⟩ = some (.int .i64 N) ∧ X.cell? ⟨w.heap.size + 1, 1, none⟩ = some (.int .i64 nM) ∧ X.cell? ⟨w.heap.size + 1, 2, none⟩ = some (.int .i64 B) ∧ X.cell? ⟨w.heap.size + 1, 3, none⟩ = some (.int .i64 P) ∧ X.cell? ⟨w.heap.size + 1, 4, none⟩ = some (.int .i64 J) ∧ X.cell? ⟨w.heap.size + 1, 5, none⟩ = some (.int .i64 L) ∧ X.cell? ⟨w.heap.size + 1, 6, none⟩ = some (.int .i64 E) ∧ X.cell? ⟨w.heap.size + 1, 7, none⟩ = some (.int .i64 T)) ∧ w.heap.size + 1 < X.heap.size) := fun X h => ⟨tab_cells (pt.below h pt.lt), tgeo_cells (pg.below h pg.lt), (pg.below h pg.lt).lt⟩
  obtain ⟨⟨t0, t1, t2⟩, ⟨g0, g1, g2, g3, g4, g5, g6, g7⟩, lg⟩ := HB.out _ (Below.refl _ _)
  clear lS lH lQ hcS hcH hcQ hM hK pt pg hle hcm
  go_enter Try.func26, Try.ntmps26
  go_upto_region 1 with fail
  rw [← hW]
  clear hW
  go_wp2_with fail
  refine (H1.out _ (Below.refl _ _)).mono ?_
  rintro e w1 ⟨rfl, hb1⟩
  clear t0 t1 t2 g0 g1 g2 g3 g4 g5 g6 g7 lg H1
  obtain ⟨⟨t0, t1, t2⟩, ⟨g0, g1, g2, g3, g4, g5, g6, g7⟩, lg⟩ := HB.out _ hb1
  go_wp2_with fail
  refine (H2.out _ hb1).mono ?_
  rintro e w2 ⟨rfl, hb2'⟩
  have hb2 := below_then hb1 hb2'
  clear t0 t1 t2 g0 g1 g2 g3 g4 g5 g6 g7 lg H2 hb1 hb2'
  obtain ⟨⟨t0, t1, t2⟩, ⟨g0, g1, g2, g3, g4, g5, g6, g7⟩, lg⟩ := HB.out _ hb2
  go_wp2_with fail
  refine (H3.out _ hb2).mono ?_
  rintro e w3 ⟨rfl, hb3'⟩
  have hb3 := below_then hb2 hb3'
  clear t0 t1 t2 g0 g1 g2 g3 g4 g5 g6 g7 lg H3 hb2 hb3'
  obtain ⟨⟨t0, t1, t2⟩, ⟨g0, g1, g2, g3, g4, g5, g6, g7⟩, lg⟩ := HB.out _ hb3
  go_wp2_with fail
  refine (H4.out _ hb3).mono ?_
  rintro e w4 ⟨rfl, hb4'⟩
  have hb4 := below_then hb3 hb4'
  clear t0 t1 t2 g0 g1 g2 g3 g4 g5 g6 g7 lg H4 hb3 hb4'
  go_wp2_with fail
  go_ret
  exact ⟨rfl, below_then hbw hb4⟩

set_option maxRecDepth 100000 in
set_option maxHeartbeats 2000000 in
theorem tMay_any (N S B P J L E T : Int) (v : Value) (t : TabM) (w : World) (hT : TabAt w v t) (hlt : TabLt t) (nM : Nat) (hS : S = (nM : Int)) (hM : MayT B nM t) (hK : KeysOk t.sl) :
    Calls Try.prog 12 #[.agg #[.int .i64 N, .int .i64 S, .int .i64 B, .int .i64 P, .int .i64 J, .int .i64 L, .int .i64 E, .int .i64 T], v] w fun e w' => e = .returned (.bool true) ∧ Below w.heap.size w w' := by
  subst hS
  obtain ⟨vS, vH, vQ, rfl, ⟨aS, cS, rfl, lS, _, _, hcS⟩, ⟨aH, cH, rfl, lH, hle, hcm, hcH⟩, ⟨aQ, cQ, rfl, lQ, _, _, hcQ⟩⟩ := hT
  obtain ⟨hnS, hnH, hnQ⟩ := hlt
  have hlen := hM.len
  obtain ⟨nH, enH⟩ : ∃ n, t.ho.length = n := ⟨_, rfl⟩
  obtain ⟨nQ, enQ⟩ : ∃ n, t.qu.length = n := ⟨_, rfl⟩
  rw [hlen] at lS hnS ⊢
  rw [enH] at lH hnH hle ⊢
  rw [enQ] at lQ hnQ ⊢
  obtain ⟨W0, hW⟩ : ∃ W0, W0 = (w.alloc (.cells #[.int .i64 N, .int .i64 nM, .int .i64 B, .int .i64 P, .int .i64 J, .int .i64 L, .int .i64 E, .int .i64 T] 23)).alloc (.cells #[.slice aS nM cS, .slice aH nH cH, .slice aQ nQ cQ] 29) := ⟨_, rfl⟩
  have hbw : Below w.heap.size w W0 := hW ▸ two_new _ _ _
  obtain ⟨pg, pt⟩ : Blk W0 w.heap.size #[.int .i64 N, .int .i64 nM, .int .i64 B, .int .i64 P, .int .i64 J, .int .i64 L, .int .i64 E, .int .i64 T] 23 ∧ Blk W0 (w.heap.size + 1) #[.slice aS nM cS, .slice aH nH cH, .slice aQ nQ cQ] 29 := hW ▸ blk2 w _ _ _ _
  have H := Lib.hid (tmay_any N B P J L E T nM aS cS aH nH cH aQ nQ cQ t W0 (lS.below hbw) (lH.below hbw) (lQ.below hbw) hcS hcH hcQ hle hcm (by omega) (by omega) hM hK)
  obtain ⟨t0, t1, t2⟩ := tab_cells pt
  obtain ⟨g0, g1, g2, g3, g4, g5, g6, g7⟩ := tgeo_cells pg
  have lg := pt.lt
  clear lS lH lQ hcS hcH hcQ hM hK pt pg hle hcm hlen enH enQ
  go_enter Try.func12, Try.ntmps12
  go_upto_region 1 with fail
  rw [← hW]
  clear hW
  go_wp2_with fail
  refine H.out.mono ?_
  rintro e w1 ⟨rfl, hb1⟩
  have hb := below_then hbw hb1
  clear H t0 t1 t2 g0 g1 g2 g3 g4 g5 g6 g7 lg hb1
  go_wp2_with fail
  go_ret
  exact ⟨rfl, hb⟩

/-! ### What the laws know -/
theorem kind_may {k b s d a lo hi m : Int} (h : cMay ⟨k, b, s, d, a, lo, hi, m⟩ = true) : 0 ≤ k ∧ k ≤ 5 := by
  obtain ⟨_, _, h⟩ := cMay_iff.1 h
  exact cKind_bd h
theorem mayTB_may {S B : Int} {t : TabM} (h : mayTB S B t = true) : ∃ n, MayT B n t := by
  by_cases e : (t.sl.length : Int) = S
  · subst e
    exact ⟨_, mayTB_iff.1 h⟩
  · rw [may_len e] at h
    cases h

/-! ### Keys stay such -/
theorem keys_set {sl : List SlotM} (h : KeysOk sl) (i : Nat) {x : SlotM} (hx : x.key ≤ 1099511627776) : KeysOk (sl.set i x) := fun y hy => by
  rcases List.mem_or_eq_of_mem_set hy with h1 | rfl
  · exact h y h1
  · exact hx
theorem keys_newT (n : Nat) : KeysOk (newT n).sl := fun x hx => by
  rw [List.eq_of_mem_replicate (show x ∈ List.replicate n _ from hx)]
  simp
theorem keys_leave {t : TabM} (h : KeysOk t.sl) (i : Nat) : KeysOk (leaveT t i).sl := keys_set h i (by simp)
theorem keys_apply {B : Int} {t : TabM} (h : KeysOk t.sl) {c : CmdM} (hc : cMay c = true) : KeysOk (applyT B t c).sl := by
  obtain ⟨hb, _, _⟩ := cMay_iff.1 hc
  have hb := cKey_iff.1 hb
  unfold applyT
  split
  · split
    · exact h
    · split
      · exact keys_set h _ (by show c.by_ ≤ _; omega)
      · exact h
  · split
    · split
      · exact keys_leave h _
      · exact h
    · split
      · split
        · exact h
        · exact h
      · split
        · unfold freeT
          split
          · exact h
          · split
            · exact h
            · exact h
        · split
          · split
            · rename_i i hs
              split
              · obtain ⟨_, hi, _⟩ := slot_some hs
                refine keys_set h _ ?_
                show (t.sl.getD i default).key ≤ _
                rw [getD_slot hi]
                exact h _ (List.getElem_mem hi)
              · exact h
            · exact h
          · split
            · split
              · split
                · exact keys_leave h _
                · exact h
              · exact h
            · exact h

end Go.Proofs.Ytjknloaolennoaa
