/-
  The document's copy of a table: it shares no memory with it: by contract.
-/
import Derived.Test.YtjknloaolennoaaTabAll
import Derived.Test.YtjknloaolennoaaOwnFresh
import Derived.Test.YtjknloaolennoaaLastTwo
namespace Go.Proofs.Ytjknloaolennoaa
open Go.RowKit
set_option linter.unusedVariables false
set_option linter.unusedSimpArgs false

theorem tinfoSlot : (Try.prog.info? 48).map (fun i => (i.zero, i.size, i.bytes)) = some (some (.agg #[.int .i64 0, .int .i64 0]), 2, 16) := by kernel_rfl
/-- A table of the call's own: three rows, apart from each other. -/
structure OwnT (w : World) (B : Nat) (vS vH vQ : Value) (t : TabM) : Prop where
  s : w.ownsRow B 48 2 vS t.sl.length (sloV t.sl)
  h : w.ownsRow B 43 4 vH t.ho.length (holV t.ho)
  q : w.ownsRow B 43 4 vQ t.qu.length (holV t.qu)
  ap : ∀ b, vH.ownBlock = some b → vQ.ownBlock ≠ some b
theorem OwnT.below {w w' : World} {B : Nat} {vS vH vQ : Value} {t : TabM} (h : OwnT w B vS vH vQ t) (hb : Below w.heap.size w w') : OwnT w' B vS vH vQ t := ⟨ow_up h.s hb, ow_up h.h hb, ow_up h.q hb, h.ap⟩
theorem OwnT.less {w : World} {B B' : Nat} {vS vH vQ : Value} {t : TabM} (h : OwnT w B vS vH vQ t) (hb : B' ≤ B) : OwnT w B' vS vH vQ t := ⟨ow_less h.s hb, ow_less h.h hb, ow_less h.q hb, h.ap⟩
theorem OwnT.at_ {w : World} {B : Nat} {vS vH vQ : Value} {t : TabM} (h : OwnT w B vS vH vQ t) : TabAt w (.agg #[vS, vH, vQ]) t := ⟨_, _, _, rfl, SloAt.own h.s rfl, HolAt.own h.h rfl, HolAt.own h.q rfl⟩

/-- The parts of a copy. -/
def TcAgg (B : Nat) (t : TabM) (nS nH nQ : Nat) (v : Value) (w : World) : Prop := ∃ aS cS aH cH aQ cQ, v = .agg #[.slice aS nS cS, .slice aH nH cH, .slice aQ nQ cQ] ∧ w.ownsRow B 48 2 (.slice aS nS cS) nS (sloV t.sl) ∧
  w.ownsRow B 43 4 (.slice aH nH cH) nH (holV t.ho) ∧ w.ownsRow B 43 4 (.slice aQ nQ cQ) nQ (holV t.qu) ∧ ∀ b, (Value.slice aH nH cH).ownBlock = some b → (Value.slice aQ nQ cQ).ownBlock ≠ some b
theorem TcAgg.below {B : Nat} {t : TabM} {nS nH nQ : Nat} {v : Value} {w w' : World} (h : TcAgg B t nS nH nQ v w) (hb : Below w.heap.size w w') : TcAgg B t nS nH nQ v w' := by
  obtain ⟨aS, cS, aH, cH, aQ, cQ, e, h1, h2, h3, h4⟩ := h
  exact ⟨aS, cS, aH, cH, aQ, cQ, e, ow_up h1 hb, ow_up h2 hb, ow_up h3 hb, h4⟩
/-- What each operation of the composite yields; what two of them made lies apart. -/
def TcR (B b : Nat) (t : TabM) (nS nH nQ : Nat) (sS sH sQ : Value) : Nat → Value → World → Prop
  | 0, v, w => EmpR B 2 48 v w
  | 1, v, _ => v = .pointer (some ⟨b, 0, none⟩)
  | 2, v, _ => v = sS
  | 3, v, w => RowR B 2 48 nS (sloV t.sl) v w
  | 4, v, w => EmpR B 4 43 v w
  | 5, v, _ => v = .pointer (some ⟨b, 1, none⟩)
  | 6, v, _ => v = sH
  | 7, v, w => RowR B 4 43 nH (holV t.ho) v w
  | 8, v, w => EmpR B 4 43 v w
  | 9, v, _ => v = .pointer (some ⟨b, 2, none⟩)
  | 10, v, _ => v = sQ
  | 11, v, w => RowR B 4 43 nQ (holV t.qu) v w
  | 12, v, w => TcAgg B t nS nH nQ v w
  | _, _, _ => True
theorem tcR_keep {B b : Nat} {t : TabM} {nS nH nQ : Nat} {sS sH sQ : Value} (i : Nat) (v : Value) (w w' : World) (hi : i < 13) (h : TcR B b t nS nH nQ sS sH sQ i v w) (hb : Below w.heap.size w w') : TcR B b t nS nH nQ sS sH sQ i v w' := by
  match i, hi, h with
  | 0, _, h => exact EmpR.below h hb
  | 1, _, h => exact h
  | 2, _, h => exact h
  | 3, _, h => exact RowR.below h hb
  | 4, _, h => exact EmpR.below h hb
  | 5, _, h => exact h
  | 6, _, h => exact h
  | 7, _, h => exact RowR.below h hb
  | 8, _, h => exact EmpR.below h hb
  | 9, _, h => exact h
  | 10, _, h => exact h
  | 11, _, h => exact RowR.below h hb
  | 12, _, h => exact TcAgg.below h hb
  | n + 13, hi, _ => exact absurd hi (by omega)
def TcT (i j : Nat) (u v : Value) : Prop := ((i = 4 ∨ i = 7) ∧ (j = 8 ∨ j = 11) ∨ (i = 8 ∨ i = 11) ∧ (j = 4 ∨ j = 7)) → ∀ g, u.ownBlock = some g → v.ownBlock ≠ some g
theorem tcR_old {B b : Nat} {t : TabM} {nS nH nQ : Nat} {sS sH sQ : Value} {j g : Nat} {u : Value} {w : World} (h : TcR B b t nS nH nQ sS sH sQ j u w) (hj : (j = 4 ∨ j = 7) ∨ (j = 8 ∨ j = 11)) (hg : u.ownBlock = some g) : g < w.heap.size := by
  rcases hj with (rfl | rfl) | (rfl | rfl)
  · exact EmpR.old h hg
  · exact RowR.old h hg
  · exact EmpR.old h hg
  · exact RowR.old h hg
/-- What is made now lies apart from what was there. -/
theorem tcT_new {B b : Nat} {t : TabM} {nS nH nQ : Nat} {sS sH sQ : Value} {j i : Nat} {u v : Value} {w : World} (h : TcR B b t nS nH nQ sS sH sQ j u w) (hv : ∀ g, v.ownBlock = some g → w.heap.size ≤ g) : TcT j i u v ∧ TcT i j v u := by
  refine ⟨fun hh g hg hg' => ?_, fun hh g hg hg' => ?_⟩
  · have h1 := tcR_old h (by omega) hg
    have h2 := hv g hg'
    omega
  · have h1 := tcR_old h (by omega) hg'
    have h2 := hv g hg
    omega
theorem tcT_swap {i j : Nat} {u v : Value} (h : TcT i j u v) : TcT j i v u := fun hh g hg hg' => h (by omega) g hg' hg
/-- An empty row that stays as it is. -/
theorem tcT_as {i i' j : Nat} {u v : Value} (h : i ≠ j → TcT j i u v) (hi : i = 4 ∨ i = 8) (hii : i' = i + 3) : TcT j i' u v ∧ TcT i' j v u := by
  have h1 : TcT j i' u v := fun hh => by
    by_cases e : i = j
    · omega
    · exact h e (by omega)
  exact ⟨h1, tcT_swap h1⟩

set_option maxRecDepth 100000 in
set_option maxHeartbeats 2000000 in
theorem refCopy_any (vS vH vQ : Value) (t : TabM) (w : World) (hS : SloAt w vS t.sl) (hH : HolAt w vH t.ho) (hQ : HolAt w vQ t.qu) (hSm : TabSm t) :
    Calls Try.prog 37 #[.agg #[vS, vH, vQ]] w fun e w' => ∃ uS uH uQ, e = .returned (.agg #[uS, uH, uQ]) ∧ OwnT w' w.heap.size uS uH uQ t ∧ Below w.heap.size w w' := by
  obtain ⟨aS, cS, rfl, lS, _⟩ := hS
  obtain ⟨aH, cH, rfl, lH, _⟩ := hH
  obtain ⟨aQ, cQ, rfl, lQ, _⟩ := hQ
  obtain ⟨hnS, hnH, hnQ⟩ := hSm
  obtain ⟨nS, enS⟩ : ∃ n, t.sl.length = n := ⟨_, rfl⟩
  obtain ⟨nH, enH⟩ : ∃ n, t.ho.length = n := ⟨_, rfl⟩
  obtain ⟨nQ, enQ⟩ : ∃ n, t.qu.length = n := ⟨_, rfl⟩
  rw [enS] at lS hnS ⊢
  rw [enH] at lH hnH ⊢
  rw [enQ] at lQ hnQ ⊢
  have HN : Hid (t.sl.length = nS ∧ t.ho.length = nH ∧ t.qu.length = nQ) := ⟨enS, enH, enQ⟩
  clear enS enH enQ
  obtain ⟨W0, hW0⟩ : ∃ W0, W0 = (w.alloc (.cells #[.slice aS nS cS, .slice aH nH cH, .slice aQ nQ cQ] 29)).alloc (.cells #[.slice none 0 0, .slice none 0 0, .slice none 0 0] 29) := ⟨_, rfl⟩
  have hb0 : Below w.heap.size w W0 := by rw [hW0]; exact two_new _ _ _
  obtain ⟨p0, r0⟩ : Blk W0 w.heap.size #[.slice aS nS cS, .slice aH nH cH, .slice aQ nQ cQ] 29 ∧ Blk W0 (w.heap.size + 1) #[.slice none 0 0, .slice none 0 0, .slice none 0 0] 29 := hW0 ▸ blk2 w _ _ _ _
  have hbB := p0.lt
  have HS1 := Lib.hid (lS.below hb0)
  have HH1 := Lib.hid (lH.below hb0)
  have HQ1 := Lib.hid (lQ.below hb0)
  obtain ⟨q0, q1, q2⟩ := tab_cells p0
  obtain ⟨iS, hsi, hs0, hs1, hs2⟩ := info_parts tinfoSlot
  obtain ⟨iH, hhi, hh0, hh1, hh2⟩ := info_parts tinfoHold
  clear lS lH lQ
  go_enter Try.func37, Try.ntmps37
  go_wp2_with fail
  rw [← hW0]
  clear hW0
  refine wp_region_last2 TcT (TcR W0.heap.size w.heap.size t nS nH nQ (.slice aS nS cS) (.slice aH nH cH) (.slice aQ nQ cQ)) (fun W => Below W0.heap.size W0 W) 13 (by kernel_rfl) rfl (by kernel_rfl) (by kernel_rfl) (by kernel_rfl) ((Below.refl _ _).drew) (fun i v w w' hi h hb => tcR_keep i v w w' hi h hb) ?_ ?_
  · intro i o vs W hi ho hS hdep hTd
    match i, hi with
    | 0, _ =>
      obtain rfl := Option.some.inj ho
      clear ho hdep hTd
      refine wpOp_run (v := .slice (some ⟨W.heap.size, 0, none⟩) 0 0) (w' := W.alloc (.cells #[] 48)) rfl rfl ?_ ⟨_, rfl, hS.alloc hS.size _, ⟨_, rfl, World.ownsRow_lit W #[] 0 hS.size (Nat.zero_le _) rfl⟩, new_alloc W _, fun j u _ _ _ _ => ⟨fun h => by omega, fun h => by omega⟩⟩
      simp only [putAll, Act.put, List.setIfInBounds_toArray, List.set_cons_zero, List.set_cons_succ]
      go_simp
    | 1, _ =>
      obtain rfl := Option.some.inj ho
      clear ho hdep hTd
      refine wpOp_run (v := .pointer (some ⟨w.heap.size, 0, none⟩)) (w' := W) rfl rfl ?_ ⟨_, rfl, hS, rfl, Below.refl _ _, fun j u _ _ _ _ => ⟨fun h => by omega, fun h => by omega⟩⟩
      simp only [putAll, Act.put, List.setIfInBounds_toArray, List.set_cons_zero, List.set_cons_succ]
      go_simp
    | 2, _ =>
      obtain rfl := Option.some.inj ho
      have e1 : vs 1 = .pointer (some ⟨w.heap.size, 0, none⟩) := hdep ⟨1, .data⟩ (by simp) rfl
      have ec : W.cell? ⟨w.heap.size, 0, none⟩ = some (.slice aS nS cS) := (hS.cell (p := ⟨w.heap.size, 0, none⟩) hbB).trans q0
      clear ho hdep hTd
      refine wpOp_run (v := .slice aS nS cS) (w' := W) rfl rfl ?_ ⟨_, rfl, hS, rfl, Below.refl _ _, fun j u _ _ _ _ => ⟨fun h => by omega, fun h => by omega⟩⟩
      simp only [putAll, Act.put, List.setIfInBounds_toArray, List.set_cons_zero, List.set_cons_succ, e1]
      go_simp
    | 3, _ =>
      obtain rfl := Option.some.inj ho
      obtain ⟨g, e0, o0⟩ : ∃ g, vs 0 = .slice (some ⟨g, 0, none⟩) 0 0 ∧ _ := hdep ⟨0, .data⟩ (by simp) rfl
      have e1 : vs 2 = .slice aS nS cS := hdep ⟨2, .data⟩ (by simp) rfl
      rw [e0] at o0
      obtain ⟨A', c', W1, hrun, hown, hb, hfr⟩ := append_first2 (P := Try.prog) W W.heap.size W0.heap.size 26 26 48 iS _ 2 16 Try.underlying26 hsi hs0 hs1 hs2 rfl (by omega) g o0 hS.size aS nS cS (sloV t.sl) (HS1.out.below hS).2 (by unfold maxLen; omega) (by omega)
      clear ho hdep hTd
      refine wpOp_run (v := .slice A' nS c') (w' := W1) rfl rfl ?_ ⟨_, rfl, hS.trans (hb.mono hS.size), ⟨A', c', rfl, hown⟩, hb, fun j u _ _ _ _ => ⟨fun h => by omega, fun h => by omega⟩⟩
      simp only [putAll, Act.put, List.setIfInBounds_toArray, List.set_cons_zero, List.set_cons_succ, e0, e1]
      simp [execOp, resolve, invoke, builtin, Act.eval, hrun, Result.andThen]
    | 4, _ =>
      obtain rfl := Option.some.inj ho
      clear ho hdep hTd
      refine wpOp_run (v := .slice (some ⟨W.heap.size, 0, none⟩) 0 0) (w' := W.alloc (.cells #[] 43)) rfl rfl ?_ ⟨_, rfl, hS.alloc hS.size _, ⟨_, rfl, World.ownsRow_lit W #[] 0 hS.size (Nat.zero_le _) rfl⟩, new_alloc W _, fun j u _ _ hR _ => tcT_new hR (by intro g hg; simp [Value.ownBlock] at hg; omega)⟩
      simp only [putAll, Act.put, List.setIfInBounds_toArray, List.set_cons_zero, List.set_cons_succ]
      go_simp
    | 5, _ =>
      obtain rfl := Option.some.inj ho
      clear ho hdep hTd
      refine wpOp_run (v := .pointer (some ⟨w.heap.size, 1, none⟩)) (w' := W) rfl rfl ?_ ⟨_, rfl, hS, rfl, Below.refl _ _, fun j u _ _ _ _ => ⟨fun h => by omega, fun h => by omega⟩⟩
      simp only [putAll, Act.put, List.setIfInBounds_toArray, List.set_cons_zero, List.set_cons_succ]
      go_simp
    | 6, _ =>
      obtain rfl := Option.some.inj ho
      have e1 : vs 5 = .pointer (some ⟨w.heap.size, 1, none⟩) := hdep ⟨5, .data⟩ (by simp) rfl
      have ec : W.cell? ⟨w.heap.size, 1, none⟩ = some (.slice aH nH cH) := (hS.cell (p := ⟨w.heap.size, 1, none⟩) hbB).trans q1
      clear ho hdep hTd
      refine wpOp_run (v := .slice aH nH cH) (w' := W) rfl rfl ?_ ⟨_, rfl, hS, rfl, Below.refl _ _, fun j u _ _ _ _ => ⟨fun h => by omega, fun h => by omega⟩⟩
      simp only [putAll, Act.put, List.setIfInBounds_toArray, List.set_cons_zero, List.set_cons_succ, e1]
      go_simp
    | 7, _ =>
      obtain rfl := Option.some.inj ho
      obtain ⟨g, e0, o0⟩ : ∃ g, vs 4 = .slice (some ⟨g, 0, none⟩) 0 0 ∧ _ := hdep ⟨4, .data⟩ (by simp) rfl
      have e1 : vs 6 = .slice aH nH cH := hdep ⟨6, .data⟩ (by simp) rfl
      rw [e0] at o0
      obtain ⟨A', c', W1, hrun, hown, hb, hfr⟩ := append_first2 (P := Try.prog) W W.heap.size W0.heap.size 27 27 43 iH _ 4 32 Try.underlying27 hhi hh0 hh1 hh2 rfl (by omega) g o0 hS.size aH nH cH (holV t.ho) (HH1.out.below hS).2 (by unfold maxLen; omega) (by omega)
      have hT : ∀ j u, j < 13 → j ≠ 7 → TcR W0.heap.size w.heap.size t nS nH nQ (.slice aS nS cS) (.slice aH nH cH) (.slice aQ nQ cQ) j u W → (4 ≠ j → TcT j 4 u (.slice (some ⟨g, 0, none⟩) 0 0)) → TcT j 7 u (.slice A' nH c') ∧ TcT 7 j (.slice A' nH c') u := by
        intro j u _ _ hR hd
        rcases hfr with he | ho2
        · rw [he]
          exact tcT_as hd (by omega) rfl
        · exact tcT_new hR fun g' hg' => (ho2.lt g' hg').1
      clear ho hdep hTd
      refine wpOp_run (v := .slice A' nH c') (w' := W1) rfl rfl ?_ ⟨_, rfl, hS.trans (hb.mono hS.size), ⟨A', c', rfl, hown⟩, hb, fun j u hj hne hR hd => hT j u hj hne hR (fun hh => e0 ▸ hd ⟨4, .data⟩ (by simp) rfl hh)⟩
      simp only [putAll, Act.put, List.setIfInBounds_toArray, List.set_cons_zero, List.set_cons_succ, e0, e1]
      simp [execOp, resolve, invoke, builtin, Act.eval, hrun, Result.andThen]
    | 8, _ =>
      obtain rfl := Option.some.inj ho
      clear ho hdep hTd
      refine wpOp_run (v := .slice (some ⟨W.heap.size, 0, none⟩) 0 0) (w' := W.alloc (.cells #[] 43)) rfl rfl ?_ ⟨_, rfl, hS.alloc hS.size _, ⟨_, rfl, World.ownsRow_lit W #[] 0 hS.size (Nat.zero_le _) rfl⟩, new_alloc W _, fun j u _ _ hR _ => tcT_new hR (by intro g hg; simp [Value.ownBlock] at hg; omega)⟩
      simp only [putAll, Act.put, List.setIfInBounds_toArray, List.set_cons_zero, List.set_cons_succ]
      go_simp
    | 9, _ =>
      obtain rfl := Option.some.inj ho
      clear ho hdep hTd
      refine wpOp_run (v := .pointer (some ⟨w.heap.size, 2, none⟩)) (w' := W) rfl rfl ?_ ⟨_, rfl, hS, rfl, Below.refl _ _, fun j u _ _ _ _ => ⟨fun h => by omega, fun h => by omega⟩⟩
      simp only [putAll, Act.put, List.setIfInBounds_toArray, List.set_cons_zero, List.set_cons_succ]
      go_simp
    | 10, _ =>
      obtain rfl := Option.some.inj ho
      have e1 : vs 9 = .pointer (some ⟨w.heap.size, 2, none⟩) := hdep ⟨9, .data⟩ (by simp) rfl
      have ec : W.cell? ⟨w.heap.size, 2, none⟩ = some (.slice aQ nQ cQ) := (hS.cell (p := ⟨w.heap.size, 2, none⟩) hbB).trans q2
      clear ho hdep hTd
      refine wpOp_run (v := .slice aQ nQ cQ) (w' := W) rfl rfl ?_ ⟨_, rfl, hS, rfl, Below.refl _ _, fun j u _ _ _ _ => ⟨fun h => by omega, fun h => by omega⟩⟩
      simp only [putAll, Act.put, List.setIfInBounds_toArray, List.set_cons_zero, List.set_cons_succ, e1]
      go_simp
    | 11, _ =>
      obtain rfl := Option.some.inj ho
      obtain ⟨g, e0, o0⟩ : ∃ g, vs 8 = .slice (some ⟨g, 0, none⟩) 0 0 ∧ _ := hdep ⟨8, .data⟩ (by simp) rfl
      have e1 : vs 10 = .slice aQ nQ cQ := hdep ⟨10, .data⟩ (by simp) rfl
      rw [e0] at o0
      obtain ⟨A', c', W1, hrun, hown, hb, hfr⟩ := append_first2 (P := Try.prog) W W.heap.size W0.heap.size 27 27 43 iH _ 4 32 Try.underlying27 hhi hh0 hh1 hh2 rfl (by omega) g o0 hS.size aQ nQ cQ (holV t.qu) (HQ1.out.below hS).2 (by unfold maxLen; omega) (by omega)
      have hT : ∀ j u, j < 13 → j ≠ 11 → TcR W0.heap.size w.heap.size t nS nH nQ (.slice aS nS cS) (.slice aH nH cH) (.slice aQ nQ cQ) j u W → (8 ≠ j → TcT j 8 u (.slice (some ⟨g, 0, none⟩) 0 0)) → TcT j 11 u (.slice A' nQ c') ∧ TcT 11 j (.slice A' nQ c') u := by
        intro j u _ _ hR hd
        rcases hfr with he | ho2
        · rw [he]
          exact tcT_as hd (by omega) rfl
        · exact tcT_new hR fun g' hg' => (ho2.lt g' hg').1
      clear ho hdep hTd
      refine wpOp_run (v := .slice A' nQ c') (w' := W1) rfl rfl ?_ ⟨_, rfl, hS.trans (hb.mono hS.size), ⟨A', c', rfl, hown⟩, hb, fun j u hj hne hR hd => hT j u hj hne hR (fun hh => e0 ▸ hd ⟨8, .data⟩ (by simp) rfl hh)⟩
      simp only [putAll, Act.put, List.setIfInBounds_toArray, List.set_cons_zero, List.set_cons_succ, e0, e1]
      simp [execOp, resolve, invoke, builtin, Act.eval, hrun, Result.andThen]
    | 12, _ =>
      obtain rfl := Option.some.inj ho
      obtain ⟨A1, c1, e1, o1⟩ : ∃ A c, vs 3 = .slice A nS c ∧ _ := hdep ⟨3, .data⟩ (by simp) rfl
      obtain ⟨A2, c2, e2, o2⟩ : ∃ A c, vs 7 = .slice A nH c ∧ _ := hdep ⟨7, .data⟩ (by simp) rfl
      obtain ⟨A3, c3, e3, o3⟩ : ∃ A c, vs 11 = .slice A nQ c ∧ _ := hdep ⟨11, .data⟩ (by simp) rfl
      have hkf : TcT 7 11 (vs 7) (vs 11) := hTd ⟨7, .data⟩ (by simp) ⟨11, .data⟩ (by simp) rfl rfl (by decide)
      rw [e1] at o1
      rw [e2] at o2 hkf
      rw [e3] at o3 hkf
      clear ho hdep hTd
      refine wpOp_run (v := .agg #[.slice A1 nS c1, .slice A2 nH c2, .slice A3 nQ c3]) (w' := W) rfl rfl ?_ ⟨_, rfl, hS, ⟨A1, c1, A2, c2, A3, c3, rfl, o1, o2, o3, hkf (.inl ⟨.inr rfl, .inr rfl⟩)⟩, Below.refl _ _, fun j u _ _ _ _ => ⟨fun h => by omega, fun h => by omega⟩⟩
      simp only [putAll, Act.put, List.setIfInBounds_toArray, List.set_cons_zero, List.set_cons_succ, e1, e2, e3]
      go_simp
    | n + 13, hi => exact absurd hi (by omega)
  · intro vs W hS hR hT
    obtain ⟨A1, c1, A2, c2, A3, c3, e12, o1, o2, o3, hap⟩ : TcAgg W0.heap.size t nS nH nQ (vs 12) W := hR 12 (by omega)
    clear hR hT
    have r1 := r0.below hS r0.lt
    have hth := r1.there
    obtain ⟨z0, z1, z2⟩ := tab_cells r1
    have f0 := r1.free 0
    have f1 := r1.free 1
    have f2 := r1.free 2
    have hlr := r1.lt
    refine wpOp_step rfl (fun K hK => ?_)
    simp only [putAll, Act.put, List.setIfInBounds_toArray, List.set_cons_zero, List.set_cons_succ, e12]
    go_simp
    refine hK _ _ ?_
    clear hK
    have rr := ((r1.set 0 (.slice A1 nS c1)).set 1 (.slice A2 nH c2)).set 2 (.slice A3 nQ c3)
    have hO : OwnT (((W.setCell ⟨w.heap.size + 1, 0, none⟩ (.slice A1 nS c1)).setCell ⟨w.heap.size + 1, 1, none⟩ (.slice A2 nH c2)).setCell ⟨w.heap.size + 1, 2, none⟩ (.slice A3 nQ c3)) W0.heap.size (.slice A1 nS c1) (.slice A2 nH c2) (.slice A3 nQ c3) t :=
      ⟨by rw [HN.out.1]; exact ownsRow_setCell_below (ownsRow_setCell_below (ownsRow_setCell_below o1 r0.lt _) r0.lt _) r0.lt _,
       by rw [HN.out.2.1]; exact ownsRow_setCell_below (ownsRow_setCell_below (ownsRow_setCell_below o2 r0.lt _) r0.lt _) r0.lt _,
       by rw [HN.out.2.2]; exact ownsRow_setCell_below (ownsRow_setCell_below (ownsRow_setCell_below o3 r0.lt _) r0.lt _) r0.lt _, hap⟩
    have hB : Below w.heap.size w (((W.setCell ⟨w.heap.size + 1, 0, none⟩ (.slice A1 nS c1)).setCell ⟨w.heap.size + 1, 1, none⟩ (.slice A2 nH c2)).setCell ⟨w.heap.size + 1, 2, none⟩ (.slice A3 nQ c3)) :=
      (((hb0.trans (hS.mono hb0.size)).setCell (by simp) _).setCell (by simp) _).setCell (by simp) _
    have HO := Lib.hid (hO.less hb0.size)
    generalize ((W.setCell ⟨w.heap.size + 1, 0, none⟩ (.slice A1 nS c1)).setCell ⟨w.heap.size + 1, 1, none⟩ (.slice A2 nH c2)).setCell ⟨w.heap.size + 1, 2, none⟩ (.slice A3 nQ c3) = W1 at *
    clear hO o1 o2 o3 hap r1 hth z0 z1 z2 f0 f1 f2 hlr q0 q1 q2 hS hbB hb0 p0 r0 HS1 HH1 HQ1
    go_wp2_with fail
    refine bodyPost_ret (results_cell (cs := [.slice A1 nS c1, .slice A2 nH c2, .slice A3 nQ c3]) Try.results37 (by rfl) rr.range Try.underlying29 rfl (by kernel_rfl)) rfl ?_
    exact ⟨_, _, _, rfl, HO.out, hB⟩

end Go.Proofs.Ytjknloaolennoaa
