/- Joined: TabGrProg, TabVacate, TabKindA, TabKindB, TabKindC, TabAsk, TabFree, TabActsT. -/
import Derived.Test.YtjknloaolennoaaJoinTabActs
import Derived.Test.YtjknloaolennoaaJoinTabMay
import Derived.Test.YtjknloaolennoaaHeldTo
import Derived.Deep.RegionHeld3
import Derived.Test.YtjknloaolennoaaTabVar
import Derived.BigQuiet
import Derived.Test.YtjknloaolennoaaTabMeth
import Derived.Test.YtjknloaolennoaaJoinTabLen
/-
  table: (*working).grant: by contract.
-/
namespace Go.Proofs.Ytjknloaolennoaa
open Go.RowKit
set_option linter.unusedVariables false
set_option linter.unusedSimpArgs false

def GrantPost (N S B P J L E T : Int) (base p : Nat) (vS : Value) (t : TabM) (e : Ending) (w' : World) : Prop := ∃ vH vQ, e = .returned (.tuple #[]) ∧ WorkAt N S B P J L E T w' base p vS vH vQ (grantT t)
theorem grant_end {t : TabM} {hs qs : List HoldM} {k n : Nat} (hl : t.qu.length = n) (hk : ¬ k < n) (h : grantGo (t.qu.take k) t.ho [] = (hs, qs)) : grantT t = ⟨t.sl, hs, qs⟩ := by
  rw [List.take_of_length_le (by omega)] at h
  unfold grantT
  rw [h]

set_option maxRecDepth 100000 in
set_option maxHeartbeats 4000000 in
theorem tgrant_any (N S B P J L E T : Int) (base p : Nat) (aS : Option Addr) (nS cS : Nat) (aH : Option Addr) (nH cH : Nat) (aQ : Option Addr) (nQ cQ : Nat) (t : TabM) (w : World) (hW : WorkAt N S B P J L E T w base p (.slice aS nS cS) (.slice aH nH cH) (.slice aQ nQ cQ) t) (hnH : t.ho.length = nH) (hnQ : t.qu.length = nQ) (hn : nH + nQ ≤ 1000000) :
    Calls Try.prog 48 #[.pointer (some ⟨p, 0, none⟩)] w fun e w' => GrantPost N S B P J L E T base p (.slice aS nS cS) t e w' ∧ Below base w w' := by
  obtain ⟨sl, ho, qu⟩ := t
  have hG := GrSt.start hW
  have HLQ : Hid (qu.length = nQ) := hnQ
  have HLH : Hid (ho.length = nH) := hnH
  have hb0 : Below base w w := Below.refl _ _
  obtain ⟨i0, hi0, hz0, hz1, hz2⟩ := info_parts tinfoHold
  obtain ⟨q0, q1, q2, _⟩ := work_cells hW.blk
  have hlp := hW.blk.lt
  clear hnH hnQ hW
  go_enter Try.func48, Try.ntmps48
  go_wp2_with fail
  go_loopw [2, 12] (fun st i wr => ∃ (k : Nat) (vH vq : Value) (hs qs : List HoldM), k ≤ nQ ∧ st = vq ∧ i = .int .i64 k ∧ Hid (grantGo (qu.take k) ho [] = (hs, qs)) ∧ GrSt N S B P J L E T wr base p (.slice aS nS cS) vH vq (.slice aQ nQ cQ) sl hs qs qu ∧ Below base w wr ∧ hs.length + qs.length = nH + k) (fun _ i _ => nQ - (intOf i).toNat)
  case atStart => exact ⟨0, _, _, _, _, Nat.zero_le _, rfl, rfl, rfl, hG, hb0, by rw [HLH.out]; rfl⟩
  case round =>
    clear hG hb0 q0 q1 q2 hlp
    obtain ⟨k, vH, vq, hs, qs, hk, rfl, rfl, HG, hG, hb, hlen⟩ := hrel
    obtain ⟨AH, cH', eH, _, _⟩ := ow_shape hG.own.h
    obtain ⟨AQ, cQ', eQ, _, _⟩ := ow_shape hG.own.q
    subst eH eQ
    obtain ⟨mh, HNh⟩ : ∃ n, hs.length = n := ⟨_, rfl⟩
    obtain ⟨mq, HNq⟩ : ∃ n, qs.length = n := ⟨_, rfl⟩
    rw [show (⟨sl, hs, qs⟩ : TabM).ho.length = mh from HNh, show (⟨sl, hs, qs⟩ : TabM).qu.length = mq from HNq] at hG
    rw [HNh, HNq] at hlen
    first
      | rw [HNq]
      | rw [show (⟨sl, hs, qs⟩ : TabM).qu.length = mq from HNq]
    have HNs : Hid (hs.length = mh ∧ qs.length = mq) := ⟨HNh, HNq⟩
    have hlp := hG.blk.lt
    obtain ⟨q0, q1, q2, _⟩ := work_cells hG.blk
    clear HNh HNq
    by_cases hlt : k < nQ
    · have hkl : k < qu.length := by rw [HLQ.out]; exact hlt
      have hqs : qu.length = nQ := HLQ.out
      have hq0 := hG.q0
      rw [hqs] at hq0
      obtain ⟨ad, e1, had, c0, c1, c2, c3⟩ := hol_cells (⟨hqs, ow_lies hq0⟩ : LiesH wr wr.heap.size aQ nQ qu) hlt hkl
      clear hq0
      subst e1
      obtain ⟨kx, lx, hx, mx, hxx⟩ : ∃ kx lx hx' mx, qu[k] = (⟨kx, ⟨lx, hx'⟩, mx⟩ : HoldM) := ⟨_, _, _, _, rfl⟩
      have HX : Hid (∃ h : k < qu.length, qu[k] = (⟨kx, ⟨lx, hx⟩, mx⟩ : HoldM)) := ⟨hkl, hxx⟩
      rw [hxx] at c0 c1 c2 c3
      clear hxx hkl hqs
      have bx := new_alloc wr (.cells #[.int .i64 kx, .int .i64 lx, .int .i64 hx, .int .i8 mx] 43)
      have px := Blk.new wr #[.int .i64 kx, .int .i64 lx, .int .i64 hx, .int .i8 mx] 43
      have hG4 := hG.below bx
      have hb4 := hb.trans (bx.mono hG.size)
      have hqH : ∀ g, (Value.slice AH mh cH').ownBlock = some g → g < wr.heap.size := fun g h => (hG.own.h.lt g h).2
      have HqH := Lib.hid hqH
      clear hqH
      have HqQ : Hid (∀ g, (Value.slice AQ mq cQ').ownBlock = some g → g < wr.heap.size) := fun g h => (hG.own.q.lt g h).2
      go_upto_region 4 with fail
      obtain ⟨x, hxw⟩ : ∃ x, wr.heap.size = x := ⟨_, rfl⟩
      rw [hxw] at px HqH HqQ ⊢
      obtain ⟨W4, hW4⟩ : ∃ W, W = wr.alloc (.cells #[.int .i64 kx, .int .i64 lx, .int .i64 hx, .int .i8 mx] 43) := ⟨_, rfl⟩
      rw [← hW4] at px hG4 hb4 ⊢
      clear hW4 hxw hG hb bx hlp q0 q1 q2 c0 c1 c2 c3 had
      have lH : LiesH W4 W4.heap.size AH mh hs := ⟨HNs.out.1, by have := hG4.own.h; rw [show (⟨sl, hs, qs⟩ : TabM).ho.length = mh from HNs.out.1] at this; exact ow_lies this⟩
      have lQ : LiesH W4 W4.heap.size AQ mq qs := ⟨HNs.out.2, by have := hG4.own.q; rw [show (⟨sl, hs, qs⟩ : TabM).qu.length = mq from HNs.out.2] at this; exact ow_lies this⟩
      have HF1 : Hid (∀ W, Below W4.heap.size W4 W → Calls Try.prog 53 #[.agg #[.int .i64 kx, .int .i64 lx, .int .i64 hx, .int .i8 mx], .slice AH mh cH'] W fun e w' => e = .returned (.bool (sFits ⟨kx, ⟨lx, hx⟩, mx⟩ hs)) ∧ Below W.heap.size W w') := fun W h => Fits_any kx lx hx mx AH mh cH' hs W (lH.below h) (by unfold maxLen; omega)
      have HF2 : Hid (∀ W, Below W4.heap.size W4 W → Calls Try.prog 53 #[.agg #[.int .i64 kx, .int .i64 lx, .int .i64 hx, .int .i8 mx], .slice AQ mq cQ'] W fun e w' => e = .returned (.bool (sFits ⟨kx, ⟨lx, hx⟩, mx⟩ qs)) ∧ Below W.heap.size W w') := fun W h => Fits_any kx lx hx mx AQ mq cQ' qs W (lQ.below h) (by unfold maxLen; omega)
      clear lH lQ
      have hKeep : Hid (∀ X, Below W4.heap.size W4 X → (X.cell? ⟨p, 1, none⟩ = some (.slice AH mh cH')) ∧ (X.cell? ⟨x, 0, none⟩ = some (.int .i64 kx) ∧ X.cell? ⟨x, 1, none⟩ = some (.int .i64 lx) ∧ X.cell? ⟨x, 2, none⟩ = some (.int .i64 hx) ∧ X.cell? ⟨x, 3, none⟩ = some (.int .i8 mx)) ∧ Below W4.heap.size W4 X) := fun X h => ⟨(hG4.blk.below h hG4.blk.lt).cell 1 _ rfl, hold_cells (px.below h px.lt), h⟩
      cases hf1 : sFits ⟨kx, ⟨lx, hx⟩, mx⟩ hs with
      | false =>
        rw [hf1] at HF1
        have HF := Lib.hid (grant_no HX.out.1 HX.out.2 HG.out (.inl hf1))
        clear hf1 HG
        refine wp_region_held_drew (S := (fun X => (X.cell? ⟨p, 1, none⟩ = some (.slice AH mh cH')) ∧ (X.cell? ⟨x, 0, none⟩ = some (.int .i64 kx) ∧ X.cell? ⟨x, 1, none⟩ = some (.int .i64 lx) ∧ X.cell? ⟨x, 2, none⟩ = some (.int .i64 hx) ∧ X.cell? ⟨x, 3, none⟩ = some (.int .i8 mx)) ∧ Below W4.heap.size W4 X)) (by kernel_rfl) ?_ (fun hHeld => ?_)
        focus (exact hKeep.out _ (Below.refl _ _).drew)
        refine wpAnyH_take (i := 0) (oi := ⟨some 16, _, _, _, _, _⟩) (v := ?_) rfl (by kernel_rfl) (by kernel_rfl) (by kernel_rfl) (fun _ _ _ h => h) (Or.inl ⟨by rfl, ?_⟩) (by assumption) ?_
        rotate_left
        focus (intro wq hSq; (try dsimp only at hSq); go_simp; try with_reducible rfl)
        try simp only [Act.put, List.setIfInBounds_toArray, List.set_cons_zero, List.set_cons_succ]
        refine wpAnyH_take (i := 1) (oi := ⟨some 17, _, _, _, _, _⟩) (v := ?_) rfl (by kernel_rfl) (by kernel_rfl) (by kernel_rfl) (fun _ _ _ h => h) (Or.inl ⟨by rfl, ?_⟩) (by assumption) ?_
        rotate_left
        focus (intro wq hSq; (try dsimp only at hSq); go_simp; try with_reducible rfl)
        try simp only [Act.put, List.setIfInBounds_toArray, List.set_cons_zero, List.set_cons_succ]
        refine wpAnyH_take (i := 2) (oi := ⟨some 18, _, _, _, _, _⟩) (v := ?_) rfl (by kernel_rfl) (by kernel_rfl) (by kernel_rfl) (fun _ _ _ h => h) (Or.inl ⟨by rfl, ?_⟩) (by assumption) ?_
        rotate_left
        focus (intro wq hSq; (try dsimp only at hSq); go_simp; try with_reducible rfl)
        try simp only [Act.put, List.setIfInBounds_toArray, List.set_cons_zero, List.set_cons_succ]
        refine wpAnyH_take (i := 3) (oi := ⟨some 19, _, _, _, _, _⟩) (v := ?_) rfl (by kernel_rfl) (by kernel_rfl) (by kernel_rfl) (fun _ _ _ h => h) (Or.inl ⟨by rfl, ?_⟩) (by assumption) ?_
        rotate_left
        focus (intro wq hSq; (try dsimp only at hSq); go_simp; try with_reducible rfl)
        try simp only [Act.put, List.setIfInBounds_toArray, List.set_cons_zero, List.set_cons_succ]
        refine wpAnyH_take (i := 4) (oi := ⟨some 20, _, _, _, _, _⟩) (v := ?_) rfl (by kernel_rfl) (by kernel_rfl) (by kernel_rfl) (fun _ _ _ h => h) (Or.inl ⟨by rfl, ?_⟩) (by assumption) ?_
        rotate_left
        focus (intro wq hSq; (try dsimp only at hSq); go_simp; try with_reducible rfl)
        try simp only [Act.put, List.setIfInBounds_toArray, List.set_cons_zero, List.set_cons_succ]
        refine wpAnyH_take (i := 5) (oi := ⟨some 21, _, _, _, _, _⟩) (v := ?_) rfl (by kernel_rfl) (by kernel_rfl) (by kernel_rfl) (fun _ _ _ h => h) (Or.inl ⟨by rfl, ?_⟩) (by assumption) ?_
        rotate_left
        focus (intro wq hSq; (try dsimp only at hSq); go_simp; try with_reducible rfl)
        try simp only [Act.put, List.setIfInBounds_toArray, List.set_cons_zero, List.set_cons_succ]
        refine wpAnyH_take (i := 6) (oi := ⟨some 22, _, _, _, _, _⟩) (v := ?_) rfl (by kernel_rfl) (by kernel_rfl) (by kernel_rfl) (fun _ _ _ h => h) (Or.inl ⟨by rfl, ?_⟩) (by assumption) ?_
        rotate_left
        focus (intro wq hSq; (try dsimp only at hSq); go_simp; try with_reducible rfl)
        try simp only [Act.put, List.setIfInBounds_toArray, List.set_cons_zero, List.set_cons_succ]
        refine wpAnyH_ready (rs := [7]) (by kernel_rfl) (by simp) ?_
        refine AllReadyH.cons (o := ⟨some 23, _, _, _, _, _⟩) rfl (fun K hK => ?_) AllReadyH.nil
        go_simp
        refine (HF1.out _ (hHeld.2.2)).mono ?_
        rintro e w5 ⟨rfl, hx5⟩
        have hb5 := below_then hHeld.2.2 hx5
        refine hK.out _ _ ?_ (fun hHeld => ?_)
        focus (exact hKeep.out _ hb5)
        clear hK K
        try simp only [Act.put, List.setIfInBounds_toArray, List.set_cons_zero, List.set_cons_succ]
        refine wpAnyH_take (i := 8) (oi := ⟨some 24, _, _, _, _, _⟩) (v := ?_) rfl (by kernel_rfl) (by kernel_rfl) (by kernel_rfl) (fun _ _ _ h => h) (Or.inl ⟨by rfl, ?_⟩) (by assumption) ?_
        rotate_left
        focus (intro wq hSq; (try dsimp only at hSq); go_simp; try with_reducible rfl)
        try simp only [Act.put, List.setIfInBounds_toArray, List.set_cons_zero, List.set_cons_succ]
        refine wpAnyH_take (i := 9) (oi := ⟨some 25, _, _, _, _, _⟩) (v := undef) rfl (by kernel_rfl) (by kernel_rfl) (by kernel_rfl) (fun _ _ _ h => h) (Or.inr ⟨by rfl, rfl⟩) (by assumption) ?_
        try simp only [Act.put, List.setIfInBounds_toArray, List.set_cons_zero, List.set_cons_succ]
        refine wpAnyH_take (i := 10) (oi := ⟨some 26, _, _, _, _, _⟩) (v := undef) rfl (by kernel_rfl) (by kernel_rfl) (by kernel_rfl) (fun _ _ _ h => h) (Or.inr ⟨by rfl, rfl⟩) (by assumption) ?_
        try simp only [Act.put, List.setIfInBounds_toArray, List.set_cons_zero, List.set_cons_succ]
        refine wpAnyH_take (i := 11) (oi := ⟨some 27, _, _, _, _, _⟩) (v := undef) rfl (by kernel_rfl) (by kernel_rfl) (by kernel_rfl) (fun _ _ _ h => h) (Or.inr ⟨by rfl, rfl⟩) (by assumption) ?_
        try simp only [Act.put, List.setIfInBounds_toArray, List.set_cons_zero, List.set_cons_succ]
        refine wpAnyH_take (i := 12) (oi := ⟨some 28, _, _, _, _, _⟩) (v := ?_) rfl (by kernel_rfl) (by kernel_rfl) (by kernel_rfl) (fun _ _ _ h => h) (Or.inl ⟨by rfl, ?_⟩) (by assumption) ?_
        rotate_left
        focus (intro wq hSq; (try dsimp only at hSq); go_simp; try with_reducible rfl)
        try simp only [Act.put, List.setIfInBounds_toArray, List.set_cons_zero, List.set_cons_succ]
        refine wpAnyH_done (by kernel_rfl) ?_ _
        have hG6 := hG4.below hb5
        have hbb := hb4.trans (hb5.mono hG4.size)
        have px6 := px.below hb5 px.lt
        clear px hG4 hb4 hb5 HF1 HF2 hKeep hHeld
        obtain ⟨x0, x1, x2, x3⟩ := hold_cells px6
        have hlx := px6.lt
        have bone := new_alloc w5 (.cells #[.int .i64 kx, .int .i64 lx, .int .i64 hx, .int .i8 mx] 43)
        have lone := LiesH.just (Blk.new w5 #[.int .i64 kx, .int .i64 lx, .int .i64 hx, .int .i8 mx] 43)
        obtain ⟨pz, ez, _, hcz⟩ := lone.2.2 (by omega)
        injection ez with ez
        subst ez
        have hG7 := hG6.below bone
        have HOwn : Hid ((w5.alloc (.cells #[.int .i64 kx, .int .i64 lx, .int .i64 hx, .int .i8 mx] 43)).ownsRow base 43 4 (.slice AQ mq cQ') mq (holV qs)) := by have h := hG7.own.q; rw [show (⟨sl, hs, qs⟩ : TabM).qu.length = mq from HNs.out.2] at h; exact h
        have hbone := hbb.trans (bone.mono hG6.size)
        have hs7 := hG7.size
        clear lone hG6 hbb px6 bone
        go_wp2_with (at_builtin; refine wpList_append_own_at _ rfl _ _ 27 rfl base 43 i0 _ 4 32 Try.underlying27 hi0 hz0 hz1 hz2 rfl (by omega) _ _ _ rfl (HOwn.out) ⟨w5.heap.size, 0, none⟩ 1 1 (holV [⟨kx, ⟨lx, hx⟩, mx⟩]) rfl rfl hcz (holV_one _) ?d1 ?d2 ?d3 ?_)
        case d1 => unfold maxLen; omega
        case d2 => omega
        case d3 => first | exact hs7 | (have h := hs7; simp at h; omega)
        intro v5 w8 hown5 hg5 _ hat
        have hG8 := hG7.pushQ (x := ⟨kx, ⟨lx, hx⟩, mx⟩) (by rw [HNs.out.2]; exact hown5) hg5 (by first | exact hat | exact hat.imp id fun h => h.trans (by simp))
        have hb8 := hbone.grown hg5 hs7 (fun j hj => (HOwn.out.lt j hj).1)
        obtain ⟨A5, c5, e5, _, _⟩ := ow_shape hown5
        subst e5
        have HR : Hid (GrSt N S B P J L E T w8 base p (.slice aS nS cS) (.slice AH mh cH') (.slice A5 (mq + 1) c5) (.slice (some ad) nQ cQ) sl hs (qs ++ [⟨kx, ⟨lx, hx⟩, mx⟩]) qu ∧ Below base w w8) := ⟨hG8, hb8⟩
        clear hG8 hb8 hown5 hg5 hat HOwn hcz hG7 hbone x0 x1 x2 x3 hlx hs7
        go_wp2_with fail
        go_roundw
        case rel => exact ⟨k + 1, _, _, _, _, by omega, rfl, by go_num, HF, HR.out.1, HR.out.2, by have h1 := HNs.out.1; have h2 := HNs.out.2; simp; omega⟩
        case measure => simp [intOf]; omega
      | true =>
        rw [hf1] at HF1
        have HS1 := Lib.hid hf1
        clear hf1
        cases hf2 : sFits ⟨kx, ⟨lx, hx⟩, mx⟩ qs with
        | false =>
          rw [hf2] at HF2
          have HF := Lib.hid (grant_no HX.out.1 HX.out.2 HG.out (.inr hf2))
          clear hf2 HG
          refine wp_region_held_drew (S := (fun X => (X.cell? ⟨p, 1, none⟩ = some (.slice AH mh cH')) ∧ (X.cell? ⟨x, 0, none⟩ = some (.int .i64 kx) ∧ X.cell? ⟨x, 1, none⟩ = some (.int .i64 lx) ∧ X.cell? ⟨x, 2, none⟩ = some (.int .i64 hx) ∧ X.cell? ⟨x, 3, none⟩ = some (.int .i8 mx)) ∧ Below W4.heap.size W4 X)) (by kernel_rfl) ?_ (fun hHeld => ?_)
          focus (exact hKeep.out _ (Below.refl _ _).drew)
          refine wpAnyH_take (i := 0) (oi := ⟨some 16, _, _, _, _, _⟩) (v := ?_) rfl (by kernel_rfl) (by kernel_rfl) (by kernel_rfl) (fun _ _ _ h => h) (Or.inl ⟨by rfl, ?_⟩) (by assumption) ?_
          rotate_left
          focus (intro wq hSq; (try dsimp only at hSq); go_simp; try with_reducible rfl)
          try simp only [Act.put, List.setIfInBounds_toArray, List.set_cons_zero, List.set_cons_succ]
          refine wpAnyH_take (i := 1) (oi := ⟨some 17, _, _, _, _, _⟩) (v := ?_) rfl (by kernel_rfl) (by kernel_rfl) (by kernel_rfl) (fun _ _ _ h => h) (Or.inl ⟨by rfl, ?_⟩) (by assumption) ?_
          rotate_left
          focus (intro wq hSq; (try dsimp only at hSq); go_simp; try with_reducible rfl)
          try simp only [Act.put, List.setIfInBounds_toArray, List.set_cons_zero, List.set_cons_succ]
          refine wpAnyH_take (i := 2) (oi := ⟨some 18, _, _, _, _, _⟩) (v := ?_) rfl (by kernel_rfl) (by kernel_rfl) (by kernel_rfl) (fun _ _ _ h => h) (Or.inl ⟨by rfl, ?_⟩) (by assumption) ?_
          rotate_left
          focus (intro wq hSq; (try dsimp only at hSq); go_simp; try with_reducible rfl)
          try simp only [Act.put, List.setIfInBounds_toArray, List.set_cons_zero, List.set_cons_succ]
          refine wpAnyH_take (i := 3) (oi := ⟨some 19, _, _, _, _, _⟩) (v := ?_) rfl (by kernel_rfl) (by kernel_rfl) (by kernel_rfl) (fun _ _ _ h => h) (Or.inl ⟨by rfl, ?_⟩) (by assumption) ?_
          rotate_left
          focus (intro wq hSq; (try dsimp only at hSq); go_simp; try with_reducible rfl)
          try simp only [Act.put, List.setIfInBounds_toArray, List.set_cons_zero, List.set_cons_succ]
          refine wpAnyH_take (i := 4) (oi := ⟨some 20, _, _, _, _, _⟩) (v := ?_) rfl (by kernel_rfl) (by kernel_rfl) (by kernel_rfl) (fun _ _ _ h => h) (Or.inl ⟨by rfl, ?_⟩) (by assumption) ?_
          rotate_left
          focus (intro wq hSq; (try dsimp only at hSq); go_simp; try with_reducible rfl)
          try simp only [Act.put, List.setIfInBounds_toArray, List.set_cons_zero, List.set_cons_succ]
          refine wpAnyH_take (i := 5) (oi := ⟨some 21, _, _, _, _, _⟩) (v := ?_) rfl (by kernel_rfl) (by kernel_rfl) (by kernel_rfl) (fun _ _ _ h => h) (Or.inl ⟨by rfl, ?_⟩) (by assumption) ?_
          rotate_left
          focus (intro wq hSq; (try dsimp only at hSq); go_simp; try with_reducible rfl)
          try simp only [Act.put, List.setIfInBounds_toArray, List.set_cons_zero, List.set_cons_succ]
          refine wpAnyH_take (i := 6) (oi := ⟨some 22, _, _, _, _, _⟩) (v := ?_) rfl (by kernel_rfl) (by kernel_rfl) (by kernel_rfl) (fun _ _ _ h => h) (Or.inl ⟨by rfl, ?_⟩) (by assumption) ?_
          rotate_left
          focus (intro wq hSq; (try dsimp only at hSq); go_simp; try with_reducible rfl)
          try simp only [Act.put, List.setIfInBounds_toArray, List.set_cons_zero, List.set_cons_succ]
          refine wpAnyH_ready (rs := [7]) (by kernel_rfl) (by simp) ?_
          refine AllReadyH.cons (o := ⟨some 23, _, _, _, _, _⟩) rfl (fun K hK => ?_) AllReadyH.nil
          go_simp
          refine (HF1.out _ (hHeld.2.2)).mono ?_
          rintro e w5 ⟨rfl, hx5⟩
          have hb5 := below_then hHeld.2.2 hx5
          refine hK.out _ _ ?_ (fun hHeld => ?_)
          focus (exact hKeep.out _ hb5)
          clear hK K
          try simp only [Act.put, List.setIfInBounds_toArray, List.set_cons_zero, List.set_cons_succ]
          refine wpAnyH_take (i := 8) (oi := ⟨some 24, _, _, _, _, _⟩) (v := ?_) rfl (by kernel_rfl) (by kernel_rfl) (by kernel_rfl) (fun _ _ _ h => h) (Or.inl ⟨by rfl, ?_⟩) (by assumption) ?_
          rotate_left
          focus (intro wq hSq; (try dsimp only at hSq); go_simp; try with_reducible rfl)
          try simp only [Act.put, List.setIfInBounds_toArray, List.set_cons_zero, List.set_cons_succ]
          refine wpAnyH_take (i := 9) (oi := ⟨some 25, _, _, _, _, _⟩) (v := ?_) rfl (by kernel_rfl) (by kernel_rfl) (by kernel_rfl) (fun _ _ _ h => h) (Or.inl ⟨by rfl, ?_⟩) (by assumption) ?_
          rotate_left
          focus (intro wq hSq; (try dsimp only at hSq); go_simp; try with_reducible rfl)
          try simp only [Act.put, List.setIfInBounds_toArray, List.set_cons_zero, List.set_cons_succ]
          refine wpAnyH_take (i := 10) (oi := ⟨some 26, _, _, _, _, _⟩) (v := ?_) rfl (by kernel_rfl) (by kernel_rfl) (by kernel_rfl) (fun _ _ _ h => h) (Or.inl ⟨by rfl, ?_⟩) (by assumption) ?_
          rotate_left
          focus (intro wq hSq; (try dsimp only at hSq); go_simp; try with_reducible rfl)
          try simp only [Act.put, List.setIfInBounds_toArray, List.set_cons_zero, List.set_cons_succ]
          refine wpAnyH_ready (rs := [11]) (by kernel_rfl) (by simp) ?_
          refine AllReadyH.cons (o := ⟨some 27, _, _, _, _, _⟩) rfl (fun K hK => ?_) AllReadyH.nil
          go_simp
          refine (HF2.out _ (hHeld.2.2)).mono ?_
          rintro e w6 ⟨rfl, hx6⟩
          have hb6 := below_then hHeld.2.2 hx6
          refine hK.out _ _ ?_ (fun hHeld => ?_)
          focus (exact hKeep.out _ hb6)
          clear hK K
          try simp only [Act.put, List.setIfInBounds_toArray, List.set_cons_zero, List.set_cons_succ]
          refine wpAnyH_take (i := 12) (oi := ⟨some 28, _, _, _, _, _⟩) (v := ?_) rfl (by kernel_rfl) (by kernel_rfl) (by kernel_rfl) (fun _ _ _ h => h) (Or.inl ⟨by rfl, ?_⟩) (by assumption) ?_
          rotate_left
          focus (intro wq hSq; (try dsimp only at hSq); go_simp; try with_reducible rfl)
          try simp only [Act.put, List.setIfInBounds_toArray, List.set_cons_zero, List.set_cons_succ]
          refine wpAnyH_done (by kernel_rfl) ?_ _
          clear hb5 hx5
          have hG6 := hG4.below hb6
          have hbb := hb4.trans (hb6.mono hG4.size)
          have px6 := px.below hb6 px.lt
          clear px hG4 hb4 hb6 HF1 HF2 hKeep hHeld
          obtain ⟨x0, x1, x2, x3⟩ := hold_cells px6
          have hlx := px6.lt
          have bone := new_alloc w6 (.cells #[.int .i64 kx, .int .i64 lx, .int .i64 hx, .int .i8 mx] 43)
          have lone := LiesH.just (Blk.new w6 #[.int .i64 kx, .int .i64 lx, .int .i64 hx, .int .i8 mx] 43)
          obtain ⟨pz, ez, _, hcz⟩ := lone.2.2 (by omega)
          injection ez with ez
          subst ez
          have hG7 := hG6.below bone
          have HOwn : Hid ((w6.alloc (.cells #[.int .i64 kx, .int .i64 lx, .int .i64 hx, .int .i8 mx] 43)).ownsRow base 43 4 (.slice AQ mq cQ') mq (holV qs)) := by have h := hG7.own.q; rw [show (⟨sl, hs, qs⟩ : TabM).qu.length = mq from HNs.out.2] at h; exact h
          have hbone := hbb.trans (bone.mono hG6.size)
          have hs7 := hG7.size
          clear lone hG6 hbb px6 bone
          go_wp2_with (at_builtin; refine wpList_append_own_at _ rfl _ _ 27 rfl base 43 i0 _ 4 32 Try.underlying27 hi0 hz0 hz1 hz2 rfl (by omega) _ _ _ rfl (HOwn.out) ⟨w6.heap.size, 0, none⟩ 1 1 (holV [⟨kx, ⟨lx, hx⟩, mx⟩]) rfl rfl hcz (holV_one _) ?d1 ?d2 ?d3 ?_)
          case d1 => unfold maxLen; omega
          case d2 => omega
          case d3 => first | exact hs7 | (have h := hs7; simp at h; omega)
          intro v5 w8 hown5 hg5 _ hat
          have hG8 := hG7.pushQ (x := ⟨kx, ⟨lx, hx⟩, mx⟩) (by rw [HNs.out.2]; exact hown5) hg5 (by first | exact hat | exact hat.imp id fun h => h.trans (by simp))
          have hb8 := hbone.grown hg5 hs7 (fun j hj => (HOwn.out.lt j hj).1)
          obtain ⟨A5, c5, e5, _, _⟩ := ow_shape hown5
          subst e5
          have HR : Hid (GrSt N S B P J L E T w8 base p (.slice aS nS cS) (.slice AH mh cH') (.slice A5 (mq + 1) c5) (.slice (some ad) nQ cQ) sl hs (qs ++ [⟨kx, ⟨lx, hx⟩, mx⟩]) qu ∧ Below base w w8) := ⟨hG8, hb8⟩
          clear hG8 hb8 hown5 hg5 hat HOwn hcz hG7 hbone x0 x1 x2 x3 hlx hs7
          go_wp2_with fail
          go_roundw
          case rel => exact ⟨k + 1, _, _, _, _, by omega, rfl, by go_num, HF, HR.out.1, HR.out.2, by have h1 := HNs.out.1; have h2 := HNs.out.2; simp; omega⟩
          case measure => simp [intOf]; omega
        | true =>
          rw [hf2] at HF2
          have HF := Lib.hid (grant_yes HX.out.1 HX.out.2 HG.out HS1.out hf2)
          clear hf2 HG
          refine wp_region_held_drew (S := (fun X => (X.cell? ⟨p, 1, none⟩ = some (.slice AH mh cH')) ∧ (X.cell? ⟨x, 0, none⟩ = some (.int .i64 kx) ∧ X.cell? ⟨x, 1, none⟩ = some (.int .i64 lx) ∧ X.cell? ⟨x, 2, none⟩ = some (.int .i64 hx) ∧ X.cell? ⟨x, 3, none⟩ = some (.int .i8 mx)) ∧ Below W4.heap.size W4 X)) (by kernel_rfl) ?_ (fun hHeld => ?_)
          focus (exact hKeep.out _ (Below.refl _ _).drew)
          refine wpAnyH_take (i := 0) (oi := ⟨some 16, _, _, _, _, _⟩) (v := ?_) rfl (by kernel_rfl) (by kernel_rfl) (by kernel_rfl) (fun _ _ _ h => h) (Or.inl ⟨by rfl, ?_⟩) (by assumption) ?_
          rotate_left
          focus (intro wq hSq; (try dsimp only at hSq); go_simp; try with_reducible rfl)
          try simp only [Act.put, List.setIfInBounds_toArray, List.set_cons_zero, List.set_cons_succ]
          refine wpAnyH_take (i := 1) (oi := ⟨some 17, _, _, _, _, _⟩) (v := ?_) rfl (by kernel_rfl) (by kernel_rfl) (by kernel_rfl) (fun _ _ _ h => h) (Or.inl ⟨by rfl, ?_⟩) (by assumption) ?_
          rotate_left
          focus (intro wq hSq; (try dsimp only at hSq); go_simp; try with_reducible rfl)
          try simp only [Act.put, List.setIfInBounds_toArray, List.set_cons_zero, List.set_cons_succ]
          refine wpAnyH_take (i := 2) (oi := ⟨some 18, _, _, _, _, _⟩) (v := ?_) rfl (by kernel_rfl) (by kernel_rfl) (by kernel_rfl) (fun _ _ _ h => h) (Or.inl ⟨by rfl, ?_⟩) (by assumption) ?_
          rotate_left
          focus (intro wq hSq; (try dsimp only at hSq); go_simp; try with_reducible rfl)
          try simp only [Act.put, List.setIfInBounds_toArray, List.set_cons_zero, List.set_cons_succ]
          refine wpAnyH_take (i := 3) (oi := ⟨some 19, _, _, _, _, _⟩) (v := ?_) rfl (by kernel_rfl) (by kernel_rfl) (by kernel_rfl) (fun _ _ _ h => h) (Or.inl ⟨by rfl, ?_⟩) (by assumption) ?_
          rotate_left
          focus (intro wq hSq; (try dsimp only at hSq); go_simp; try with_reducible rfl)
          try simp only [Act.put, List.setIfInBounds_toArray, List.set_cons_zero, List.set_cons_succ]
          refine wpAnyH_take (i := 4) (oi := ⟨some 20, _, _, _, _, _⟩) (v := ?_) rfl (by kernel_rfl) (by kernel_rfl) (by kernel_rfl) (fun _ _ _ h => h) (Or.inl ⟨by rfl, ?_⟩) (by assumption) ?_
          rotate_left
          focus (intro wq hSq; (try dsimp only at hSq); go_simp; try with_reducible rfl)
          try simp only [Act.put, List.setIfInBounds_toArray, List.set_cons_zero, List.set_cons_succ]
          refine wpAnyH_take (i := 5) (oi := ⟨some 21, _, _, _, _, _⟩) (v := ?_) rfl (by kernel_rfl) (by kernel_rfl) (by kernel_rfl) (fun _ _ _ h => h) (Or.inl ⟨by rfl, ?_⟩) (by assumption) ?_
          rotate_left
          focus (intro wq hSq; (try dsimp only at hSq); go_simp; try with_reducible rfl)
          try simp only [Act.put, List.setIfInBounds_toArray, List.set_cons_zero, List.set_cons_succ]
          refine wpAnyH_take (i := 6) (oi := ⟨some 22, _, _, _, _, _⟩) (v := ?_) rfl (by kernel_rfl) (by kernel_rfl) (by kernel_rfl) (fun _ _ _ h => h) (Or.inl ⟨by rfl, ?_⟩) (by assumption) ?_
          rotate_left
          focus (intro wq hSq; (try dsimp only at hSq); go_simp; try with_reducible rfl)
          try simp only [Act.put, List.setIfInBounds_toArray, List.set_cons_zero, List.set_cons_succ]
          refine wpAnyH_ready (rs := [7]) (by kernel_rfl) (by simp) ?_
          refine AllReadyH.cons (o := ⟨some 23, _, _, _, _, _⟩) rfl (fun K hK => ?_) AllReadyH.nil
          go_simp
          refine (HF1.out _ (hHeld.2.2)).mono ?_
          rintro e w5 ⟨rfl, hx5⟩
          have hb5 := below_then hHeld.2.2 hx5
          refine hK.out _ _ ?_ (fun hHeld => ?_)
          focus (exact hKeep.out _ hb5)
          clear hK K
          try simp only [Act.put, List.setIfInBounds_toArray, List.set_cons_zero, List.set_cons_succ]
          refine wpAnyH_take (i := 8) (oi := ⟨some 24, _, _, _, _, _⟩) (v := ?_) rfl (by kernel_rfl) (by kernel_rfl) (by kernel_rfl) (fun _ _ _ h => h) (Or.inl ⟨by rfl, ?_⟩) (by assumption) ?_
          rotate_left
          focus (intro wq hSq; (try dsimp only at hSq); go_simp; try with_reducible rfl)
          try simp only [Act.put, List.setIfInBounds_toArray, List.set_cons_zero, List.set_cons_succ]
          refine wpAnyH_take (i := 9) (oi := ⟨some 25, _, _, _, _, _⟩) (v := ?_) rfl (by kernel_rfl) (by kernel_rfl) (by kernel_rfl) (fun _ _ _ h => h) (Or.inl ⟨by rfl, ?_⟩) (by assumption) ?_
          rotate_left
          focus (intro wq hSq; (try dsimp only at hSq); go_simp; try with_reducible rfl)
          try simp only [Act.put, List.setIfInBounds_toArray, List.set_cons_zero, List.set_cons_succ]
          refine wpAnyH_take (i := 10) (oi := ⟨some 26, _, _, _, _, _⟩) (v := ?_) rfl (by kernel_rfl) (by kernel_rfl) (by kernel_rfl) (fun _ _ _ h => h) (Or.inl ⟨by rfl, ?_⟩) (by assumption) ?_
          rotate_left
          focus (intro wq hSq; (try dsimp only at hSq); go_simp; try with_reducible rfl)
          try simp only [Act.put, List.setIfInBounds_toArray, List.set_cons_zero, List.set_cons_succ]
          refine wpAnyH_ready (rs := [11]) (by kernel_rfl) (by simp) ?_
          refine AllReadyH.cons (o := ⟨some 27, _, _, _, _, _⟩) rfl (fun K hK => ?_) AllReadyH.nil
          go_simp
          refine (HF2.out _ (hHeld.2.2)).mono ?_
          rintro e w6 ⟨rfl, hx6⟩
          have hb6 := below_then hHeld.2.2 hx6
          refine hK.out _ _ ?_ (fun hHeld => ?_)
          focus (exact hKeep.out _ hb6)
          clear hK K
          try simp only [Act.put, List.setIfInBounds_toArray, List.set_cons_zero, List.set_cons_succ]
          refine wpAnyH_take (i := 12) (oi := ⟨some 28, _, _, _, _, _⟩) (v := ?_) rfl (by kernel_rfl) (by kernel_rfl) (by kernel_rfl) (fun _ _ _ h => h) (Or.inl ⟨by rfl, ?_⟩) (by assumption) ?_
          rotate_left
          focus (intro wq hSq; (try dsimp only at hSq); go_simp; try with_reducible rfl)
          try simp only [Act.put, List.setIfInBounds_toArray, List.set_cons_zero, List.set_cons_succ]
          refine wpAnyH_done (by kernel_rfl) ?_ _
          clear hb5 hx5
          have hG6 := hG4.below hb6
          have hbb := hb4.trans (hb6.mono hG4.size)
          have px6 := px.below hb6 px.lt
          clear px hG4 hb4 hb6 HF1 HF2 hKeep hHeld
          have pw := hG6.blk
          have px := px6
          have HOwn : Hid (w6.ownsRow base 43 4 (.slice AH mh cH') mh (holV hs)) := by have h := hG6.own.h; rw [show (⟨sl, hs, qs⟩ : TabM).ho.length = mh from HNs.out.1] at h; exact h
          have hqx : (Value.slice AH mh cH').ownBlock ≠ some x := fun h => by have := HqH.out x h; omega
          clear px6
          go_upto_region 5 with fail
          have hS2 : Hid (∀ X, Below w6.heap.size w6 X → (X.cell? ⟨p, 1, none⟩ = some (.slice AH mh cH')) ∧ (X.cell? ⟨x, 0, none⟩ = some (.int .i64 kx) ∧ X.cell? ⟨x, 1, none⟩ = some (.int .i64 lx) ∧ X.cell? ⟨x, 2, none⟩ = some (.int .i64 hx) ∧ X.cell? ⟨x, 3, none⟩ = some (.int .i8 mx))) := fun X h => ⟨(pw.below h pw.lt).cell 1 _ rfl, hold_cells (px.below h px.lt)⟩
          obtain ⟨V0, zV0⟩ : ∃ V, V = (w6).drew := ⟨_, rfl⟩
          have up0 : Below (w6).heap.size (w6) V0 := zV0 ▸ (Below.refl _ _).drew
          have hHeld := hS2.out _ up0
          refine wp_region_to (S := (fun X => (X.cell? ⟨p, 1, none⟩ = some (.slice AH mh cH')) ∧ (X.cell? ⟨x, 0, none⟩ = some (.int .i64 kx) ∧ X.cell? ⟨x, 1, none⟩ = some (.int .i64 lx) ∧ X.cell? ⟨x, 2, none⟩ = some (.int .i64 hx) ∧ X.cell? ⟨x, 3, none⟩ = some (.int .i8 mx)))) 14 (by kernel_rfl) (by rw [← zV0]; exact hHeld) (fun _ => ?_)
          rw [← zV0]
          clear zV0
          refine wpAnyM_take (i := 0) (oi := ⟨some 29, _, _, _, _, _⟩) (v := ?_) rfl (by kernel_rfl) (by kernel_rfl) (by kernel_rfl) (fun _ _ _ h => h) (by decide) (by kernel_rfl) (by kernel_rfl) (Or.inl ⟨by rfl, ?_⟩) (fun _ => hHeld) ?_
          rotate_left
          focus (intro wq hSq; (try dsimp only at hSq); go_simp; try with_reducible rfl)
          try simp only [Act.put, List.setIfInBounds_toArray, List.set_cons_zero, List.set_cons_succ]
          refine wpAnyM_take (i := 1) (oi := ⟨some 30, _, _, _, _, _⟩) (v := ?_) rfl (by kernel_rfl) (by kernel_rfl) (by kernel_rfl) (fun _ _ _ h => h) (by decide) (by kernel_rfl) (by kernel_rfl) (Or.inl ⟨by rfl, ?_⟩) (fun _ => hHeld) ?_
          rotate_left
          focus (intro wq hSq; (try dsimp only at hSq); go_simp; try with_reducible rfl)
          try simp only [Act.put, List.setIfInBounds_toArray, List.set_cons_zero, List.set_cons_succ]
          refine wpAnyM_take (i := 2) (oi := ⟨some 31, _, _, _, _, _⟩) (v := ?_) rfl (by kernel_rfl) (by kernel_rfl) (by kernel_rfl) (fun _ _ _ h => h) (by decide) (by kernel_rfl) (by kernel_rfl) (Or.inl ⟨by rfl, ?_⟩) (fun _ => hHeld) ?_
          rotate_left
          focus (intro wq hSq; (try dsimp only at hSq); go_simp; try with_reducible rfl)
          try simp only [Act.put, List.setIfInBounds_toArray, List.set_cons_zero, List.set_cons_succ]
          refine wpAnyM_take (i := 3) (oi := ⟨some 32, _, _, _, _, _⟩) (v := ?_) rfl (by kernel_rfl) (by kernel_rfl) (by kernel_rfl) (fun _ _ _ h => h) (by decide) (by kernel_rfl) (by kernel_rfl) (Or.inl ⟨by rfl, ?_⟩) (fun _ => hHeld) ?_
          rotate_left
          focus (intro wq hSq; (try dsimp only at hSq); go_simp; try with_reducible rfl)
          try simp only [Act.put, List.setIfInBounds_toArray, List.set_cons_zero, List.set_cons_succ]
          refine wpAnyM_take (i := 4) (oi := ⟨some 33, _, _, _, _, _⟩) (v := ?_) rfl (by kernel_rfl) (by kernel_rfl) (by kernel_rfl) (fun _ _ _ h => h) (by decide) (by kernel_rfl) (by kernel_rfl) (Or.inl ⟨by rfl, ?_⟩) (fun _ => hHeld) ?_
          rotate_left
          focus (intro wq hSq; (try dsimp only at hSq); go_simp; try with_reducible rfl)
          try simp only [Act.put, List.setIfInBounds_toArray, List.set_cons_zero, List.set_cons_succ]
          refine wpAnyM_take (i := 5) (oi := ⟨some 34, _, _, _, _, _⟩) (v := ?_) rfl (by kernel_rfl) (by kernel_rfl) (by kernel_rfl) (fun _ _ _ h => h) (by decide) (by kernel_rfl) (by kernel_rfl) (Or.inl ⟨by rfl, ?_⟩) (fun _ => hHeld) ?_
          rotate_left
          focus (intro wq hSq; (try dsimp only at hSq); go_simp; try with_reducible rfl)
          try simp only [Act.put, List.setIfInBounds_toArray, List.set_cons_zero, List.set_cons_succ]
          refine wpAnyM_take (i := 6) (oi := ⟨some 35, _, _, _, _, _⟩) (v := ?_) rfl (by kernel_rfl) (by kernel_rfl) (by kernel_rfl) (fun _ _ _ h => h) (by decide) (by kernel_rfl) (by kernel_rfl) (Or.inl ⟨by rfl, ?_⟩) (fun _ => hHeld) ?_
          rotate_left
          focus (intro wq hSq; (try dsimp only at hSq); go_simp; try with_reducible rfl)
          try simp only [Act.put, List.setIfInBounds_toArray, List.set_cons_zero, List.set_cons_succ]
          refine wpAnyM_take (i := 7) (oi := ⟨some 36, _, _, _, _, _⟩) (v := ?_) rfl (by kernel_rfl) (by kernel_rfl) (by kernel_rfl) (fun _ _ _ h => h) (by decide) (by kernel_rfl) (by kernel_rfl) (Or.inl ⟨by rfl, ?_⟩) (fun _ => hHeld) ?_
          rotate_left
          focus (intro wq hSq; (try dsimp only at hSq); go_simp; try with_reducible rfl)
          try simp only [Act.put, List.setIfInBounds_toArray, List.set_cons_zero, List.set_cons_succ]
          have bV1 := new_alloc V0 (.cells #[.int .i64 kx, .int .i64 lx, .int .i64 hx, .int .i8 mx] 43)
          refine wpAnyM_ready (rs := [8]) (by kernel_rfl) (by simp) ?_
          refine AllReadyM.cons (o := ⟨some 37, _, _, _, _, _⟩) rfl (fun K hK => ?_) AllReadyM.nil
          go_simp
          refine hK.out _ _ (fun _ => hS2.out _ (below_then up0 bV1)) (fun _ => ?_)
          clear hK K
          try simp only [Act.put, List.setIfInBounds_toArray, List.set_cons_zero, List.set_cons_succ]
          have lone := LiesH.just (Blk.new V0 #[.int .i64 kx, .int .i64 lx, .int .i64 hx, .int .i8 mx] 43)
          obtain ⟨V1, zV1⟩ : ∃ V, V = V0.alloc (.cells #[.int .i64 kx, .int .i64 lx, .int .i64 hx, .int .i8 mx] 43) := ⟨_, rfl⟩
          rw [← zV1] at bV1 lone ⊢
          clear zV1
          obtain ⟨pz, ez, _, hcz⟩ := lone.2.2 (by omega)
          injection ez with ez
          subst ez
          have up1 := below_then up0 bV1
          have hOwn1 := ow_up (HOwn.out) up1
          obtain ⟨v5, V2, hrun, hown5, hg5, _, hat⟩ := run_append_own_at (P := Try.prog) V1 base 27 27 43 i0 _ 4 32 Try.underlying27 hi0 hz0 hz1 hz2 rfl (by omega) _ mh _ hOwn1 ⟨V0.heap.size, 0, none⟩ 1 1 (holV [⟨kx, ⟨lx, hx⟩, mx⟩]) rfl hcz (holV_one _) (by unfold maxLen; omega) (by omega) (Nat.le_trans hG6.size up1.size)
          have pw2 := blk_grown (pw.below up1 pw.lt) hg5 (ow_blk hOwn1 (pw.below up1 pw.lt) (by decide))
          have px2 : Blk V2 x #[.int .i64 kx, .int .i64 lx, .int .i64 hx, .int .i8 mx] 43 := blk_grown (px.below up1 px.lt) hg5 hqx
          have hHeld2 : (V2.cell? ⟨p, 1, none⟩ = some (.slice AH mh cH')) ∧ (V2.cell? ⟨x, 0, none⟩ = some (.int .i64 kx) ∧ V2.cell? ⟨x, 1, none⟩ = some (.int .i64 lx) ∧ V2.cell? ⟨x, 2, none⟩ = some (.int .i64 hx) ∧ V2.cell? ⟨x, 3, none⟩ = some (.int .i8 mx)) := ⟨pw2.cell 1 _ rfl, hold_cells px2⟩
          refine wpAnyM_ready (rs := [9]) (by kernel_rfl) (by simp) ?_
          refine AllReadyM.cons (o := ⟨some 38, _, _, _, _, _⟩) rfl (fun K hK => ?_) AllReadyM.nil
          refine step_append rfl (.tmp 35) (.tmp 37) 27 rfl (by simp [Act.eval, Act.put]) (by simp [Act.eval, Act.put]) hrun ?_
          refine hK.out _ _ (fun _ => hHeld2) (fun _ => ?_)
          clear hK K
          try simp only [Act.put, List.setIfInBounds_toArray, List.set_cons_zero, List.set_cons_succ]
          refine wpAnyM_takeA (i := 10) (oi := ⟨some 39, _, _, _, _, _⟩) (v := ?_) rfl (by kernel_rfl) (by kernel_rfl) (by kernel_rfl) (fun _ _ _ h => h) (by decide) (Or.inl ⟨by rfl, ?_⟩) (fun _ => hHeld2) ?_
          rotate_left
          focus (intro wq hSq; go_simp; try with_reducible rfl)
          try simp only [Act.put, List.setIfInBounds_toArray, List.set_cons_zero, List.set_cons_succ]
          refine wpAnyM_takeA (i := 11) (oi := ⟨some 40, _, _, _, _, _⟩) (v := ?_) rfl (by kernel_rfl) (by kernel_rfl) (by kernel_rfl) (fun _ _ _ h => h) (by decide) (Or.inl ⟨by rfl, ?_⟩) (fun _ => hHeld2) ?_
          rotate_left
          focus (intro wq hSq; go_simp; try with_reducible rfl)
          try simp only [Act.put, List.setIfInBounds_toArray, List.set_cons_zero, List.set_cons_succ]
          refine wpAnyM_takeA (i := 12) (oi := ⟨some 41, _, _, _, _, _⟩) (v := ?_) rfl (by kernel_rfl) (by kernel_rfl) (by kernel_rfl) (fun _ _ _ h => h) (by decide) (Or.inl ⟨by rfl, ?_⟩) (fun _ => hHeld2) ?_
          rotate_left
          focus (intro wq hSq; go_simp; try with_reducible rfl)
          try simp only [Act.put, List.setIfInBounds_toArray, List.set_cons_zero, List.set_cons_succ]
          refine wpAnyM_takeA (i := 13) (oi := ⟨some 42, _, _, _, _, _⟩) (v := ?_) rfl (by kernel_rfl) (by kernel_rfl) (by kernel_rfl) (fun _ _ _ h => h) (by decide) (Or.inl ⟨by rfl, ?_⟩) (fun _ => hHeld2) ?_
          rotate_left
          focus (intro wq hSq; go_simp; try with_reducible rfl)
          try simp only [Act.put, List.setIfInBounds_toArray, List.set_cons_zero, List.set_cons_succ]
          obtain ⟨A5, c5, e5, _, _⟩ := ow_shape hown5
          subst e5
          have f1 := pw2.free 1
          have lp2 := pw2.lt
          have cp2 := hHeld2.1
          refine wpAnyM_ready (rs := [14]) (by kernel_rfl) (by simp) ?_
          refine AllReadyM.cons (o := ⟨none, _, _, _, _, _⟩) rfl (fun K hK => ?_) AllReadyM.nil
          go_simp
          refine hK.out _ _ (fun h => not_yetW (by kernel_rfl) h) (fun _ => ?_)
          clear hK K
          try simp only [Act.put, List.setIfInBounds_toArray, List.set_cons_zero, List.set_cons_succ]
          refine wpAnyM_done (by kernel_rfl) ?_ _
          have hG8 := (hG6.below up1).pushH (x := ⟨kx, ⟨lx, hx⟩, mx⟩) (by rw [HNs.out.1]; exact hown5) hg5 (by first | exact hat | exact hat.imp id fun h => h.trans (by simp))
          have hb8 := ((hbb.trans (up1.mono hG6.size)).grown hg5 (Nat.le_trans hG6.size up1.size) (fun j hj => (hOwn1.lt j hj).1)).setCell (p := ⟨p, 1, none⟩) (by show base ≤ p; exact hG6.bp) (.slice A5 (mh + 1) c5)
          have HR : Hid (GrSt N S B P J L E T (V2.setCell ⟨p, 1, none⟩ (.slice A5 (mh + 1) c5)) base p (.slice aS nS cS) (.slice A5 (mh + 1) c5) (.slice AQ mq cQ') (.slice (some ad) nQ cQ) sl (hs ++ [⟨kx, ⟨lx, hx⟩, mx⟩]) qs qu ∧ Below base w (V2.setCell ⟨p, 1, none⟩ (.slice A5 (mh + 1) c5))) := ⟨hG8, hb8⟩
          clear hG8 hb8 hown5 hg5 hat HOwn hcz hG6 hbb px pw pw2 px2 hOwn1 hrun lone hS2 hHeld hHeld2 up0 up1 bV1 f1 lp2 cp2
          go_wp2_with fail
          go_roundw
          case rel => exact ⟨k + 1, _, _, _, _, by omega, rfl, by go_num, HF, HR.out.1, HR.out.2, by have h1 := HNs.out.1; have h2 := HNs.out.2; simp; omega⟩
          case measure => simp [intOf]; omega
    · have HT := Lib.hid (grant_end (t := ⟨sl, ho, qu⟩) HLQ.out hlt HG.out)
      have HR := Lib.hid hG.finish
      have hb8 := Lib.hid (hb.setCell (p := ⟨p, 2, none⟩) (by show base ≤ p; exact hG.bp) (.slice AQ mq cQ'))
      have f2 := hG.blk.free 2
      have hkn : k = nQ := by omega
      clear hlt hG hb HG q0 q1
      go_wp2_with fail
      go_end0
      exact ⟨⟨_, _, rfl, by rw [HT.out]; exact HR.out⟩, hb8.out⟩

end Go.Proofs.Ytjknloaolennoaa

/-
  table: (*working).vacate: by contract.
-/
namespace Go.Proofs.Ytjknloaolennoaa
open Go.RowKit
set_option linter.unusedVariables false
set_option linter.unusedSimpArgs false

theorem notP_keyP_len (key : Int) (l : List HoldM) : (notP (keyP key) l).length ≤ l.length := List.length_filter_le _ _
set_option maxRecDepth 100000 in
set_option maxHeartbeats 4000000 in
theorem tvacate_any (N S B P J L E T : Int) (base p i : Nat) (key : Int) (aS : Option Addr) (nS cS : Nat) (aH : Option Addr) (nH cH : Nat) (aQ : Option Addr) (nQ cQ : Nat) (t : TabM) (w : World) (hW : WorkAt N S B P J L E T w base p (.slice aS nS cS) (.slice aH nH cH) (.slice aQ nQ cQ) t) (hnS : t.sl.length = nS) (hnH : t.ho.length = nH) (hnQ : t.qu.length = nQ) (hn : nH + nQ ≤ 1000000) (hi : i < nS) (hlS : nS ≤ 1000000) :
    Calls Try.prog 46 #[.pointer (some ⟨p, 0, none⟩), .int .i64 i, .int .i64 key] w fun e w' => GrantPost N S B P J L E T base p (.slice aS nS cS) { sl := t.sl.set i ⟨0, 0⟩, ho := without t.ho key, qu := without t.qu key } e w' ∧ Below base w w' := by
  obtain ⟨sl, ho, qu⟩ := t
  obtain ⟨g, rfl, hgb, hnc⟩ := hW.some_ hnS hi
  have hisl : i < sl.length := by rw [show sl.length = nS from hnS]; exact hi
  have h0 := hW.own.s
  rw [show (⟨sl, ho, qu⟩ : TabM).sl.length = nS from hnS] at h0
  have hth : w.there g (i * 2) 2 := ow_there h0 (by omega)
  have HW : Hid (WorkAt N S B P J L E T (w.setCells g (i * 2) [.int .i64 0, .int .i64 0]) base p (.slice (some ⟨g, 0, none⟩) nS cS) (.slice aH nH cH) (.slice aQ nQ cQ) ⟨sl.set i ⟨0, 0⟩, ho, qu⟩) := hW.slot hnS hisl 0 0
  have hb := setCells_below [.int .i64 0, .int .i64 0] (i * 2) (Below.refl base w) hgb
  have HH : Hid (ho.length = nH) := hnH
  have HQ : Hid (qu.length = nQ) := hnQ
  obtain ⟨q0, q1, q2, _⟩ := work_cells hW.blk
  have hlp := hW.blk.lt
  have hlg := (h0.lt g rfl).2
  clear hnH hnQ hW h0 hnS hisl
  go_enter Try.func46, Try.ntmps46
  go_upto_region 1 with (refine wpList_store_mid (op := ⟨none, .store 48 _ _, _, _, _, none⟩) rfl 48 _ _ (by rfl) g (i * 2) #[.int .i64 0, .int .i64 0] (by rfl) (by rfl) hth (by kernel_rfl) (by kernel_rfl) ?_)
  try simp only [Act.put, List.setIfInBounds_toArray, List.set_cons_zero, List.set_cons_succ]
  obtain ⟨w1, hw1⟩ : ∃ W, W = w.setCells g (i * 2) [.int .i64 0, .int .i64 0] := ⟨_, rfl⟩
  first | rw [← hw1] at HW hb ⊢ | (rw [← hw1] at HW hb; simp only [show w.setCells g (i * 2) #[Value.int .i64 0, Value.int .i64 0].toList = w1 from hw1.symm])
  clear hw1 hth q0 q1 q2 hlp hlg
  have lH : LiesH w1 w1.heap.size aH nH ho := ⟨HH.out, by have h := HW.out.own.h; rw [show (⟨sl.set i ⟨0, 0⟩, ho, qu⟩ : TabM).ho.length = nH from HH.out] at h; exact ow_lies h⟩
  have hcH : aH = none → cH = 0 := fun h => by have h1 := HW.out.own.h; subst h; rcases h1.2 with ⟨h2, _⟩ | ⟨_, _, _, h2, _⟩ <;> simp at h2; exact h2.2
  have hS2 : Hid (∀ X, Below w1.heap.size w1 X → X.cell? ⟨p, 1, none⟩ = some (.slice aH nH cH)) := fun X h => (HW.out.blk.below h HW.out.blk.lt).cell 1 _ rfl
  obtain ⟨V0, zV0⟩ : ∃ V, V = (w1).drew := ⟨_, rfl⟩
  have up0 : Below (w1).heap.size (w1) V0 := zV0 ▸ (Below.refl _ _).drew
  have hHeld := hS2.out _ up0
  refine wp_region_to (S := (fun X => X.cell? ⟨p, 1, none⟩ = some (.slice aH nH cH))) 15 (by kernel_rfl) (by rw [← zV0]; exact hHeld) (fun _ => ?_)
  rw [← zV0]
  clear zV0
  refine wpAnyM_take (i := 0) (oi := ⟨some 15, _, _, _, _, _⟩) (v := ?_) rfl (by kernel_rfl) (by kernel_rfl) (by kernel_rfl) (fun _ _ _ h => h) (by decide) (by kernel_rfl) (by kernel_rfl) (Or.inl ⟨by rfl, ?_⟩) (fun _ => hHeld) ?_
  rotate_left
  focus (intro wq hSq; (try dsimp only at hSq); go_simp; try with_reducible rfl)
  try simp only [Act.put, List.setIfInBounds_toArray, List.set_cons_zero, List.set_cons_succ]
  refine wpAnyM_take (i := 1) (oi := ⟨some 16, _, _, _, _, _⟩) (v := ?_) rfl (by kernel_rfl) (by kernel_rfl) (by kernel_rfl) (fun _ _ _ h => h) (by decide) (by kernel_rfl) (by kernel_rfl) (Or.inl ⟨by rfl, ?_⟩) (fun _ => hHeld) ?_
  rotate_left
  focus (intro wq hSq; (try dsimp only at hSq); go_simp; try with_reducible rfl)
  try simp only [Act.put, List.setIfInBounds_toArray, List.set_cons_zero, List.set_cons_succ]
  refine wpAnyM_take (i := 2) (oi := ⟨some 17, _, _, _, _, _⟩) (v := ?_) rfl (by kernel_rfl) (by kernel_rfl) (by kernel_rfl) (fun _ _ _ h => h) (by decide) (by kernel_rfl) (by kernel_rfl) (Or.inl ⟨by rfl, ?_⟩) (fun _ => hHeld) ?_
  rotate_left
  focus (intro wq hSq; (try dsimp only at hSq); go_simp; try with_reducible rfl)
  try simp only [Act.put, List.setIfInBounds_toArray, List.set_cons_zero, List.set_cons_succ]
  refine wpAnyM_take (i := 3) (oi := ⟨some 18, _, _, _, _, _⟩) (v := ?_) rfl (by kernel_rfl) (by kernel_rfl) (by kernel_rfl) (fun _ _ _ h => h) (by decide) (by kernel_rfl) (by kernel_rfl) (Or.inl ⟨by rfl, ?_⟩) (fun _ => hHeld) ?_
  rotate_left
  focus (intro wq hSq; (try dsimp only at hSq); go_simp; try with_reducible rfl)
  try simp only [Act.put, List.setIfInBounds_toArray, List.set_cons_zero, List.set_cons_succ]
  refine wpAnyM_take (i := 4) (oi := ⟨some 19, _, _, _, _, _⟩) (v := ?_) rfl (by kernel_rfl) (by kernel_rfl) (by kernel_rfl) (fun _ _ _ h => h) (by decide) (by kernel_rfl) (by kernel_rfl) (Or.inl ⟨by rfl, ?_⟩) (fun _ => hHeld) ?_
  rotate_left
  focus (intro wq hSq; (try dsimp only at hSq); go_simp; try with_reducible rfl)
  try simp only [Act.put, List.setIfInBounds_toArray, List.set_cons_zero, List.set_cons_succ]
  refine wpAnyM_take (i := 5) (oi := ⟨some 20, _, _, _, _, _⟩) (v := ?_) rfl (by kernel_rfl) (by kernel_rfl) (by kernel_rfl) (fun _ _ _ h => h) (by decide) (by kernel_rfl) (by kernel_rfl) (Or.inl ⟨by rfl, ?_⟩) (fun _ => hHeld) ?_
  rotate_left
  focus (intro wq hSq; (try dsimp only at hSq); go_simp; try with_reducible rfl)
  try simp only [Act.put, List.setIfInBounds_toArray, List.set_cons_zero, List.set_cons_succ]
  refine wpAnyM_take (i := 6) (oi := ⟨some 21, _, _, _, _, _⟩) (v := ?_) rfl (by kernel_rfl) (by kernel_rfl) (by kernel_rfl) (fun _ _ _ h => h) (by decide) (by kernel_rfl) (by kernel_rfl) (Or.inl ⟨by rfl, ?_⟩) (fun _ => hHeld) ?_
  rotate_left
  focus (intro wq hSq; (try dsimp only at hSq); go_simp; try with_reducible rfl)
  try simp only [Act.put, List.setIfInBounds_toArray, List.set_cons_zero, List.set_cons_succ]
  refine wpAnyM_take (i := 7) (oi := ⟨some 22, _, _, _, _, _⟩) (v := ?_) rfl (by kernel_rfl) (by kernel_rfl) (by kernel_rfl) (fun _ _ _ h => h) (by decide) (by kernel_rfl) (by kernel_rfl) (Or.inl ⟨by rfl, ?_⟩) (fun _ => hHeld) ?_
  rotate_left
  focus (intro wq hSq; (try dsimp only at hSq); go_simp; try with_reducible rfl)
  try simp only [Act.put, List.setIfInBounds_toArray, List.set_cons_zero, List.set_cons_succ]
  refine wpAnyM_ready (rs := [8]) (by kernel_rfl) (by simp) ?_
  refine AllReadyM.cons (o := ⟨some 23, _, _, _, _, _⟩) rfl (fun K hK => ?_) AllReadyM.nil
  go_simp
  refine (tof_any key _).mono ?_
  rintro e v1 ⟨rfl, rfl⟩
  have bV1 := new_alloc V0 (.cells #[.int .i64 key] 3)
  refine hK.out _ _ (fun _ => hS2.out _ (below_then up0 bV1)) (fun _ => ?_)
  clear hK K
  try simp only [Act.put, List.setIfInBounds_toArray, List.set_cons_zero, List.set_cons_succ]
  have kV1 := Blk.new V0 #[.int .i64 key] 3
  obtain ⟨V1, zV1⟩ : ∃ V, V = V0.alloc (.cells #[.int .i64 key] 3) := ⟨_, rfl⟩
  rw [← zV1] at bV1 kV1 ⊢
  clear zV1
  have up1 := below_then up0 bV1
  have bV2 := new_alloc V1 (.cells #[.func (.func 63) #[] #[.pointer (some ⟨V0.heap.size, 0, none⟩)]] 78)
  refine wpAnyM_ready (rs := [9]) (by kernel_rfl) (by simp) ?_
  refine AllReadyM.cons (o := ⟨some 24, _, _, _, _, _⟩) rfl (fun K hK => ?_) AllReadyM.nil
  go_simp
  refine hK.out _ _ (fun _ => hS2.out _ (below_then up1 bV2)) (fun _ => ?_)
  clear hK K
  try simp only [Act.put, List.setIfInBounds_toArray, List.set_cons_zero, List.set_cons_succ]
  have qV2 := Blk.new V1 #[.func (.func 63) #[] #[.pointer (some ⟨V0.heap.size, 0, none⟩)]] 78
  obtain ⟨V2, zV2⟩ : ∃ V, V = V1.alloc (.cells #[.func (.func 63) #[] #[.pointer (some ⟨V0.heap.size, 0, none⟩)]] 78) := ⟨_, rfl⟩
  rw [← zV2] at bV2 qV2 ⊢
  clear zV2
  have up2 := below_then up1 bV2
  have hM : MeetsC V2 (.slice (some ⟨V1.heap.size, 0, none⟩) 1 1) (keyP key) := meets1_any V1.heap.size V0.heap.size key V2 qV2 (kV1.below bV2 kV1.lt)
  have hcw := twithout_any aH nH cH ho (some ⟨V1.heap.size, 0, none⟩) 1 1 (keyP key) V2 ((lH).below up2) (by omega) hcH hM
  clear qV2 kV1 hM
  refine wpAnyM_ready (rs := [10]) (by kernel_rfl) (by simp) ?_
  refine AllReadyM.cons (o := ⟨some 25, _, _, _, _, _⟩) rfl (fun K hK => ?_) AllReadyM.nil
  go_simp
  refine hcw.mono ?_
  rintro e V3 ⟨A3, c3, rfl, hO3, bV3⟩
  have up3 := below_then up2 bV3
  have hHeld3 := hS2.out _ up3
  refine hK.out _ _ (fun _ => hHeld3) (fun _ => ?_)
  clear hK K
  try simp only [Act.put, List.setIfInBounds_toArray, List.set_cons_zero, List.set_cons_succ]
  refine wpAnyM_takeA (i := 11) (oi := ⟨some 26, _, _, _, _, _⟩) (v := ?_) rfl (by kernel_rfl) (by kernel_rfl) (by kernel_rfl) (fun _ _ _ h => h) (by decide) (Or.inl ⟨by rfl, ?_⟩) (fun _ => hHeld3) ?_
  rotate_left
  focus (intro wq hSq; go_simp; try with_reducible rfl)
  try simp only [Act.put, List.setIfInBounds_toArray, List.set_cons_zero, List.set_cons_succ]
  refine wpAnyM_takeA (i := 12) (oi := ⟨some 27, _, _, _, _, _⟩) (v := ?_) rfl (by kernel_rfl) (by kernel_rfl) (by kernel_rfl) (fun _ _ _ h => h) (by decide) (Or.inl ⟨by rfl, ?_⟩) (fun _ => hHeld3) ?_
  rotate_left
  focus (intro wq hSq; go_simp; try with_reducible rfl)
  try simp only [Act.put, List.setIfInBounds_toArray, List.set_cons_zero, List.set_cons_succ]
  refine wpAnyM_takeA (i := 13) (oi := ⟨some 28, _, _, _, _, _⟩) (v := ?_) rfl (by kernel_rfl) (by kernel_rfl) (by kernel_rfl) (fun _ _ _ h => h) (by decide) (Or.inl ⟨by rfl, ?_⟩) (fun _ => hHeld3) ?_
  rotate_left
  focus (intro wq hSq; go_simp; try with_reducible rfl)
  try simp only [Act.put, List.setIfInBounds_toArray, List.set_cons_zero, List.set_cons_succ]
  refine wpAnyM_takeA (i := 14) (oi := ⟨some 29, _, _, _, _, _⟩) (v := ?_) rfl (by kernel_rfl) (by kernel_rfl) (by kernel_rfl) (fun _ _ _ h => h) (by decide) (Or.inl ⟨by rfl, ?_⟩) (fun _ => hHeld3) ?_
  rotate_left
  focus (intro wq hSq; go_simp; try with_reducible rfl)
  try simp only [Act.put, List.setIfInBounds_toArray, List.set_cons_zero, List.set_cons_succ]
  have pw3 := HW.out.blk.below up3 HW.out.blk.lt
  have f1 := pw3.free 1
  have lp3 := pw3.lt
  refine wpAnyM_ready (rs := [15]) (by kernel_rfl) (by simp) ?_
  refine AllReadyM.cons (o := ⟨none, _, _, _, _, _⟩) rfl (fun K hK => ?_) AllReadyM.nil
  go_simp
  refine hK.out _ _ (fun h => not_yetW (by kernel_rfl) h) (fun _ => ?_)
  clear hK K
  try simp only [Act.put, List.setIfInBounds_toArray, List.set_cons_zero, List.set_cons_succ]
  refine wpAnyM_done (by kernel_rfl) ?_ _
  have HW2 := Lib.hid (HW.out.newH up3 (ow_less hO3 up2.size))
  have hb2 := (hb.trans (up3.mono HW.out.size)).setCell (p := ⟨p, 1, none⟩) (by show base ≤ p; exact HW.out.bp) (.slice A3 (notP (keyP key) ho).length c3)
  clear hS2 hHeld hcw hO3 bV3 up0 up1 up2 up3 bV1 bV2 hHeld3 pw3 f1 lp3
  clear HW hb lH hcH
  have HW := HW2
  have hb := hb2
  clear HW2 hb2
  obtain ⟨w2, hw2⟩ : ∃ W, W = V3.setCell ⟨p, 1, none⟩ (.slice A3 (notP (keyP key) ho).length c3) := ⟨_, rfl⟩
  have hmH : (notP (keyP key) ho).length ≤ nH := HH.out ▸ notP_keyP_len key ho
  obtain ⟨mH, hmH2⟩ : ∃ m, (notP (keyP key) ho).length = m := ⟨_, rfl⟩
  have HMH := Lib.hid hmH2
  go_upto_region 2 with fail
  first | rw [← hw2] at HW hb ⊢ | skip
  rw [hmH2] at HW hmH
  clear hw2 hmH2
  have lQ : LiesH w2 w2.heap.size aQ nQ qu := ⟨HQ.out, by have h := HW.out.own.q; rw [show (⟨sl.set i ⟨0, 0⟩, notP (keyP key) ho, qu⟩ : TabM).qu.length = nQ from HQ.out] at h; exact ow_lies h⟩
  have hcQ : aQ = none → cQ = 0 := fun h => by have h1 := HW.out.own.q; subst h; rcases h1.2 with ⟨h2, _⟩ | ⟨_, _, _, h2, _⟩ <;> simp at h2; exact h2.2
  have hS2 : Hid (∀ X, Below w2.heap.size w2 X → X.cell? ⟨p, 2, none⟩ = some (.slice aQ nQ cQ)) := fun X h => (HW.out.blk.below h HW.out.blk.lt).cell 2 _ rfl
  obtain ⟨V0, zV0⟩ : ∃ V, V = (w2).drew := ⟨_, rfl⟩
  have up0 : Below (w2).heap.size (w2) V0 := zV0 ▸ (Below.refl _ _).drew
  have hHeld := hS2.out _ up0
  refine wp_region_to (S := (fun X => X.cell? ⟨p, 2, none⟩ = some (.slice aQ nQ cQ))) 15 (by kernel_rfl) (by rw [← zV0]; exact hHeld) (fun _ => ?_)
  rw [← zV0]
  clear zV0
  refine wpAnyM_take (i := 0) (oi := ⟨some 30, _, _, _, _, _⟩) (v := ?_) rfl (by kernel_rfl) (by kernel_rfl) (by kernel_rfl) (fun _ _ _ h => h) (by decide) (by kernel_rfl) (by kernel_rfl) (Or.inl ⟨by rfl, ?_⟩) (fun _ => hHeld) ?_
  rotate_left
  focus (intro wq hSq; (try dsimp only at hSq); go_simp; try with_reducible rfl)
  try simp only [Act.put, List.setIfInBounds_toArray, List.set_cons_zero, List.set_cons_succ]
  refine wpAnyM_take (i := 1) (oi := ⟨some 31, _, _, _, _, _⟩) (v := ?_) rfl (by kernel_rfl) (by kernel_rfl) (by kernel_rfl) (fun _ _ _ h => h) (by decide) (by kernel_rfl) (by kernel_rfl) (Or.inl ⟨by rfl, ?_⟩) (fun _ => hHeld) ?_
  rotate_left
  focus (intro wq hSq; (try dsimp only at hSq); go_simp; try with_reducible rfl)
  try simp only [Act.put, List.setIfInBounds_toArray, List.set_cons_zero, List.set_cons_succ]
  refine wpAnyM_take (i := 2) (oi := ⟨some 32, _, _, _, _, _⟩) (v := ?_) rfl (by kernel_rfl) (by kernel_rfl) (by kernel_rfl) (fun _ _ _ h => h) (by decide) (by kernel_rfl) (by kernel_rfl) (Or.inl ⟨by rfl, ?_⟩) (fun _ => hHeld) ?_
  rotate_left
  focus (intro wq hSq; (try dsimp only at hSq); go_simp; try with_reducible rfl)
  try simp only [Act.put, List.setIfInBounds_toArray, List.set_cons_zero, List.set_cons_succ]
  refine wpAnyM_take (i := 3) (oi := ⟨some 33, _, _, _, _, _⟩) (v := ?_) rfl (by kernel_rfl) (by kernel_rfl) (by kernel_rfl) (fun _ _ _ h => h) (by decide) (by kernel_rfl) (by kernel_rfl) (Or.inl ⟨by rfl, ?_⟩) (fun _ => hHeld) ?_
  rotate_left
  focus (intro wq hSq; (try dsimp only at hSq); go_simp; try with_reducible rfl)
  try simp only [Act.put, List.setIfInBounds_toArray, List.set_cons_zero, List.set_cons_succ]
  refine wpAnyM_take (i := 4) (oi := ⟨some 34, _, _, _, _, _⟩) (v := ?_) rfl (by kernel_rfl) (by kernel_rfl) (by kernel_rfl) (fun _ _ _ h => h) (by decide) (by kernel_rfl) (by kernel_rfl) (Or.inl ⟨by rfl, ?_⟩) (fun _ => hHeld) ?_
  rotate_left
  focus (intro wq hSq; (try dsimp only at hSq); go_simp; try with_reducible rfl)
  try simp only [Act.put, List.setIfInBounds_toArray, List.set_cons_zero, List.set_cons_succ]
  refine wpAnyM_take (i := 5) (oi := ⟨some 35, _, _, _, _, _⟩) (v := ?_) rfl (by kernel_rfl) (by kernel_rfl) (by kernel_rfl) (fun _ _ _ h => h) (by decide) (by kernel_rfl) (by kernel_rfl) (Or.inl ⟨by rfl, ?_⟩) (fun _ => hHeld) ?_
  rotate_left
  focus (intro wq hSq; (try dsimp only at hSq); go_simp; try with_reducible rfl)
  try simp only [Act.put, List.setIfInBounds_toArray, List.set_cons_zero, List.set_cons_succ]
  refine wpAnyM_take (i := 6) (oi := ⟨some 36, _, _, _, _, _⟩) (v := ?_) rfl (by kernel_rfl) (by kernel_rfl) (by kernel_rfl) (fun _ _ _ h => h) (by decide) (by kernel_rfl) (by kernel_rfl) (Or.inl ⟨by rfl, ?_⟩) (fun _ => hHeld) ?_
  rotate_left
  focus (intro wq hSq; (try dsimp only at hSq); go_simp; try with_reducible rfl)
  try simp only [Act.put, List.setIfInBounds_toArray, List.set_cons_zero, List.set_cons_succ]
  refine wpAnyM_take (i := 7) (oi := ⟨some 37, _, _, _, _, _⟩) (v := ?_) rfl (by kernel_rfl) (by kernel_rfl) (by kernel_rfl) (fun _ _ _ h => h) (by decide) (by kernel_rfl) (by kernel_rfl) (Or.inl ⟨by rfl, ?_⟩) (fun _ => hHeld) ?_
  rotate_left
  focus (intro wq hSq; (try dsimp only at hSq); go_simp; try with_reducible rfl)
  try simp only [Act.put, List.setIfInBounds_toArray, List.set_cons_zero, List.set_cons_succ]
  refine wpAnyM_ready (rs := [8]) (by kernel_rfl) (by simp) ?_
  refine AllReadyM.cons (o := ⟨some 38, _, _, _, _, _⟩) rfl (fun K hK => ?_) AllReadyM.nil
  go_simp
  refine (tof_any key _).mono ?_
  rintro e v1 ⟨rfl, rfl⟩
  have bV1 := new_alloc V0 (.cells #[.int .i64 key] 3)
  refine hK.out _ _ (fun _ => hS2.out _ (below_then up0 bV1)) (fun _ => ?_)
  clear hK K
  try simp only [Act.put, List.setIfInBounds_toArray, List.set_cons_zero, List.set_cons_succ]
  have kV1 := Blk.new V0 #[.int .i64 key] 3
  obtain ⟨V1, zV1⟩ : ∃ V, V = V0.alloc (.cells #[.int .i64 key] 3) := ⟨_, rfl⟩
  rw [← zV1] at bV1 kV1 ⊢
  clear zV1
  have up1 := below_then up0 bV1
  have bV2 := new_alloc V1 (.cells #[.func (.func 63) #[] #[.pointer (some ⟨V0.heap.size, 0, none⟩)]] 78)
  refine wpAnyM_ready (rs := [9]) (by kernel_rfl) (by simp) ?_
  refine AllReadyM.cons (o := ⟨some 39, _, _, _, _, _⟩) rfl (fun K hK => ?_) AllReadyM.nil
  go_simp
  refine hK.out _ _ (fun _ => hS2.out _ (below_then up1 bV2)) (fun _ => ?_)
  clear hK K
  try simp only [Act.put, List.setIfInBounds_toArray, List.set_cons_zero, List.set_cons_succ]
  have qV2 := Blk.new V1 #[.func (.func 63) #[] #[.pointer (some ⟨V0.heap.size, 0, none⟩)]] 78
  obtain ⟨V2, zV2⟩ : ∃ V, V = V1.alloc (.cells #[.func (.func 63) #[] #[.pointer (some ⟨V0.heap.size, 0, none⟩)]] 78) := ⟨_, rfl⟩
  rw [← zV2] at bV2 qV2 ⊢
  clear zV2
  have up2 := below_then up1 bV2
  have hM : MeetsC V2 (.slice (some ⟨V1.heap.size, 0, none⟩) 1 1) (keyP key) := meets1_any V1.heap.size V0.heap.size key V2 qV2 (kV1.below bV2 kV1.lt)
  have hcw := twithout_any aQ nQ cQ qu (some ⟨V1.heap.size, 0, none⟩) 1 1 (keyP key) V2 ((lQ).below up2) (by omega) hcQ hM
  clear qV2 kV1 hM
  refine wpAnyM_ready (rs := [10]) (by kernel_rfl) (by simp) ?_
  refine AllReadyM.cons (o := ⟨some 40, _, _, _, _, _⟩) rfl (fun K hK => ?_) AllReadyM.nil
  go_simp
  refine hcw.mono ?_
  rintro e V3 ⟨A3, c3, rfl, hO3, bV3⟩
  have up3 := below_then up2 bV3
  have hHeld3 := hS2.out _ up3
  refine hK.out _ _ (fun _ => hHeld3) (fun _ => ?_)
  clear hK K
  try simp only [Act.put, List.setIfInBounds_toArray, List.set_cons_zero, List.set_cons_succ]
  refine wpAnyM_takeA (i := 11) (oi := ⟨some 41, _, _, _, _, _⟩) (v := ?_) rfl (by kernel_rfl) (by kernel_rfl) (by kernel_rfl) (fun _ _ _ h => h) (by decide) (Or.inl ⟨by rfl, ?_⟩) (fun _ => hHeld3) ?_
  rotate_left
  focus (intro wq hSq; go_simp; try with_reducible rfl)
  try simp only [Act.put, List.setIfInBounds_toArray, List.set_cons_zero, List.set_cons_succ]
  refine wpAnyM_takeA (i := 12) (oi := ⟨some 42, _, _, _, _, _⟩) (v := ?_) rfl (by kernel_rfl) (by kernel_rfl) (by kernel_rfl) (fun _ _ _ h => h) (by decide) (Or.inl ⟨by rfl, ?_⟩) (fun _ => hHeld3) ?_
  rotate_left
  focus (intro wq hSq; go_simp; try with_reducible rfl)
  try simp only [Act.put, List.setIfInBounds_toArray, List.set_cons_zero, List.set_cons_succ]
  refine wpAnyM_takeA (i := 13) (oi := ⟨some 43, _, _, _, _, _⟩) (v := ?_) rfl (by kernel_rfl) (by kernel_rfl) (by kernel_rfl) (fun _ _ _ h => h) (by decide) (Or.inl ⟨by rfl, ?_⟩) (fun _ => hHeld3) ?_
  rotate_left
  focus (intro wq hSq; go_simp; try with_reducible rfl)
  try simp only [Act.put, List.setIfInBounds_toArray, List.set_cons_zero, List.set_cons_succ]
  refine wpAnyM_takeA (i := 14) (oi := ⟨some 44, _, _, _, _, _⟩) (v := ?_) rfl (by kernel_rfl) (by kernel_rfl) (by kernel_rfl) (fun _ _ _ h => h) (by decide) (Or.inl ⟨by rfl, ?_⟩) (fun _ => hHeld3) ?_
  rotate_left
  focus (intro wq hSq; go_simp; try with_reducible rfl)
  try simp only [Act.put, List.setIfInBounds_toArray, List.set_cons_zero, List.set_cons_succ]
  have pw3 := HW.out.blk.below up3 HW.out.blk.lt
  have f2 := pw3.free 2
  have lp3 := pw3.lt
  refine wpAnyM_ready (rs := [15]) (by kernel_rfl) (by simp) ?_
  refine AllReadyM.cons (o := ⟨none, _, _, _, _, _⟩) rfl (fun K hK => ?_) AllReadyM.nil
  go_simp
  refine hK.out _ _ (fun h => not_yetW (by kernel_rfl) h) (fun _ => ?_)
  clear hK K
  try simp only [Act.put, List.setIfInBounds_toArray, List.set_cons_zero, List.set_cons_succ]
  refine wpAnyM_done (by kernel_rfl) ?_ _
  have HW2 := Lib.hid (HW.out.newQ up3 (ow_less hO3 up2.size))
  have hb2 := (hb.trans (up3.mono HW.out.size)).setCell (p := ⟨p, 2, none⟩) (by show base ≤ p; exact HW.out.bp) (.slice A3 (notP (keyP key) qu).length c3)
  clear hS2 hHeld hcw hO3 bV3 up0 up1 up2 up3 bV1 bV2 hHeld3 pw3 f2 lp3
  clear HW hb lQ hcQ
  have HW := HW2
  have hb := hb2
  clear HW2 hb2
  obtain ⟨w3, hw3⟩ : ∃ W, W = V3.setCell ⟨p, 2, none⟩ (.slice A3 (notP (keyP key) qu).length c3) := ⟨_, rfl⟩
  have hmQ : (notP (keyP key) qu).length ≤ nQ := HQ.out ▸ notP_keyP_len key qu
  rw [← hw3] at HW hb ⊢
  have hgr := Lib.hid (tgrant_any N S B P J L E T base p _ _ _ _ _ _ _ _ _ _ w3 HW.out HMH.out rfl (by show mH + (notP (keyP key) qu).length ≤ 1000000; omega))
  clear hw3
  go_wp2_with fail
  refine hgr.out.mono ?_
  rintro e w4 ⟨⟨vH4, vQ4, rfl, hW4⟩, hb4⟩
  have hbb := hb.trans hb4
  clear hgr HW hb hb4
  have HW4 := Lib.hid hW4
  clear hW4
  go_wp2_with fail
  go_end0
  exact ⟨⟨_, _, rfl, HW4.out⟩, hbb⟩

end Go.Proofs.Ytjknloaolennoaa

/-
  table: (*working).leave, .purge: by contract.
-/
namespace Go.Proofs.Ytjknloaolennoaa
open Go.RowKit
set_option linter.unusedVariables false
set_option linter.unusedSimpArgs false
def ActsPost (N S B P J L E T : Int) (base p : Nat) (t : TabM) (e : Ending) (w' : World) : Prop := ∃ vS vH vQ, e = .returned (.tuple #[]) ∧ WorkAt N S B P J L E T w' base p vS vH vQ t
theorem cmd_cells8 {w : World} {b : Nat} {ck cb cs cd ca cl ch cm : Int} {T : TypeId} (h : Blk w b #[.int .i8 ck, .int .i64 cb, .int .i64 cs, .int .i64 cd, .int .i64 ca, .int .i64 cl, .int .i64 ch, .int .i8 cm] T) : w.cell? ⟨b, 0, none⟩ = some (.int .i8 ck) ∧ w.cell? ⟨b, 1, none⟩ = some (.int .i64 cb) ∧ w.cell? ⟨b, 2, none⟩ = some (.int .i64 cs) ∧ w.cell? ⟨b, 3, none⟩ = some (.int .i64 cd) ∧ w.cell? ⟨b, 4, none⟩ = some (.int .i64 ca) ∧ w.cell? ⟨b, 5, none⟩ = some (.int .i64 cl) ∧ w.cell? ⟨b, 6, none⟩ = some (.int .i64 ch) ∧ w.cell? ⟨b, 7, none⟩ = some (.int .i8 cm) :=
  ⟨h.cell 0 _ rfl, h.cell 1 _ rfl, h.cell 2 _ rfl, h.cell 3 _ rfl, h.cell 4 _ rfl, h.cell 5 _ rfl, h.cell 6 _ rfl, h.cell 7 _ rfl⟩
/-- A slot, as it is found. -/
theorem slotO_some {t : TabM} {key r1 : Int} {r2 : Bool} (h : slotO t.sl key = (r1, r2)) (h2 : r2 = true) : ∃ i : Nat, r1 = (i : Int) ∧ slotI t key = some i := by
  unfold slotO at h
  unfold slotI
  cases hf : (if 1 ≤ key then t.sl.findIdx? fun x => x.key == key else none) with
  | none => rw [hf] at h; simp at h; rw [h.2] at h2; cases h2
  | some i => rw [hf] at h; simp at h; exact ⟨i, h.1.symm, rfl⟩
theorem slotO_none {t : TabM} {key r1 : Int} (h : slotO t.sl key = (r1, false)) : slotI t key = none := by
  unfold slotO at h
  unfold slotI
  cases hf : (if 1 ≤ key then t.sl.findIdx? fun x => x.key == key else none) with
  | none => rfl
  | some i => rw [hf] at h; simp at h
theorem leave_eq {t : TabM} {key : Int} {i : Nat} (h : slotI t key = some i) : leaveT t i = grantT { sl := t.sl.set i ⟨0, 0⟩, ho := without t.ho key, qu := without t.qu key } := by
  obtain ⟨_, hi, hk⟩ := slot_some h
  unfold leaveT
  rw [getD_slot hi, hk]
/-- What each kind makes of a table. -/
def leaveO (t : TabM) (key : Int) : TabM := match slotI t key with | some i => leaveT t i | none => t
def purgeO (t : TabM) (by_ dead : Int) : TabM := match slotI t dead with | some i => (if by_ ≠ 0 ∧ (t.sl.getD i default).claim = by_ then leaveT t i else t) | none => t
def claimO (t : TabM) (by_ dead was : Int) : TabM := match slotI t dead with | some i => (if (t.sl.getD i default).claim = was ∧ by_ ≠ dead then { t with sl := t.sl.set i ⟨(t.sl.getD i default).key, by_⟩ } else t) | none => t
def mountO (t : TabM) (by_ : Int) : TabM := if (slotI t by_).isSome then t else match t.sl.findIdx? fun x => x.key == 0 with | some i => { t with sl := t.sl.set i ⟨by_, (t.sl.getD i default).claim⟩ } | none => t

set_option maxRecDepth 100000 in
set_option maxHeartbeats 4000000 in
theorem tleave_any (N S B P J L E T : Int) (base p : Nat) (aS : Option Addr) (nS cS : Nat) (aH : Option Addr) (nH cH : Nat) (aQ : Option Addr) (nQ cQ : Nat) (t : TabM) (ck cb cs cd ca cl ch cm : Int) (w : World) (hW : WorkAt N S B P J L E T w base p (.slice aS nS cS) (.slice aH nH cH) (.slice aQ nQ cQ) t) (hnS : t.sl.length = nS) (hnH : t.ho.length = nH) (hnQ : t.qu.length = nQ) (hn : nH + nQ ≤ 1000000) (hlS : nS ≤ 1000000) :
    Calls Try.prog 31 #[.pointer (some ⟨p, 0, none⟩), .agg #[.int .i8 ck, .int .i64 cb, .int .i64 cs, .int .i64 cd, .int .i64 ca, .int .i64 cl, .int .i64 ch, .int .i8 cm]] w fun e w' => ActsPost N S B P J L E T base p (leaveO t cb) e w' ∧ Below base w w' := by
  obtain ⟨W0, hW0⟩ : ∃ W, W = w.alloc (.cells #[.int .i8 ck, .int .i64 cb, .int .i64 cs, .int .i64 cd, .int .i64 ca, .int .i64 cl, .int .i64 ch, .int .i8 cm] 36) := ⟨_, rfl⟩
  have b0 : Below w.heap.size w W0 := hW0 ▸ new_alloc w _
  have pc : Blk W0 w.heap.size #[.int .i8 ck, .int .i64 cb, .int .i64 cs, .int .i64 cd, .int .i64 ca, .int .i64 cl, .int .i64 ch, .int .i8 cm] 36 := hW0 ▸ Blk.new w _ _
  have HW := Lib.hid (hW.below b0)
  have hb := b0.mono hW.size
  have hlS2 : nS ≤ maxLen := by unfold maxLen; omega
  have lS : LiesS W0 W0.heap.size aS nS t.sl := ⟨hnS, by have h := HW.out.own.s; rw [hnS] at h; exact ow_lies h⟩
  obtain ⟨b, hbw⟩ : ∃ b, w.heap.size = b := ⟨_, rfl⟩
  clear hW
  obtain ⟨⟨r1, r2⟩, hr⟩ : ∃ r : Int × Bool, slotO t.sl cb = r := ⟨_, rfl⟩
  have HR := Lib.hid hr
  rw [hbw] at pc
  have hS : Hid (∀ X, Below W0.heap.size W0 X → (X.cell? ⟨p, 0, none⟩ = some (.slice aS nS cS) ∧ X.cell? ⟨p, 1, none⟩ = some (.slice aH nH cH) ∧ X.cell? ⟨p, 2, none⟩ = some (.slice aQ nQ cQ)) ∧ (X.cell? ⟨b, 0, none⟩ = some (.int .i8 ck) ∧ X.cell? ⟨b, 1, none⟩ = some (.int .i64 cb) ∧ X.cell? ⟨b, 2, none⟩ = some (.int .i64 cs) ∧ X.cell? ⟨b, 3, none⟩ = some (.int .i64 cd) ∧ X.cell? ⟨b, 4, none⟩ = some (.int .i64 ca) ∧ X.cell? ⟨b, 5, none⟩ = some (.int .i64 cl) ∧ X.cell? ⟨b, 6, none⟩ = some (.int .i64 ch) ∧ X.cell? ⟨b, 7, none⟩ = some (.int .i8 cm)) ∧ Below W0.heap.size W0 X) := fun X h => ⟨⟨(HW.out.blk.below h HW.out.blk.lt).cell 0 _ rfl, (HW.out.blk.below h HW.out.blk.lt).cell 1 _ rfl, (HW.out.blk.below h HW.out.blk.lt).cell 2 _ rfl⟩, cmd_cells8 (pc.below h pc.lt), h⟩
  have hSlot : ∀ X, (X.cell? ⟨p, 0, none⟩ = some (.slice aS nS cS) ∧ X.cell? ⟨p, 1, none⟩ = some (.slice aH nH cH) ∧ X.cell? ⟨p, 2, none⟩ = some (.slice aQ nQ cQ)) ∧ (X.cell? ⟨b, 0, none⟩ = some (.int .i8 ck) ∧ X.cell? ⟨b, 1, none⟩ = some (.int .i64 cb) ∧ X.cell? ⟨b, 2, none⟩ = some (.int .i64 cs) ∧ X.cell? ⟨b, 3, none⟩ = some (.int .i64 cd) ∧ X.cell? ⟨b, 4, none⟩ = some (.int .i64 ca) ∧ X.cell? ⟨b, 5, none⟩ = some (.int .i64 cl) ∧ X.cell? ⟨b, 6, none⟩ = some (.int .i64 ch) ∧ X.cell? ⟨b, 7, none⟩ = some (.int .i8 cm)) ∧ Below W0.heap.size W0 X → Calls Try.prog 45 #[.agg #[.slice aS nS cS, .slice aH nH cH, .slice aQ nQ cQ], .int .i64 cb] X fun e X' => e = .returned (.tuple #[.int .i64 r1, .bool r2]) ∧ (X'.cell? ⟨p, 0, none⟩ = some (.slice aS nS cS) ∧ X'.cell? ⟨p, 1, none⟩ = some (.slice aH nH cH) ∧ X'.cell? ⟨p, 2, none⟩ = some (.slice aQ nQ cQ)) ∧ (X'.cell? ⟨b, 0, none⟩ = some (.int .i8 ck) ∧ X'.cell? ⟨b, 1, none⟩ = some (.int .i64 cb) ∧ X'.cell? ⟨b, 2, none⟩ = some (.int .i64 cs) ∧ X'.cell? ⟨b, 3, none⟩ = some (.int .i64 cd) ∧ X'.cell? ⟨b, 4, none⟩ = some (.int .i64 ca) ∧ X'.cell? ⟨b, 5, none⟩ = some (.int .i64 cl) ∧ X'.cell? ⟨b, 6, none⟩ = some (.int .i64 ch) ∧ X'.cell? ⟨b, 7, none⟩ = some (.int .i8 cm)) ∧ Below W0.heap.size W0 X' := fun X h => (tslot_any aS nS cS t.sl _ _ cb X (lS.below h.2.2) hlS2).mono (by rintro e w' ⟨rfl, hx⟩; exact ⟨by rw [hr] <;> rfl, hS.out _ (below_then h.2.2 hx)⟩)
  have hD := hS.out _ (Below.refl W0.heap.size W0).drew
  go_enter Try.func31, Try.ntmps31
  go_upto_region 1 with fail
  rw [← hW0]
  clear hr hW0 b0 hbw
  go_region_held3 (fun X => (X.cell? ⟨p, 0, none⟩ = some (.slice aS nS cS) ∧ X.cell? ⟨p, 1, none⟩ = some (.slice aH nH cH) ∧ X.cell? ⟨p, 2, none⟩ = some (.slice aQ nQ cQ)) ∧ (X.cell? ⟨b, 0, none⟩ = some (.int .i8 ck) ∧ X.cell? ⟨b, 1, none⟩ = some (.int .i64 cb) ∧ X.cell? ⟨b, 2, none⟩ = some (.int .i64 cs) ∧ X.cell? ⟨b, 3, none⟩ = some (.int .i64 cd) ∧ X.cell? ⟨b, 4, none⟩ = some (.int .i64 ca) ∧ X.cell? ⟨b, 5, none⟩ = some (.int .i64 cl) ∧ X.cell? ⟨b, 6, none⟩ = some (.int .i64 ch) ∧ X.cell? ⟨b, 7, none⟩ = some (.int .i8 cm)) ∧ Below W0.heap.size W0 X) (first | assumption)
    (first
      | (go_at_call 45; (with_reducible refine (hSlot _ ?_).mono ?_); assumption; rintro e W1 ⟨rfl, hN⟩))
  clear hSlot hD
  obtain ⟨⟨o0, o1, o2⟩, ⟨d0, d1, d2, d3, d4, d5, d6, d7⟩, hb1⟩ := hN
  cases r2
  · have HO := Lib.hid (show leaveO t cb = t by unfold leaveO; rw [slotO_none HR.out])
    have HW4 := Lib.hid (HW.out.below hb1)
    have hbb := hb.trans (hb1.mono HW.out.size)
    clear HW o0 o1 o2 d0 d1 d2 d3 d4 d5 d6 d7 hb1 hb
    go_wp2_with fail
    go_end0
    exact ⟨⟨_, _, _, rfl, by rw [HO.out]; exact HW4.out⟩, hbb⟩
  · obtain ⟨i, rfl, hI⟩ := slotO_some HR.out rfl
    obtain ⟨_, hil, hik⟩ := slot_some hI
    have hin : i < nS := by rw [← hnS]; exact hil
    have HV := Lib.hid (tvacate_any N S B P J L E T base p i cb aS nS cS aH nH cH aQ nQ cQ t W1 (HW.out.below hb1) hnS hnH hnQ hn hin hlS)
    clear HR
    go_wp2_with fail
    refine HV.out.mono ?_
    rintro e w4 ⟨⟨vH4, vQ4, rfl, hW4⟩, hb4⟩
    rw [← leave_eq hI] at hW4
    have HW4 := Lib.hid hW4
    have hbb := (hb.trans (hb1.mono HW.out.size)).trans hb4
    have HO := Lib.hid (show leaveO t cb = leaveT t i by unfold leaveO; rw [hI])
    clear hW4 HV HW o0 o1 o2 d0 d1 d2 d3 d4 d5 d6 d7 hb1 hb4 hb
    go_wp2_with fail
    go_end0
    exact ⟨⟨_, _, _, rfl, by rw [HO.out]; exact HW4.out⟩, hbb⟩

set_option maxRecDepth 100000 in
set_option maxHeartbeats 4000000 in
theorem tpurge_any (N S B P J L E T : Int) (base p : Nat) (aS : Option Addr) (nS cS : Nat) (aH : Option Addr) (nH cH : Nat) (aQ : Option Addr) (nQ cQ : Nat) (t : TabM) (ck cb cs cd ca cl ch cm : Int) (w : World) (hW : WorkAt N S B P J L E T w base p (.slice aS nS cS) (.slice aH nH cH) (.slice aQ nQ cQ) t) (hnS : t.sl.length = nS) (hnH : t.ho.length = nH) (hnQ : t.qu.length = nQ) (hn : nH + nQ ≤ 1000000) (hlS : nS ≤ 1000000) :
    Calls Try.prog 35 #[.pointer (some ⟨p, 0, none⟩), .agg #[.int .i8 ck, .int .i64 cb, .int .i64 cs, .int .i64 cd, .int .i64 ca, .int .i64 cl, .int .i64 ch, .int .i8 cm]] w fun e w' => ActsPost N S B P J L E T base p (purgeO t cb cd) e w' ∧ Below base w w' := by
  obtain ⟨W0, hW0⟩ : ∃ W, W = w.alloc (.cells #[.int .i8 ck, .int .i64 cb, .int .i64 cs, .int .i64 cd, .int .i64 ca, .int .i64 cl, .int .i64 ch, .int .i8 cm] 36) := ⟨_, rfl⟩
  have b0 : Below w.heap.size w W0 := hW0 ▸ new_alloc w _
  have pc : Blk W0 w.heap.size #[.int .i8 ck, .int .i64 cb, .int .i64 cs, .int .i64 cd, .int .i64 ca, .int .i64 cl, .int .i64 ch, .int .i8 cm] 36 := hW0 ▸ Blk.new w _ _
  have HW := Lib.hid (hW.below b0)
  have hb := b0.mono hW.size
  have hlS2 : nS ≤ maxLen := by unfold maxLen; omega
  have lS : LiesS W0 W0.heap.size aS nS t.sl := ⟨hnS, by have h := HW.out.own.s; rw [hnS] at h; exact ow_lies h⟩
  obtain ⟨b, hbw⟩ : ∃ b, w.heap.size = b := ⟨_, rfl⟩
  clear hW
  obtain ⟨⟨r1, r2⟩, hr⟩ : ∃ r : Int × Bool, slotO t.sl cd = r := ⟨_, rfl⟩
  have HR := Lib.hid hr
  rw [hbw] at pc
  have hS : Hid (∀ X, Below W0.heap.size W0 X → (X.cell? ⟨p, 0, none⟩ = some (.slice aS nS cS) ∧ X.cell? ⟨p, 1, none⟩ = some (.slice aH nH cH) ∧ X.cell? ⟨p, 2, none⟩ = some (.slice aQ nQ cQ)) ∧ (X.cell? ⟨b, 0, none⟩ = some (.int .i8 ck) ∧ X.cell? ⟨b, 1, none⟩ = some (.int .i64 cb) ∧ X.cell? ⟨b, 2, none⟩ = some (.int .i64 cs) ∧ X.cell? ⟨b, 3, none⟩ = some (.int .i64 cd) ∧ X.cell? ⟨b, 4, none⟩ = some (.int .i64 ca) ∧ X.cell? ⟨b, 5, none⟩ = some (.int .i64 cl) ∧ X.cell? ⟨b, 6, none⟩ = some (.int .i64 ch) ∧ X.cell? ⟨b, 7, none⟩ = some (.int .i8 cm)) ∧ Below W0.heap.size W0 X) := fun X h => ⟨⟨(HW.out.blk.below h HW.out.blk.lt).cell 0 _ rfl, (HW.out.blk.below h HW.out.blk.lt).cell 1 _ rfl, (HW.out.blk.below h HW.out.blk.lt).cell 2 _ rfl⟩, cmd_cells8 (pc.below h pc.lt), h⟩
  have hSlot : ∀ X, (X.cell? ⟨p, 0, none⟩ = some (.slice aS nS cS) ∧ X.cell? ⟨p, 1, none⟩ = some (.slice aH nH cH) ∧ X.cell? ⟨p, 2, none⟩ = some (.slice aQ nQ cQ)) ∧ (X.cell? ⟨b, 0, none⟩ = some (.int .i8 ck) ∧ X.cell? ⟨b, 1, none⟩ = some (.int .i64 cb) ∧ X.cell? ⟨b, 2, none⟩ = some (.int .i64 cs) ∧ X.cell? ⟨b, 3, none⟩ = some (.int .i64 cd) ∧ X.cell? ⟨b, 4, none⟩ = some (.int .i64 ca) ∧ X.cell? ⟨b, 5, none⟩ = some (.int .i64 cl) ∧ X.cell? ⟨b, 6, none⟩ = some (.int .i64 ch) ∧ X.cell? ⟨b, 7, none⟩ = some (.int .i8 cm)) ∧ Below W0.heap.size W0 X → Calls Try.prog 45 #[.agg #[.slice aS nS cS, .slice aH nH cH, .slice aQ nQ cQ], .int .i64 cd] X fun e X' => e = .returned (.tuple #[.int .i64 r1, .bool r2]) ∧ (X'.cell? ⟨p, 0, none⟩ = some (.slice aS nS cS) ∧ X'.cell? ⟨p, 1, none⟩ = some (.slice aH nH cH) ∧ X'.cell? ⟨p, 2, none⟩ = some (.slice aQ nQ cQ)) ∧ (X'.cell? ⟨b, 0, none⟩ = some (.int .i8 ck) ∧ X'.cell? ⟨b, 1, none⟩ = some (.int .i64 cb) ∧ X'.cell? ⟨b, 2, none⟩ = some (.int .i64 cs) ∧ X'.cell? ⟨b, 3, none⟩ = some (.int .i64 cd) ∧ X'.cell? ⟨b, 4, none⟩ = some (.int .i64 ca) ∧ X'.cell? ⟨b, 5, none⟩ = some (.int .i64 cl) ∧ X'.cell? ⟨b, 6, none⟩ = some (.int .i64 ch) ∧ X'.cell? ⟨b, 7, none⟩ = some (.int .i8 cm)) ∧ Below W0.heap.size W0 X' := fun X h => (tslot_any aS nS cS t.sl _ _ cd X (lS.below h.2.2) hlS2).mono (by rintro e w' ⟨rfl, hx⟩; exact ⟨by rw [hr] <;> rfl, hS.out _ (below_then h.2.2 hx)⟩)
  have hD := hS.out _ (Below.refl W0.heap.size W0).drew
  go_enter Try.func35, Try.ntmps35
  go_upto_region 1 with fail
  rw [← hW0]
  clear hr hW0 b0 hbw
  go_region_held3 (fun X => (X.cell? ⟨p, 0, none⟩ = some (.slice aS nS cS) ∧ X.cell? ⟨p, 1, none⟩ = some (.slice aH nH cH) ∧ X.cell? ⟨p, 2, none⟩ = some (.slice aQ nQ cQ)) ∧ (X.cell? ⟨b, 0, none⟩ = some (.int .i8 ck) ∧ X.cell? ⟨b, 1, none⟩ = some (.int .i64 cb) ∧ X.cell? ⟨b, 2, none⟩ = some (.int .i64 cs) ∧ X.cell? ⟨b, 3, none⟩ = some (.int .i64 cd) ∧ X.cell? ⟨b, 4, none⟩ = some (.int .i64 ca) ∧ X.cell? ⟨b, 5, none⟩ = some (.int .i64 cl) ∧ X.cell? ⟨b, 6, none⟩ = some (.int .i64 ch) ∧ X.cell? ⟨b, 7, none⟩ = some (.int .i8 cm)) ∧ Below W0.heap.size W0 X) (first | assumption)
    (first
      | (go_at_call 45; (with_reducible refine (hSlot _ ?_).mono ?_); assumption; rintro e W1 ⟨rfl, hN⟩))
  clear hSlot hD
  obtain ⟨⟨o0, o1, o2⟩, ⟨d0, d1, d2, d3, d4, d5, d6, d7⟩, hb1⟩ := hN
  cases r2
  · go_upto_region 2 with fail
    go_quiet (fail)
    have hb2 := hb1.trans (drewN_below W1 nq W0.heap.size)
    obtain ⟨W2, hW2⟩ : ∃ W, W = W1.drewN nq := ⟨_, rfl⟩
    rw [← hW2] at hb2 ⊢
    clear hW2 o0 o1 o2 d0 d1 d2 d3 d4 d5 d6 d7 hb1
    obtain ⟨⟨o0, o1, o2⟩, ⟨d0, d1, d2, d3, d4, d5, d6, d7⟩, hb1⟩ := hS.out _ hb2
    clear hb2
    have HO := Lib.hid (show purgeO t cb cd = t by unfold purgeO; rw [slotO_none HR.out])
    have HW4 := Lib.hid (HW.out.below hb1)
    have hbb := hb.trans (hb1.mono HW.out.size)
    clear HW o0 o1 o2 d0 d1 d2 d3 d4 d5 d6 d7 hb1 hb
    go_wp2_with fail
    go_end0
    exact ⟨⟨_, _, _, rfl, by rw [HO.out]; exact HW4.out⟩, hbb⟩
  · obtain ⟨i, rfl, hI⟩ := slotO_some HR.out rfl
    obtain ⟨_, hil, hik⟩ := slot_some hI
    have hin : i < nS := by rw [← hnS]; exact hil
    obtain ⟨g, rfl, hgb, hnc⟩ := HW.out.some_ hnS hin
    obtain ⟨kx, cx, hx⟩ : ∃ kx cx, t.sl[i] = (⟨kx, cx⟩ : SlotM) := ⟨_, _, rfl⟩
    have HX := Lib.hid (show t.sl.getD i default = ⟨kx, cx⟩ from (getD_slot hil).trans hx)
    obtain ⟨s0, s1, f0, f1, lg⟩ := (HW.out.below hb1).slo hnS hil
    rw [hx] at s0 s1
    have hci : (i : Int) < (nS : Int) := by omega
    clear hx HR f0 f1
    cases he : cx == cb with
    | false =>
      have hce : cx ≠ cb := by simpa using he
      have HE := Lib.hid hce
      clear hce
      go_upto_region 2 with fail
      go_quiet (fail)
      have hb2 := hb1.trans (drewN_below W1 nq W0.heap.size)
      obtain ⟨W2, hW2⟩ : ∃ W, W = W1.drewN nq := ⟨_, rfl⟩
      rw [← hW2] at hb2 ⊢
      clear hW2 o0 o1 o2 d0 d1 d2 d3 d4 d5 d6 d7 hb1
      obtain ⟨⟨o0, o1, o2⟩, ⟨d0, d1, d2, d3, d4, d5, d6, d7⟩, hb1⟩ := hS.out _ hb2
      clear hb2
      clear s0 s1
      have HO := Lib.hid (show purgeO t cb cd = t by unfold purgeO; rw [hI]; simp only [HX.out]; rw [if_neg (fun h => HE.out h.2)])
      have HW4 := Lib.hid (HW.out.below hb1)
      have hbb := hb.trans (hb1.mono HW.out.size)
      clear HW o0 o1 o2 d0 d1 d2 d3 d4 d5 d6 d7 hb1 hb
      go_wp2_with fail
      go_end0
      exact ⟨⟨_, _, _, rfl, by rw [HO.out]; exact HW4.out⟩, hbb⟩
    | true =>
      obtain rfl : cx = cb := by simpa using he
      cases hz : (cx != 0) with
      | false =>
        have hce : cx = 0 := by simpa using hz
        have HE := Lib.hid hce
        clear hce
        go_upto_region 2 with fail
        go_quiet (fail)
        have hb2 := hb1.trans (drewN_below W1 nq W0.heap.size)
        obtain ⟨W2, hW2⟩ : ∃ W, W = W1.drewN nq := ⟨_, rfl⟩
        rw [← hW2] at hb2 ⊢
        clear hW2 o0 o1 o2 d0 d1 d2 d3 d4 d5 d6 d7 hb1
        obtain ⟨⟨o0, o1, o2⟩, ⟨d0, d1, d2, d3, d4, d5, d6, d7⟩, hb1⟩ := hS.out _ hb2
        clear hb2
        clear s0 s1
        have HO := Lib.hid (show purgeO t cx cd = t by unfold purgeO; rw [hI]; simp only [HX.out]; rw [if_neg (fun h => h.1 HE.out)])
        have HW4 := Lib.hid (HW.out.below hb1)
        have hbb := hb.trans (hb1.mono HW.out.size)
        clear HW o0 o1 o2 d0 d1 d2 d3 d4 d5 d6 d7 hb1 hb
        go_wp2_with fail
        go_end0
        exact ⟨⟨_, _, _, rfl, by rw [HO.out]; exact HW4.out⟩, hbb⟩
      | true =>
        have hce : cx ≠ 0 := by simpa using hz
        have HE := Lib.hid hce
        clear hce
        go_upto_region 2 with fail
        go_quiet (fail)
        have hb2 := hb1.trans (drewN_below W1 nq W0.heap.size)
        obtain ⟨W2, hW2⟩ : ∃ W, W = W1.drewN nq := ⟨_, rfl⟩
        rw [← hW2] at hb2 ⊢
        clear hW2 o0 o1 o2 d0 d1 d2 d3 d4 d5 d6 d7 hb1
        obtain ⟨⟨o0, o1, o2⟩, ⟨d0, d1, d2, d3, d4, d5, d6, d7⟩, hb1⟩ := hS.out _ hb2
        clear hb2
        have HV := Lib.hid (tvacate_any N S B P J L E T base p i cd _ nS cS aH nH cH aQ nQ cQ t W2 (HW.out.below hb1) hnS hnH hnQ hn hin hlS)
        clear s0 s1
        go_wp2_with fail
        refine HV.out.mono ?_
        rintro e w4 ⟨⟨vH4, vQ4, rfl, hW4⟩, hb4⟩
        rw [← leave_eq hI] at hW4
        have HW4 := Lib.hid hW4
        have hbb := (hb.trans (hb1.mono HW.out.size)).trans hb4
        have HO := Lib.hid (show purgeO t cx cd = leaveT t i by unfold purgeO; rw [hI]; simp only [HX.out]; rw [if_pos ⟨HE.out, by first | rfl | trivial⟩])
        clear hW4 HV HW o0 o1 o2 d0 d1 d2 d3 d4 d5 d6 d7 hb1 hb4 hb
        go_wp2_with fail
        go_end0
        exact ⟨⟨_, _, _, rfl, by rw [HO.out]; exact HW4.out⟩, hbb⟩

end Go.Proofs.Ytjknloaolennoaa

/-
  table: (*working).mount, .claim: by contract.
-/
namespace Go.Proofs.Ytjknloaolennoaa
open Go.RowKit
set_option linter.unusedVariables false
set_option linter.unusedSimpArgs false

set_option maxRecDepth 100000 in
set_option maxHeartbeats 4000000 in
theorem tclaim_any (N S B P J L E T : Int) (base p : Nat) (aS : Option Addr) (nS cS : Nat) (aH : Option Addr) (nH cH : Nat) (aQ : Option Addr) (nQ cQ : Nat) (t : TabM) (ck cb cs cd ca cl ch cm : Int) (w : World) (hW : WorkAt N S B P J L E T w base p (.slice aS nS cS) (.slice aH nH cH) (.slice aQ nQ cQ) t) (hnS : t.sl.length = nS) (hnH : t.ho.length = nH) (hnQ : t.qu.length = nQ) (hn : nH + nQ ≤ 1000000) (hlS : nS ≤ 1000000) :
    Calls Try.prog 34 #[.pointer (some ⟨p, 0, none⟩), .agg #[.int .i8 ck, .int .i64 cb, .int .i64 cs, .int .i64 cd, .int .i64 ca, .int .i64 cl, .int .i64 ch, .int .i8 cm]] w fun e w' => ActsPost N S B P J L E T base p (claimO t cb cd ca) e w' ∧ Below base w w' := by
  obtain ⟨W0, hW0⟩ : ∃ W, W = w.alloc (.cells #[.int .i8 ck, .int .i64 cb, .int .i64 cs, .int .i64 cd, .int .i64 ca, .int .i64 cl, .int .i64 ch, .int .i8 cm] 36) := ⟨_, rfl⟩
  have b0 : Below w.heap.size w W0 := hW0 ▸ new_alloc w _
  have pc : Blk W0 w.heap.size #[.int .i8 ck, .int .i64 cb, .int .i64 cs, .int .i64 cd, .int .i64 ca, .int .i64 cl, .int .i64 ch, .int .i8 cm] 36 := hW0 ▸ Blk.new w _ _
  have HW := Lib.hid (hW.below b0)
  have hb := b0.mono hW.size
  have hlS2 : nS ≤ maxLen := by unfold maxLen; omega
  have lS : LiesS W0 W0.heap.size aS nS t.sl := ⟨hnS, by have h := HW.out.own.s; rw [hnS] at h; exact ow_lies h⟩
  obtain ⟨b, hbw⟩ : ∃ b, w.heap.size = b := ⟨_, rfl⟩
  clear hW
  obtain ⟨⟨r1, r2⟩, hr⟩ : ∃ r : Int × Bool, slotO t.sl cd = r := ⟨_, rfl⟩
  have HR := Lib.hid hr
  rw [hbw] at pc
  have hS : Hid (∀ X, Below W0.heap.size W0 X → (X.cell? ⟨p, 0, none⟩ = some (.slice aS nS cS) ∧ X.cell? ⟨p, 1, none⟩ = some (.slice aH nH cH) ∧ X.cell? ⟨p, 2, none⟩ = some (.slice aQ nQ cQ)) ∧ (X.cell? ⟨b, 0, none⟩ = some (.int .i8 ck) ∧ X.cell? ⟨b, 1, none⟩ = some (.int .i64 cb) ∧ X.cell? ⟨b, 2, none⟩ = some (.int .i64 cs) ∧ X.cell? ⟨b, 3, none⟩ = some (.int .i64 cd) ∧ X.cell? ⟨b, 4, none⟩ = some (.int .i64 ca) ∧ X.cell? ⟨b, 5, none⟩ = some (.int .i64 cl) ∧ X.cell? ⟨b, 6, none⟩ = some (.int .i64 ch) ∧ X.cell? ⟨b, 7, none⟩ = some (.int .i8 cm)) ∧ Below W0.heap.size W0 X) := fun X h => ⟨⟨(HW.out.blk.below h HW.out.blk.lt).cell 0 _ rfl, (HW.out.blk.below h HW.out.blk.lt).cell 1 _ rfl, (HW.out.blk.below h HW.out.blk.lt).cell 2 _ rfl⟩, cmd_cells8 (pc.below h pc.lt), h⟩
  have hSlot : ∀ X, (X.cell? ⟨p, 0, none⟩ = some (.slice aS nS cS) ∧ X.cell? ⟨p, 1, none⟩ = some (.slice aH nH cH) ∧ X.cell? ⟨p, 2, none⟩ = some (.slice aQ nQ cQ)) ∧ (X.cell? ⟨b, 0, none⟩ = some (.int .i8 ck) ∧ X.cell? ⟨b, 1, none⟩ = some (.int .i64 cb) ∧ X.cell? ⟨b, 2, none⟩ = some (.int .i64 cs) ∧ X.cell? ⟨b, 3, none⟩ = some (.int .i64 cd) ∧ X.cell? ⟨b, 4, none⟩ = some (.int .i64 ca) ∧ X.cell? ⟨b, 5, none⟩ = some (.int .i64 cl) ∧ X.cell? ⟨b, 6, none⟩ = some (.int .i64 ch) ∧ X.cell? ⟨b, 7, none⟩ = some (.int .i8 cm)) ∧ Below W0.heap.size W0 X → Calls Try.prog 45 #[.agg #[.slice aS nS cS, .slice aH nH cH, .slice aQ nQ cQ], .int .i64 cd] X fun e X' => e = .returned (.tuple #[.int .i64 r1, .bool r2]) ∧ (X'.cell? ⟨p, 0, none⟩ = some (.slice aS nS cS) ∧ X'.cell? ⟨p, 1, none⟩ = some (.slice aH nH cH) ∧ X'.cell? ⟨p, 2, none⟩ = some (.slice aQ nQ cQ)) ∧ (X'.cell? ⟨b, 0, none⟩ = some (.int .i8 ck) ∧ X'.cell? ⟨b, 1, none⟩ = some (.int .i64 cb) ∧ X'.cell? ⟨b, 2, none⟩ = some (.int .i64 cs) ∧ X'.cell? ⟨b, 3, none⟩ = some (.int .i64 cd) ∧ X'.cell? ⟨b, 4, none⟩ = some (.int .i64 ca) ∧ X'.cell? ⟨b, 5, none⟩ = some (.int .i64 cl) ∧ X'.cell? ⟨b, 6, none⟩ = some (.int .i64 ch) ∧ X'.cell? ⟨b, 7, none⟩ = some (.int .i8 cm)) ∧ Below W0.heap.size W0 X' := fun X h => (tslot_any aS nS cS t.sl _ _ cd X (lS.below h.2.2) hlS2).mono (by rintro e w' ⟨rfl, hx⟩; exact ⟨by rw [hr] <;> rfl, hS.out _ (below_then h.2.2 hx)⟩)
  have hD := hS.out _ (Below.refl W0.heap.size W0).drew
  go_enter Try.func34, Try.ntmps34
  go_upto_region 1 with fail
  rw [← hW0]
  clear hr hW0 b0 hbw
  go_region_held3 (fun X => (X.cell? ⟨p, 0, none⟩ = some (.slice aS nS cS) ∧ X.cell? ⟨p, 1, none⟩ = some (.slice aH nH cH) ∧ X.cell? ⟨p, 2, none⟩ = some (.slice aQ nQ cQ)) ∧ (X.cell? ⟨b, 0, none⟩ = some (.int .i8 ck) ∧ X.cell? ⟨b, 1, none⟩ = some (.int .i64 cb) ∧ X.cell? ⟨b, 2, none⟩ = some (.int .i64 cs) ∧ X.cell? ⟨b, 3, none⟩ = some (.int .i64 cd) ∧ X.cell? ⟨b, 4, none⟩ = some (.int .i64 ca) ∧ X.cell? ⟨b, 5, none⟩ = some (.int .i64 cl) ∧ X.cell? ⟨b, 6, none⟩ = some (.int .i64 ch) ∧ X.cell? ⟨b, 7, none⟩ = some (.int .i8 cm)) ∧ Below W0.heap.size W0 X) (first | assumption)
    (first
      | (go_at_call 45; (with_reducible refine (hSlot _ ?_).mono ?_); assumption; rintro e W1 ⟨rfl, hN⟩))
  clear hSlot hD
  obtain ⟨⟨o0, o1, o2⟩, ⟨d0, d1, d2, d3, d4, d5, d6, d7⟩, hb1⟩ := hN
  cases r2
  · go_upto_region 2 with fail
    go_quiet (fail)
    have hb2 := hb1.trans (drewN_below W1 nq W0.heap.size)
    obtain ⟨W2, hW2⟩ : ∃ W, W = W1.drewN nq := ⟨_, rfl⟩
    rw [← hW2] at hb2 ⊢
    clear hW2 o0 o1 o2 d0 d1 d2 d3 d4 d5 d6 d7 hb1
    obtain ⟨⟨o0, o1, o2⟩, ⟨d0, d1, d2, d3, d4, d5, d6, d7⟩, hb1⟩ := hS.out _ hb2
    clear hb2
    have HO := Lib.hid (show claimO t cb cd ca = t by unfold claimO; rw [slotO_none HR.out])
    have HW4 := Lib.hid (HW.out.below hb1)
    have hbb := hb.trans (hb1.mono HW.out.size)
    clear HW o0 o1 o2 d0 d1 d2 d3 d4 d5 d6 d7 hb1 hb
    go_wp2_with fail
    go_end0
    exact ⟨⟨_, _, _, rfl, by rw [HO.out]; exact HW4.out⟩, hbb⟩
  · obtain ⟨i, rfl, hI⟩ := slotO_some HR.out rfl
    obtain ⟨_, hil, hik⟩ := slot_some hI
    have hin : i < nS := by rw [← hnS]; exact hil
    obtain ⟨g, rfl, hgb, hnc⟩ := HW.out.some_ hnS hin
    obtain ⟨kx, cx, hx⟩ : ∃ kx cx, t.sl[i] = (⟨kx, cx⟩ : SlotM) := ⟨_, _, rfl⟩
    have HX := Lib.hid (show t.sl.getD i default = ⟨kx, cx⟩ from (getD_slot hil).trans hx)
    obtain ⟨s0, s1, f0, f1, lg⟩ := (HW.out.below hb1).slo hnS hil
    have hxk := hx
    rw [hx] at s0 s1
    have HX2 := Lib.hid hxk
    have hci : (i : Int) < (nS : Int) := by omega
    clear hx hxk HR f0 f1
    cases he : cx == ca with
    | false =>
      have hce : cx ≠ ca := by simpa using he
      have HE := Lib.hid hce
      clear hce
      go_upto_region 2 with fail
      go_quiet (fail)
      have hb2 := hb1.trans (drewN_below W1 nq W0.heap.size)
      obtain ⟨W2, hW2⟩ : ∃ W, W = W1.drewN nq := ⟨_, rfl⟩
      rw [← hW2] at hb2 ⊢
      clear hW2 o0 o1 o2 d0 d1 d2 d3 d4 d5 d6 d7 hb1
      obtain ⟨⟨o0, o1, o2⟩, ⟨d0, d1, d2, d3, d4, d5, d6, d7⟩, hb1⟩ := hS.out _ hb2
      clear hb2
      clear s0 s1
      have HO := Lib.hid (show claimO t cb cd ca = t by unfold claimO; rw [hI]; simp only [HX.out]; rw [if_neg (fun h => HE.out h.1)])
      have HW4 := Lib.hid (HW.out.below hb1)
      have hbb := hb.trans (hb1.mono HW.out.size)
      clear HW o0 o1 o2 d0 d1 d2 d3 d4 d5 d6 d7 hb1 hb
      go_wp2_with fail
      go_end0
      exact ⟨⟨_, _, _, rfl, by rw [HO.out]; exact HW4.out⟩, hbb⟩
    | true =>
      obtain rfl : cx = ca := by simpa using he
      cases hz : (cb != cd) with
      | false =>
        have hce : cb = cd := by simpa using hz
        have HE := Lib.hid hce
        clear hce
        go_upto_region 2 with fail
        go_quiet (fail)
        have hb2 := hb1.trans (drewN_below W1 nq W0.heap.size)
        obtain ⟨W2, hW2⟩ : ∃ W, W = W1.drewN nq := ⟨_, rfl⟩
        rw [← hW2] at hb2 ⊢
        clear hW2 o0 o1 o2 d0 d1 d2 d3 d4 d5 d6 d7 hb1
        obtain ⟨⟨o0, o1, o2⟩, ⟨d0, d1, d2, d3, d4, d5, d6, d7⟩, hb1⟩ := hS.out _ hb2
        clear hb2
        clear s0 s1
        have HO := Lib.hid (show claimO t cb cd cx = t by unfold claimO; rw [hI]; simp only [HX.out]; rw [if_neg (fun h => h.2 HE.out)])
        have HW4 := Lib.hid (HW.out.below hb1)
        have hbb := hb.trans (hb1.mono HW.out.size)
        clear HW o0 o1 o2 d0 d1 d2 d3 d4 d5 d6 d7 hb1 hb
        go_wp2_with fail
        go_end0
        exact ⟨⟨_, _, _, rfl, by rw [HO.out]; exact HW4.out⟩, hbb⟩
      | true =>
        have hce : cb ≠ cd := by simpa using hz
        have HE := Lib.hid hce
        clear hce
        go_upto_region 2 with fail
        go_quiet (fail)
        have hb2 := hb1.trans (drewN_below W1 nq W0.heap.size)
        obtain ⟨W2, hW2⟩ : ∃ W, W = W1.drewN nq := ⟨_, rfl⟩
        rw [← hW2] at hb2 ⊢
        clear hW2 o0 o1 o2 d0 d1 d2 d3 d4 d5 d6 d7 hb1
        obtain ⟨⟨o0, o1, o2⟩, ⟨d0, d1, d2, d3, d4, d5, d6, d7⟩, hb1⟩ := hS.out _ hb2
        clear hb2
        have f0 := True.intro
        have f1 := True.intro
        clear o0 o1 o2 d0 d1 d2 d3 d4 d5 d6 d7 s0 s1 f0 f1 lg
        go_upto_region 3 with fail
        obtain ⟨V0, zV0⟩ : ∃ V, V = (W2).drew := ⟨_, rfl⟩
        have up0 : Below W0.heap.size W0 V0 := zV0 ▸ (hb1.trans (Below.refl W0.heap.size W2).drew)
        have HWW := Lib.hid (HW.out.below up0)
        have pcW := pc.below up0 pc.lt
        have hHeld : V0.cell? ⟨p, 0, none⟩ = some (.slice (some ⟨g, 0, none⟩) nS cS) ∧ V0.cell? ⟨b, 1, none⟩ = some (.int .i64 cb) := ⟨HWW.out.blk.cell 0 _ rfl, pcW.cell 1 _ rfl⟩
        obtain ⟨s0, s1, f0, f1, lg⟩ := HWW.out.slo hnS hil
        have HF := Lib.hid (HWW.out.claim hnS hil ( cb))
        have hbb := (hb.trans (up0.mono HW.out.size)).setCell (p := ⟨g, i * 2 + 1, none⟩) (by show base ≤ g; exact hgb) (.int .i64 cb)
        refine wp_region_to (S := (fun X => X.cell? ⟨p, 0, none⟩ = some (.slice (some ⟨g, 0, none⟩) nS cS) ∧ X.cell? ⟨b, 1, none⟩ = some (.int .i64 cb))) 11 (by kernel_rfl) (by rw [← zV0]; exact hHeld) (fun _ => ?_)
        rw [← zV0]
        clear zV0 up0 hb1
        refine wpAnyM_take (i := 0) (oi := ⟨some 39, _, _, _, _, _⟩) (v := ?_) rfl (by kernel_rfl) (by kernel_rfl) (by kernel_rfl) (fun _ _ _ h => h) (by decide) (by kernel_rfl) (by kernel_rfl) (Or.inl ⟨by rfl, ?_⟩) (fun _ => hHeld) ?_
        rotate_left
        focus (intro wq hSq; (try dsimp only at hSq); go_simp; try with_reducible rfl)
        try simp only [Act.put, List.setIfInBounds_toArray, List.set_cons_zero, List.set_cons_succ]
        refine wpAnyM_take (i := 1) (oi := ⟨some 40, _, _, _, _, _⟩) (v := ?_) rfl (by kernel_rfl) (by kernel_rfl) (by kernel_rfl) (fun _ _ _ h => h) (by decide) (by kernel_rfl) (by kernel_rfl) (Or.inl ⟨by rfl, ?_⟩) (fun _ => hHeld) ?_
        rotate_left
        focus (intro wq hSq; (try dsimp only at hSq); go_simp; try with_reducible rfl)
        try simp only [Act.put, List.setIfInBounds_toArray, List.set_cons_zero, List.set_cons_succ]
        refine wpAnyM_take (i := 2) (oi := ⟨some 41, _, _, _, _, _⟩) (v := ?_) rfl (by kernel_rfl) (by kernel_rfl) (by kernel_rfl) (fun _ _ _ h => h) (by decide) (by kernel_rfl) (by kernel_rfl) (Or.inl ⟨by rfl, ?_⟩) (fun _ => hHeld) ?_
        rotate_left
        focus (intro wq hSq; (try dsimp only at hSq); go_simp; try with_reducible rfl)
        try simp only [Act.put, List.setIfInBounds_toArray, List.set_cons_zero, List.set_cons_succ]
        refine wpAnyM_take (i := 3) (oi := ⟨some 42, _, _, _, _, _⟩) (v := ?_) rfl (by kernel_rfl) (by kernel_rfl) (by kernel_rfl) (fun _ _ _ h => h) (by decide) (by kernel_rfl) (by kernel_rfl) (Or.inl ⟨by rfl, ?_⟩) (fun _ => hHeld) ?_
        rotate_left
        focus (intro wq hSq; (try dsimp only at hSq); go_simp; try with_reducible rfl)
        try simp only [Act.put, List.setIfInBounds_toArray, List.set_cons_zero, List.set_cons_succ]
        refine wpAnyM_take (i := 4) (oi := ⟨some 43, _, _, _, _, _⟩) (v := ?_) rfl (by kernel_rfl) (by kernel_rfl) (by kernel_rfl) (fun _ _ _ h => h) (by decide) (by kernel_rfl) (by kernel_rfl) (Or.inl ⟨by rfl, ?_⟩) (fun _ => hHeld) ?_
        rotate_left
        focus (intro wq hSq; (try dsimp only at hSq); go_simp; try with_reducible rfl)
        try simp only [Act.put, List.setIfInBounds_toArray, List.set_cons_zero, List.set_cons_succ]
        refine wpAnyM_take (i := 5) (oi := ⟨some 44, _, _, _, _, _⟩) (v := ?_) rfl (by kernel_rfl) (by kernel_rfl) (by kernel_rfl) (fun _ _ _ h => h) (by decide) (by kernel_rfl) (by kernel_rfl) (Or.inl ⟨by rfl, ?_⟩) (fun _ => hHeld) ?_
        rotate_left
        focus (intro wq hSq; (try dsimp only at hSq); go_simp; try with_reducible rfl)
        try simp only [Act.put, List.setIfInBounds_toArray, List.set_cons_zero, List.set_cons_succ]
        refine wpAnyM_take (i := 6) (oi := ⟨some 45, _, _, _, _, _⟩) (v := ?_) rfl (by kernel_rfl) (by kernel_rfl) (by kernel_rfl) (fun _ _ _ h => h) (by decide) (by kernel_rfl) (by kernel_rfl) (Or.inl ⟨by rfl, ?_⟩) (fun _ => hHeld) ?_
        rotate_left
        focus (intro wq hSq; (try dsimp only at hSq); go_simp; try with_reducible rfl)
        try simp only [Act.put, List.setIfInBounds_toArray, List.set_cons_zero, List.set_cons_succ]
        refine wpAnyM_take (i := 7) (oi := ⟨some 46, _, _, _, _, _⟩) (v := ?_) rfl (by kernel_rfl) (by kernel_rfl) (by kernel_rfl) (fun _ _ _ h => h) (by decide) (by kernel_rfl) (by kernel_rfl) (Or.inl ⟨by rfl, ?_⟩) (fun _ => hHeld) ?_
        rotate_left
        focus (intro wq hSq; (try dsimp only at hSq); go_simp; try with_reducible rfl)
        try simp only [Act.put, List.setIfInBounds_toArray, List.set_cons_zero, List.set_cons_succ]
        refine wpAnyM_take (i := 8) (oi := ⟨some 47, _, _, _, _, _⟩) (v := ?_) rfl (by kernel_rfl) (by kernel_rfl) (by kernel_rfl) (fun _ _ _ h => h) (by decide) (by kernel_rfl) (by kernel_rfl) (Or.inl ⟨by rfl, ?_⟩) (fun _ => hHeld) ?_
        rotate_left
        focus (intro wq hSq; (try dsimp only at hSq); go_simp; try with_reducible rfl)
        try simp only [Act.put, List.setIfInBounds_toArray, List.set_cons_zero, List.set_cons_succ]
        refine wpAnyM_takeA (i := 9) (oi := ⟨some 48, _, _, _, _, _⟩) (v := ?_) rfl (by kernel_rfl) (by kernel_rfl) (by kernel_rfl) (fun _ _ _ h => h) (by decide) (Or.inl ⟨by rfl, ?_⟩) (fun _ => hHeld) ?_
        rotate_left
        focus (intro wq hSq; go_simp; try with_reducible rfl)
        try simp only [Act.put, List.setIfInBounds_toArray, List.set_cons_zero, List.set_cons_succ]
        refine wpAnyM_takeA (i := 10) (oi := ⟨some 49, _, _, _, _, _⟩) (v := ?_) rfl (by kernel_rfl) (by kernel_rfl) (by kernel_rfl) (fun _ _ _ h => h) (by decide) (Or.inl ⟨by rfl, ?_⟩) (fun _ => hHeld) ?_
        rotate_left
        focus (intro wq hSq; go_simp; try with_reducible rfl)
        try simp only [Act.put, List.setIfInBounds_toArray, List.set_cons_zero, List.set_cons_succ]
        refine wpAnyM_ready (rs := [11]) (by kernel_rfl) (by simp) ?_
        refine AllReadyM.cons (o := ⟨none, _, _, _, _, _⟩) rfl (fun K hK => ?_) AllReadyM.nil
        go_simp
        refine hK.out _ _ (fun h => not_yetW (by kernel_rfl) h) (fun _ => ?_)
        clear hK K
        try simp only [Act.put, List.setIfInBounds_toArray, List.set_cons_zero, List.set_cons_succ]
        refine wpAnyM_done (by kernel_rfl) ?_ _
        clear hHeld s0 s1 f0 f1 lg HWW pcW
        have HO : Hid (claimO t cb cd cx = { t with sl := t.sl.set i ⟨(t.sl[i]).key, cb⟩ }) := by
          show _ = _
          unfold claimO
          rw [hI]
          simp only [HX.out]
          rw [if_pos ⟨by first | rfl | trivial, HE.out⟩, HX2.out]
        go_wp2_with fail
        go_end0
        exact ⟨⟨_, _, _, rfl, by rw [HO.out]; exact HF.out⟩, hbb⟩

end Go.Proofs.Ytjknloaolennoaa

/-
  table: (*working).mount: by contract.
-/
namespace Go.Proofs.Ytjknloaolennoaa
open Go.RowKit
set_option linter.unusedVariables false
set_option linter.unusedSimpArgs false

set_option maxRecDepth 100000 in
set_option maxHeartbeats 4000000 in
theorem tmount_any (N S B P J L E T : Int) (base p : Nat) (aS : Option Addr) (nS cS : Nat) (aH : Option Addr) (nH cH : Nat) (aQ : Option Addr) (nQ cQ : Nat) (t : TabM) (ck cb cs cd ca cl ch cm : Int) (w : World) (hW : WorkAt N S B P J L E T w base p (.slice aS nS cS) (.slice aH nH cH) (.slice aQ nQ cQ) t) (hnS : t.sl.length = nS) (hnH : t.ho.length = nH) (hnQ : t.qu.length = nQ) (hn : nH + nQ ≤ 1000000) (hlS : nS ≤ 1000000) :
    Calls Try.prog 30 #[.pointer (some ⟨p, 0, none⟩), .agg #[.int .i8 ck, .int .i64 cb, .int .i64 cs, .int .i64 cd, .int .i64 ca, .int .i64 cl, .int .i64 ch, .int .i8 cm]] w fun e w' => ActsPost N S B P J L E T base p (mountO t cb) e w' ∧ Below base w w' := by
  obtain ⟨W0, hW0⟩ : ∃ W, W = w.alloc (.cells #[.int .i8 ck, .int .i64 cb, .int .i64 cs, .int .i64 cd, .int .i64 ca, .int .i64 cl, .int .i64 ch, .int .i8 cm] 36) := ⟨_, rfl⟩
  have b0 : Below w.heap.size w W0 := hW0 ▸ new_alloc w _
  have pc : Blk W0 w.heap.size #[.int .i8 ck, .int .i64 cb, .int .i64 cs, .int .i64 cd, .int .i64 ca, .int .i64 cl, .int .i64 ch, .int .i8 cm] 36 := hW0 ▸ Blk.new w _ _
  have HW := Lib.hid (hW.below b0)
  have hb := b0.mono hW.size
  have hlS2 : nS ≤ maxLen := by unfold maxLen; omega
  have lS : LiesS W0 W0.heap.size aS nS t.sl := ⟨hnS, by have h := HW.out.own.s; rw [hnS] at h; exact ow_lies h⟩
  obtain ⟨b, hbw⟩ : ∃ b, w.heap.size = b := ⟨_, rfl⟩
  clear hW
  obtain ⟨⟨r1, r2⟩, hr⟩ : ∃ r : Int × Bool, slotO t.sl cb = r := ⟨_, rfl⟩
  have HR := Lib.hid hr
  obtain ⟨fo, hfo⟩ : ∃ o, (t.sl.findIdx? fun x => x.key == 0) = o := ⟨_, rfl⟩
  have HFO := Lib.hid hfo
  rw [hbw] at pc
  have hS : Hid (∀ X, Below W0.heap.size W0 X → (X.cell? ⟨p, 0, none⟩ = some (.slice aS nS cS) ∧ X.cell? ⟨p, 1, none⟩ = some (.slice aH nH cH) ∧ X.cell? ⟨p, 2, none⟩ = some (.slice aQ nQ cQ)) ∧ (X.cell? ⟨b, 0, none⟩ = some (.int .i8 ck) ∧ X.cell? ⟨b, 1, none⟩ = some (.int .i64 cb) ∧ X.cell? ⟨b, 2, none⟩ = some (.int .i64 cs) ∧ X.cell? ⟨b, 3, none⟩ = some (.int .i64 cd) ∧ X.cell? ⟨b, 4, none⟩ = some (.int .i64 ca) ∧ X.cell? ⟨b, 5, none⟩ = some (.int .i64 cl) ∧ X.cell? ⟨b, 6, none⟩ = some (.int .i64 ch) ∧ X.cell? ⟨b, 7, none⟩ = some (.int .i8 cm)) ∧ Below W0.heap.size W0 X) := fun X h => ⟨⟨(HW.out.blk.below h HW.out.blk.lt).cell 0 _ rfl, (HW.out.blk.below h HW.out.blk.lt).cell 1 _ rfl, (HW.out.blk.below h HW.out.blk.lt).cell 2 _ rfl⟩, cmd_cells8 (pc.below h pc.lt), h⟩
  have HFR := Lib.hid (tfree_any aS nS cS t.sl (.slice aH nH cH) (.slice aQ nQ cQ) W0 lS hlS2)
  rw [hfo] at HFR
  have hMem : ∀ X, (X.cell? ⟨p, 0, none⟩ = some (.slice aS nS cS) ∧ X.cell? ⟨p, 1, none⟩ = some (.slice aH nH cH) ∧ X.cell? ⟨p, 2, none⟩ = some (.slice aQ nQ cQ)) ∧ (X.cell? ⟨b, 0, none⟩ = some (.int .i8 ck) ∧ X.cell? ⟨b, 1, none⟩ = some (.int .i64 cb) ∧ X.cell? ⟨b, 2, none⟩ = some (.int .i64 cs) ∧ X.cell? ⟨b, 3, none⟩ = some (.int .i64 cd) ∧ X.cell? ⟨b, 4, none⟩ = some (.int .i64 ca) ∧ X.cell? ⟨b, 5, none⟩ = some (.int .i64 cl) ∧ X.cell? ⟨b, 6, none⟩ = some (.int .i64 ch) ∧ X.cell? ⟨b, 7, none⟩ = some (.int .i8 cm)) ∧ Below W0.heap.size W0 X → Calls Try.prog 44 #[.agg #[.slice aS nS cS, .slice aH nH cH, .slice aQ nQ cQ], .int .i64 cb] X fun e X' => e = .returned (.bool r2) ∧ (X'.cell? ⟨p, 0, none⟩ = some (.slice aS nS cS) ∧ X'.cell? ⟨p, 1, none⟩ = some (.slice aH nH cH) ∧ X'.cell? ⟨p, 2, none⟩ = some (.slice aQ nQ cQ)) ∧ (X'.cell? ⟨b, 0, none⟩ = some (.int .i8 ck) ∧ X'.cell? ⟨b, 1, none⟩ = some (.int .i64 cb) ∧ X'.cell? ⟨b, 2, none⟩ = some (.int .i64 cs) ∧ X'.cell? ⟨b, 3, none⟩ = some (.int .i64 cd) ∧ X'.cell? ⟨b, 4, none⟩ = some (.int .i64 ca) ∧ X'.cell? ⟨b, 5, none⟩ = some (.int .i64 cl) ∧ X'.cell? ⟨b, 6, none⟩ = some (.int .i64 ch) ∧ X'.cell? ⟨b, 7, none⟩ = some (.int .i8 cm)) ∧ Below W0.heap.size W0 X' := fun X h => (tmember_any aS nS cS t.sl _ _ cb X (lS.below h.2.2) hlS2).mono (by rintro e w' ⟨rfl, hx⟩; exact ⟨by rw [hr] <;> rfl, hS.out _ (below_then h.2.2 hx)⟩)
  obtain ⟨⟨o0, o1, o2⟩, ⟨d0, d1, d2, d3, d4, d5, d6, d7⟩, hb1⟩ := hS.out _ (Below.refl W0.heap.size W0)
  have lp := HW.out.blk.lt
  have lb := pc.lt
  go_enter Try.func30, Try.ntmps30
  clear hr hfo
  go_upto_region 1 with fail
  rw [← hW0]
  clear hW0 b0 hbw
  go_wp2_with fail
  refine HFR.out.mono ?_
  rintro e W1 ⟨rfl, hN⟩
  clear o0 o1 o2 d0 d1 d2 d3 d4 d5 d6 d7 hb1 HFR lp lb
  have hD := hS.out _ (hN.trans (Below.refl W0.heap.size W1).drew)
  cases fo with
  | none =>
    rw [show idxI none = -1 from rfl]
    obtain ⟨⟨o0, o1, o2⟩, ⟨d0, d1, d2, d3, d4, d5, d6, d7⟩, hb1⟩ := hS.out _ hN
    go_upto_region 2 with fail
    go_quiet (fail)
    have hb2 := hb1.trans (drewN_below W1 nq W0.heap.size)
    obtain ⟨W2, hW2⟩ : ∃ W, W = W1.drewN nq := ⟨_, rfl⟩
    rw [← hW2] at hb2 ⊢
    clear hW2 o0 o1 o2 d0 d1 d2 d3 d4 d5 d6 d7 hb1
    obtain ⟨⟨o0, o1, o2⟩, ⟨d0, d1, d2, d3, d4, d5, d6, d7⟩, hb1⟩ := hS.out _ hb2
    clear hb2
    have HO := Lib.hid (show mountO t cb = t by unfold mountO; rw [HFO.out]; split <;> rfl)
    have HW4 := Lib.hid (HW.out.below hb1)
    have hbb := hb.trans (hb1.mono HW.out.size)
    clear HW o0 o1 o2 d0 d1 d2 d3 d4 d5 d6 d7 hb1 hb
    go_wp2_with fail
    go_end0
    exact ⟨⟨_, _, _, rfl, by rw [HO.out]; exact HW4.out⟩, hbb⟩
  | some i =>
    rw [show idxI (some i) = (i : Int) from rfl]
    have hz : ((i : Int) == -1) = false := by rw [beq_eq_false_iff_ne]; omega
    have hz2 : ((i : Int) != -1) = true := by rw [bne, hz]; rfl
    go_upto_region 2 with fail
    go_region_held3 (fun X => (X.cell? ⟨p, 0, none⟩ = some (.slice aS nS cS) ∧ X.cell? ⟨p, 1, none⟩ = some (.slice aH nH cH) ∧ X.cell? ⟨p, 2, none⟩ = some (.slice aQ nQ cQ)) ∧ (X.cell? ⟨b, 0, none⟩ = some (.int .i8 ck) ∧ X.cell? ⟨b, 1, none⟩ = some (.int .i64 cb) ∧ X.cell? ⟨b, 2, none⟩ = some (.int .i64 cs) ∧ X.cell? ⟨b, 3, none⟩ = some (.int .i64 cd) ∧ X.cell? ⟨b, 4, none⟩ = some (.int .i64 ca) ∧ X.cell? ⟨b, 5, none⟩ = some (.int .i64 cl) ∧ X.cell? ⟨b, 6, none⟩ = some (.int .i64 ch) ∧ X.cell? ⟨b, 7, none⟩ = some (.int .i8 cm)) ∧ Below W0.heap.size W0 X) (first | assumption)
      (first
        | (go_at_call 44; (with_reducible refine (hMem _ ?_).mono ?_); assumption; rintro e W2 ⟨rfl, hN⟩))
    clear hMem hD hz hz2
    obtain ⟨⟨o0, o1, o2⟩, ⟨d0, d1, d2, d3, d4, d5, d6, d7⟩, hb1⟩ := hN
    cases r2
    · have hil0 := (show ∃ hi : i < t.sl.length, ((t.sl[i]).key == 0) = true from by have h := HFO.out; rw [List.findIdx?_eq_some_iff_getElem] at h; exact ⟨h.1, h.2.1⟩)
      obtain ⟨hil, _⟩ := hil0
      have hin : i < nS := by rw [← hnS]; exact hil
      obtain ⟨g, rfl, hgb, hnc⟩ := HW.out.some_ hnS hin
      have hci : (i : Int) < (nS : Int) := by omega
      have s0 := True.intro
      have s1 := True.intro
      have f0 := True.intro
      have f1 := True.intro
      have lg := True.intro
      clear o0 o1 o2 d0 d1 d2 d3 d4 d5 d6 d7 s0 s1 f0 f1 lg
      go_upto_region 3 with fail
      obtain ⟨V0, zV0⟩ : ∃ V, V = (W2).drew := ⟨_, rfl⟩
      have up0 : Below W0.heap.size W0 V0 := zV0 ▸ (hb1.trans (Below.refl W0.heap.size W2).drew)
      have HWW := Lib.hid (HW.out.below up0)
      have pcW := pc.below up0 pc.lt
      have hHeld : V0.cell? ⟨p, 0, none⟩ = some (.slice (some ⟨g, 0, none⟩) nS cS) ∧ V0.cell? ⟨b, 1, none⟩ = some (.int .i64 cb) := ⟨HWW.out.blk.cell 0 _ rfl, pcW.cell 1 _ rfl⟩
      obtain ⟨s0, s1, f0, f1, lg⟩ := HWW.out.slo hnS hil
      have HF := Lib.hid (HWW.out.key hnS hil ( cb))
      have hbb := (hb.trans (up0.mono HW.out.size)).setCell (p := ⟨g, i * 2, none⟩) (by show base ≤ g; exact hgb) (.int .i64 cb)
      refine wp_region_to (S := (fun X => X.cell? ⟨p, 0, none⟩ = some (.slice (some ⟨g, 0, none⟩) nS cS) ∧ X.cell? ⟨b, 1, none⟩ = some (.int .i64 cb))) 11 (by kernel_rfl) (by rw [← zV0]; exact hHeld) (fun _ => ?_)
      rw [← zV0]
      clear zV0 up0 hb1
      refine wpAnyM_take (i := 0) (oi := ⟨some 22, _, _, _, _, _⟩) (v := ?_) rfl (by kernel_rfl) (by kernel_rfl) (by kernel_rfl) (fun _ _ _ h => h) (by decide) (by kernel_rfl) (by kernel_rfl) (Or.inl ⟨by rfl, ?_⟩) (fun _ => hHeld) ?_
      rotate_left
      focus (intro wq hSq; (try dsimp only at hSq); go_simp; try with_reducible rfl)
      try simp only [Act.put, List.setIfInBounds_toArray, List.set_cons_zero, List.set_cons_succ]
      refine wpAnyM_take (i := 1) (oi := ⟨some 23, _, _, _, _, _⟩) (v := ?_) rfl (by kernel_rfl) (by kernel_rfl) (by kernel_rfl) (fun _ _ _ h => h) (by decide) (by kernel_rfl) (by kernel_rfl) (Or.inl ⟨by rfl, ?_⟩) (fun _ => hHeld) ?_
      rotate_left
      focus (intro wq hSq; (try dsimp only at hSq); go_simp; try with_reducible rfl)
      try simp only [Act.put, List.setIfInBounds_toArray, List.set_cons_zero, List.set_cons_succ]
      refine wpAnyM_take (i := 2) (oi := ⟨some 24, _, _, _, _, _⟩) (v := ?_) rfl (by kernel_rfl) (by kernel_rfl) (by kernel_rfl) (fun _ _ _ h => h) (by decide) (by kernel_rfl) (by kernel_rfl) (Or.inl ⟨by rfl, ?_⟩) (fun _ => hHeld) ?_
      rotate_left
      focus (intro wq hSq; (try dsimp only at hSq); go_simp; try with_reducible rfl)
      try simp only [Act.put, List.setIfInBounds_toArray, List.set_cons_zero, List.set_cons_succ]
      refine wpAnyM_take (i := 3) (oi := ⟨some 25, _, _, _, _, _⟩) (v := ?_) rfl (by kernel_rfl) (by kernel_rfl) (by kernel_rfl) (fun _ _ _ h => h) (by decide) (by kernel_rfl) (by kernel_rfl) (Or.inl ⟨by rfl, ?_⟩) (fun _ => hHeld) ?_
      rotate_left
      focus (intro wq hSq; (try dsimp only at hSq); go_simp; try with_reducible rfl)
      try simp only [Act.put, List.setIfInBounds_toArray, List.set_cons_zero, List.set_cons_succ]
      refine wpAnyM_take (i := 4) (oi := ⟨some 26, _, _, _, _, _⟩) (v := ?_) rfl (by kernel_rfl) (by kernel_rfl) (by kernel_rfl) (fun _ _ _ h => h) (by decide) (by kernel_rfl) (by kernel_rfl) (Or.inl ⟨by rfl, ?_⟩) (fun _ => hHeld) ?_
      rotate_left
      focus (intro wq hSq; (try dsimp only at hSq); go_simp; try with_reducible rfl)
      try simp only [Act.put, List.setIfInBounds_toArray, List.set_cons_zero, List.set_cons_succ]
      refine wpAnyM_take (i := 5) (oi := ⟨some 27, _, _, _, _, _⟩) (v := ?_) rfl (by kernel_rfl) (by kernel_rfl) (by kernel_rfl) (fun _ _ _ h => h) (by decide) (by kernel_rfl) (by kernel_rfl) (Or.inl ⟨by rfl, ?_⟩) (fun _ => hHeld) ?_
      rotate_left
      focus (intro wq hSq; (try dsimp only at hSq); go_simp; try with_reducible rfl)
      try simp only [Act.put, List.setIfInBounds_toArray, List.set_cons_zero, List.set_cons_succ]
      refine wpAnyM_take (i := 6) (oi := ⟨some 28, _, _, _, _, _⟩) (v := ?_) rfl (by kernel_rfl) (by kernel_rfl) (by kernel_rfl) (fun _ _ _ h => h) (by decide) (by kernel_rfl) (by kernel_rfl) (Or.inl ⟨by rfl, ?_⟩) (fun _ => hHeld) ?_
      rotate_left
      focus (intro wq hSq; (try dsimp only at hSq); go_simp; try with_reducible rfl)
      try simp only [Act.put, List.setIfInBounds_toArray, List.set_cons_zero, List.set_cons_succ]
      refine wpAnyM_take (i := 7) (oi := ⟨some 29, _, _, _, _, _⟩) (v := ?_) rfl (by kernel_rfl) (by kernel_rfl) (by kernel_rfl) (fun _ _ _ h => h) (by decide) (by kernel_rfl) (by kernel_rfl) (Or.inl ⟨by rfl, ?_⟩) (fun _ => hHeld) ?_
      rotate_left
      focus (intro wq hSq; (try dsimp only at hSq); go_simp; try with_reducible rfl)
      try simp only [Act.put, List.setIfInBounds_toArray, List.set_cons_zero, List.set_cons_succ]
      refine wpAnyM_take (i := 8) (oi := ⟨some 30, _, _, _, _, _⟩) (v := ?_) rfl (by kernel_rfl) (by kernel_rfl) (by kernel_rfl) (fun _ _ _ h => h) (by decide) (by kernel_rfl) (by kernel_rfl) (Or.inl ⟨by rfl, ?_⟩) (fun _ => hHeld) ?_
      rotate_left
      focus (intro wq hSq; (try dsimp only at hSq); go_simp; try with_reducible rfl)
      try simp only [Act.put, List.setIfInBounds_toArray, List.set_cons_zero, List.set_cons_succ]
      refine wpAnyM_takeA (i := 9) (oi := ⟨some 31, _, _, _, _, _⟩) (v := ?_) rfl (by kernel_rfl) (by kernel_rfl) (by kernel_rfl) (fun _ _ _ h => h) (by decide) (Or.inl ⟨by rfl, ?_⟩) (fun _ => hHeld) ?_
      rotate_left
      focus (intro wq hSq; go_simp; try with_reducible rfl)
      try simp only [Act.put, List.setIfInBounds_toArray, List.set_cons_zero, List.set_cons_succ]
      refine wpAnyM_takeA (i := 10) (oi := ⟨some 32, _, _, _, _, _⟩) (v := ?_) rfl (by kernel_rfl) (by kernel_rfl) (by kernel_rfl) (fun _ _ _ h => h) (by decide) (Or.inl ⟨by rfl, ?_⟩) (fun _ => hHeld) ?_
      rotate_left
      focus (intro wq hSq; go_simp; try with_reducible rfl)
      try simp only [Act.put, List.setIfInBounds_toArray, List.set_cons_zero, List.set_cons_succ]
      refine wpAnyM_ready (rs := [11]) (by kernel_rfl) (by simp) ?_
      refine AllReadyM.cons (o := ⟨none, _, _, _, _, _⟩) rfl (fun K hK => ?_) AllReadyM.nil
      go_simp
      refine hK.out _ _ (fun h => not_yetW (by kernel_rfl) h) (fun _ => ?_)
      clear hK K
      try simp only [Act.put, List.setIfInBounds_toArray, List.set_cons_zero, List.set_cons_succ]
      refine wpAnyM_done (by kernel_rfl) ?_ _
      clear hHeld s0 s1 f0 f1 lg HWW pcW
      have HO : Hid (mountO t cb = { t with sl := t.sl.set i ⟨cb, (t.sl[i]).claim⟩ }) := by
        show _ = _
        unfold mountO
        rw [slotO_none HR.out, HFO.out]
        simp only [Option.isSome_none]
        rw [if_neg (by simp), getD_slot hil]
      go_wp2_with fail
      go_end0
      exact ⟨⟨_, _, _, rfl, by rw [HO.out]; exact HF.out⟩, hbb⟩
    · have HO := Lib.hid (show mountO t cb = t by obtain ⟨j, _, hI⟩ := slotO_some HR.out rfl; unfold mountO; rw [hI]; rfl)
      have HW4 := Lib.hid (HW.out.below hb1)
      have hbb := hb.trans (hb1.mono HW.out.size)
      clear HW o0 o1 o2 d0 d1 d2 d3 d4 d5 d6 d7 hb1 hb
      go_wp2_with fail
      go_end0
      exact ⟨⟨_, _, _, rfl, by rw [HO.out]; exact HW4.out⟩, hbb⟩

end Go.Proofs.Ytjknloaolennoaa

/-
  table: (*working).ask: by contract.
-/
namespace Go.Proofs.Ytjknloaolennoaa
open Go.RowKit
set_option linter.unusedVariables false
set_option linter.unusedSimpArgs false

theorem slotO_isSome (t : TabM) (key : Int) : (slotO t.sl key).2 = (slotI t key).isSome := by
  unfold slotO slotI
  cases (if 1 ≤ key then t.sl.findIdx? fun x => x.key == key else none) <;> rfl
theorem tou_append (l m : List HoldM) (key : Int) (s : SpanM) : sTou (l ++ m) key s = (sTou l key s || sTou m key s) := by simp [sTou]
theorem count_append (l m : List HoldM) (key : Int) : countK (l ++ m) key = countK l key + countK m key := by simp [countK]
theorem askOk_eq (B : Int) (t : TabM) (h : HoldM) : askOk B t h = takesB B t.sl t.ho t.qu h := by
  unfold askOk takesB
  rw [slotO_isSome, tou_append, count_append]
  rw [show decide (countK t.ho h.key + countK t.qu h.key < 64) = decide ((countK t.ho h.key : Int) + (countK t.qu h.key : Int) < 64) by rw [decide_eq_decide]; omega]
  cases sHoldB B h <;> cases (slotI t h.key).isSome <;> simp
def askO (B : Int) (t : TabM) (h : HoldM) : TabM := if askOk B t h = true then grantT { t with qu := t.qu ++ [h] } else t
theorem one_next (w : World) (o : Obj) : (w.alloc o).heap.size = w.heap.size + 1 := by simp

set_option maxRecDepth 100000 in
set_option maxHeartbeats 4000000 in
theorem task_any (N S B P J L E T : Int) (base p : Nat) (aS : Option Addr) (nS cS : Nat) (aH : Option Addr) (nH cH : Nat) (aQ : Option Addr) (nQ cQ : Nat) (t : TabM) (ck cb cs cd ca cl ch cm : Int) (w : World) (hW : WorkAt N S B P J L E T w base p (.slice aS nS cS) (.slice aH nH cH) (.slice aQ nQ cQ) t) (hnS : t.sl.length = nS) (hnH : t.ho.length = nH) (hnQ : t.qu.length = nQ) (hn : nH + nQ < 1000000) (hlS : nS ≤ 1000000) :
    Calls Try.prog 32 #[.pointer (some ⟨p, 0, none⟩), .agg #[.int .i8 ck, .int .i64 cb, .int .i64 cs, .int .i64 cd, .int .i64 ca, .int .i64 cl, .int .i64 ch, .int .i8 cm]] w fun e w' => ActsPost N S B P J L E T base p (askO B t ⟨cb, ⟨cl, ch⟩, cm⟩) e w' ∧ Below base w w' := by
  obtain ⟨W0, hW0⟩ : ∃ W, W = w.alloc (.cells #[.int .i8 ck, .int .i64 cb, .int .i64 cs, .int .i64 cd, .int .i64 ca, .int .i64 cl, .int .i64 ch, .int .i8 cm] 36) := ⟨_, rfl⟩
  have b0 : Below w.heap.size w W0 := hW0 ▸ new_alloc w _
  have pc : Blk W0 w.heap.size #[.int .i8 ck, .int .i64 cb, .int .i64 cs, .int .i64 cd, .int .i64 ca, .int .i64 cl, .int .i64 ch, .int .i8 cm] 36 := hW0 ▸ Blk.new w _ _
  have HW := Lib.hid (hW.below b0)
  have hb := b0.mono hW.size
  have hlS2 : nS ≤ maxLen := by unfold maxLen; omega
  have lS : LiesS W0 W0.heap.size aS nS t.sl := ⟨hnS, by have h := HW.out.own.s; rw [hnS] at h; exact ow_lies h⟩
  clear hW
  obtain ⟨W2, hW2⟩ : ∃ W, W = W0.alloc (.cells #[.int .i64 cb, .int .i64 cl, .int .i64 ch, .int .i8 cm] 43) := ⟨_, rfl⟩
  have b2 : Below W0.heap.size W0 W2 := hW2 ▸ new_alloc W0 _
  have hsz : W0.heap.size = w.heap.size + 1 := by rw [hW0]; simp
  have px : Blk W2 W0.heap.size #[.int .i64 cb, .int .i64 cl, .int .i64 ch, .int .i8 cm] 43 := hW2 ▸ Blk.new W0 _ _
  rw [hsz] at px
  have HWW := Lib.hid (HW.out.below b2)
  have hbb := hb.trans (b2.mono HW.out.size)
  have lS2 := lS.below b2
  have HqQ : Hid (∀ g, (Value.slice aQ nQ cQ).ownBlock = some g → g < W0.heap.size) := fun g h => (HW.out.own.q.lt g h).2
  rw [hsz] at HqQ
  obtain ⟨x0, x1, x2, x3, x4, x5, x6, x7⟩ := cmd_cells8 pc
  have lb := pc.lt
  obtain ⟨b, hbw⟩ : ∃ b, w.heap.size = b := ⟨_, rfl⟩
  rw [hbw] at px HqQ pc x0 x1 x2 x3 x4 x5 x6 x7 lb hsz
  obtain ⟨r, hr⟩ : ∃ r, takesB B t.sl t.ho t.qu ⟨cb, ⟨cl, ch⟩, cm⟩ = r := ⟨_, rfl⟩
  have HR : Hid (askOk B t ⟨cb, ⟨cl, ch⟩, cm⟩ = r) := (askOk_eq _ _ _).trans hr
  have lH : LiesH W2 W2.heap.size aH nH t.ho := ⟨hnH, by have h := HWW.out.own.h; rw [hnH] at h; exact ow_lies h⟩
  have lQ : LiesH W2 W2.heap.size aQ nQ t.qu := ⟨hnQ, by have h := HWW.out.own.q; rw [hnQ] at h; exact ow_lies h⟩
  have hS : Hid (∀ X, Below W2.heap.size W2 X → (X.cell? ⟨p, 0, none⟩ = some (.slice aS nS cS) ∧ X.cell? ⟨p, 1, none⟩ = some (.slice aH nH cH) ∧ X.cell? ⟨p, 2, none⟩ = some (.slice aQ nQ cQ) ∧ X.cell? ⟨p, 3, none⟩ = some (.int .i64 N) ∧ X.cell? ⟨p, 4, none⟩ = some (.int .i64 S) ∧ X.cell? ⟨p, 5, none⟩ = some (.int .i64 B) ∧ X.cell? ⟨p, 6, none⟩ = some (.int .i64 P) ∧ X.cell? ⟨p, 7, none⟩ = some (.int .i64 J) ∧ X.cell? ⟨p, 8, none⟩ = some (.int .i64 L) ∧ X.cell? ⟨p, 9, none⟩ = some (.int .i64 E) ∧ X.cell? ⟨p, 10, none⟩ = some (.int .i64 T)) ∧ (X.cell? ⟨b + 1, 0, none⟩ = some (.int .i64 cb) ∧ X.cell? ⟨b + 1, 1, none⟩ = some (.int .i64 cl) ∧ X.cell? ⟨b + 1, 2, none⟩ = some (.int .i64 ch) ∧ X.cell? ⟨b + 1, 3, none⟩ = some (.int .i8 cm)) ∧ Below W2.heap.size W2 X) := fun X h => ⟨work_cells (HWW.out.blk.below h HWW.out.blk.lt), hold_cells (px.below h px.lt), h⟩
  have hTk : ∀ X, (X.cell? ⟨p, 0, none⟩ = some (.slice aS nS cS) ∧ X.cell? ⟨p, 1, none⟩ = some (.slice aH nH cH) ∧ X.cell? ⟨p, 2, none⟩ = some (.slice aQ nQ cQ) ∧ X.cell? ⟨p, 3, none⟩ = some (.int .i64 N) ∧ X.cell? ⟨p, 4, none⟩ = some (.int .i64 S) ∧ X.cell? ⟨p, 5, none⟩ = some (.int .i64 B) ∧ X.cell? ⟨p, 6, none⟩ = some (.int .i64 P) ∧ X.cell? ⟨p, 7, none⟩ = some (.int .i64 J) ∧ X.cell? ⟨p, 8, none⟩ = some (.int .i64 L) ∧ X.cell? ⟨p, 9, none⟩ = some (.int .i64 E) ∧ X.cell? ⟨p, 10, none⟩ = some (.int .i64 T)) ∧ (X.cell? ⟨b + 1, 0, none⟩ = some (.int .i64 cb) ∧ X.cell? ⟨b + 1, 1, none⟩ = some (.int .i64 cl) ∧ X.cell? ⟨b + 1, 2, none⟩ = some (.int .i64 ch) ∧ X.cell? ⟨b + 1, 3, none⟩ = some (.int .i8 cm)) ∧ Below W2.heap.size W2 X → Calls Try.prog 47 #[.agg #[.slice aS nS cS, .slice aH nH cH, .slice aQ nQ cQ], .agg #[.int .i64 N, .int .i64 S, .int .i64 B, .int .i64 P, .int .i64 J, .int .i64 L, .int .i64 E, .int .i64 T], .agg #[.int .i64 cb, .int .i64 cl, .int .i64 ch, .int .i8 cm]] X fun e X' => e = .returned (.bool r) ∧ (X'.cell? ⟨p, 0, none⟩ = some (.slice aS nS cS) ∧ X'.cell? ⟨p, 1, none⟩ = some (.slice aH nH cH) ∧ X'.cell? ⟨p, 2, none⟩ = some (.slice aQ nQ cQ) ∧ X'.cell? ⟨p, 3, none⟩ = some (.int .i64 N) ∧ X'.cell? ⟨p, 4, none⟩ = some (.int .i64 S) ∧ X'.cell? ⟨p, 5, none⟩ = some (.int .i64 B) ∧ X'.cell? ⟨p, 6, none⟩ = some (.int .i64 P) ∧ X'.cell? ⟨p, 7, none⟩ = some (.int .i64 J) ∧ X'.cell? ⟨p, 8, none⟩ = some (.int .i64 L) ∧ X'.cell? ⟨p, 9, none⟩ = some (.int .i64 E) ∧ X'.cell? ⟨p, 10, none⟩ = some (.int .i64 T)) ∧ (X'.cell? ⟨b + 1, 0, none⟩ = some (.int .i64 cb) ∧ X'.cell? ⟨b + 1, 1, none⟩ = some (.int .i64 cl) ∧ X'.cell? ⟨b + 1, 2, none⟩ = some (.int .i64 ch) ∧ X'.cell? ⟨b + 1, 3, none⟩ = some (.int .i8 cm)) ∧ Below W2.heap.size W2 X' := fun X h => (ttakes_any N S B P J L E T aS nS cS t.sl aH nH cH t.ho aQ nQ cQ t.qu cb cl ch cm X (lS2.below h.2.2) (by omega) (lH.below h.2.2) (by omega) (lQ.below h.2.2) (by omega)).mono (by rintro e w' ⟨rfl, hx⟩; exact ⟨by rw [hr] <;> rfl, hS.out _ (below_then h.2.2 hx)⟩)
  have hD := hS.out _ (Below.refl W2.heap.size W2).drew
  go_enter Try.func32, Try.ntmps32
  clear hr
  go_upto_region 1 with fail
  rw [← hW0]
  clear hW0 b0 hbw
  go_upto_region 2 with fail
  rw [← hW2]
  clear hW2 b2 x0 x1 x2 x3 x4 x5 x6 x7 lb lS lS2 lH lQ hb HW pc
  first | rw [hsz] | skip
  clear hsz
  go_region_held3 (fun X => (X.cell? ⟨p, 0, none⟩ = some (.slice aS nS cS) ∧ X.cell? ⟨p, 1, none⟩ = some (.slice aH nH cH) ∧ X.cell? ⟨p, 2, none⟩ = some (.slice aQ nQ cQ) ∧ X.cell? ⟨p, 3, none⟩ = some (.int .i64 N) ∧ X.cell? ⟨p, 4, none⟩ = some (.int .i64 S) ∧ X.cell? ⟨p, 5, none⟩ = some (.int .i64 B) ∧ X.cell? ⟨p, 6, none⟩ = some (.int .i64 P) ∧ X.cell? ⟨p, 7, none⟩ = some (.int .i64 J) ∧ X.cell? ⟨p, 8, none⟩ = some (.int .i64 L) ∧ X.cell? ⟨p, 9, none⟩ = some (.int .i64 E) ∧ X.cell? ⟨p, 10, none⟩ = some (.int .i64 T)) ∧ (X.cell? ⟨b + 1, 0, none⟩ = some (.int .i64 cb) ∧ X.cell? ⟨b + 1, 1, none⟩ = some (.int .i64 cl) ∧ X.cell? ⟨b + 1, 2, none⟩ = some (.int .i64 ch) ∧ X.cell? ⟨b + 1, 3, none⟩ = some (.int .i8 cm)) ∧ Below W2.heap.size W2 X) (first | assumption)
    (first
      | (go_at_call 47; (with_reducible refine (hTk _ ?_).mono ?_); assumption; rintro e W3 ⟨rfl, hN⟩))
  clear hTk hD
  have hb3 := hN.2.2
  clear hN
  cases r
  · have HO := Lib.hid (show askO B t ⟨cb, ⟨cl, ch⟩, cm⟩ = t by unfold askO; rw [HR.out]; rfl)
    have HW4 := Lib.hid (HWW.out.below hb3)
    have hbd := hbb.trans (hb3.mono HWW.out.size)
    clear HWW hbb hb3 px
    go_wp2_with fail
    go_end0
    exact ⟨⟨_, _, _, rfl, by rw [HO.out]; exact HW4.out⟩, hbd⟩
  · have hG6 := HWW.out.below hb3
    have hbc := hbb.trans (hb3.mono HWW.out.size)
    have px := px.below hb3 px.lt
    have pw := hG6.blk
    have HOwn : Hid (W3.ownsRow base 43 4 (.slice aQ nQ cQ) nQ (holV t.qu)) := by have h := hG6.own.q; rw [hnQ] at h; exact h
    have hqx : (Value.slice aQ nQ cQ).ownBlock ≠ some (b + 1) := fun h => by have := HqQ.out _ h; omega
    obtain ⟨i0, hi0, hz0, hz1, hz2⟩ := info_parts tinfoHold
    clear HWW hbb hb3 HqQ
    go_upto_region 3 with fail
    have hS2 : Hid (∀ X, Below W3.heap.size W3 X → (X.cell? ⟨p, 2, none⟩ = some (.slice aQ nQ cQ)) ∧ (X.cell? ⟨(b + 1), 0, none⟩ = some (.int .i64 cb) ∧ X.cell? ⟨(b + 1), 1, none⟩ = some (.int .i64 cl) ∧ X.cell? ⟨(b + 1), 2, none⟩ = some (.int .i64 ch) ∧ X.cell? ⟨(b + 1), 3, none⟩ = some (.int .i8 cm))) := fun X h => ⟨(pw.below h pw.lt).cell 2 _ rfl, hold_cells (px.below h px.lt)⟩
    obtain ⟨V0, zV0⟩ : ∃ V, V = (W3).drew := ⟨_, rfl⟩
    have up0 : Below (W3).heap.size (W3) V0 := zV0 ▸ (Below.refl _ _).drew
    have hHeld := hS2.out _ up0
    refine wp_region_to (S := (fun X => (X.cell? ⟨p, 2, none⟩ = some (.slice aQ nQ cQ)) ∧ (X.cell? ⟨(b + 1), 0, none⟩ = some (.int .i64 cb) ∧ X.cell? ⟨(b + 1), 1, none⟩ = some (.int .i64 cl) ∧ X.cell? ⟨(b + 1), 2, none⟩ = some (.int .i64 ch) ∧ X.cell? ⟨(b + 1), 3, none⟩ = some (.int .i8 cm)))) 14 (by kernel_rfl) (by rw [← zV0]; exact hHeld) (fun _ => ?_)
    rw [← zV0]
    clear zV0
    refine wpAnyM_take (i := 0) (oi := ⟨some 22, _, _, _, _, _⟩) (v := ?_) rfl (by kernel_rfl) (by kernel_rfl) (by kernel_rfl) (fun _ _ _ h => h) (by decide) (by kernel_rfl) (by kernel_rfl) (Or.inl ⟨by rfl, ?_⟩) (fun _ => hHeld) ?_
    rotate_left
    focus (intro wq hSq; (try dsimp only at hSq); go_simp; try with_reducible rfl)
    try simp only [Act.put, List.setIfInBounds_toArray, List.set_cons_zero, List.set_cons_succ]
    refine wpAnyM_take (i := 1) (oi := ⟨some 23, _, _, _, _, _⟩) (v := ?_) rfl (by kernel_rfl) (by kernel_rfl) (by kernel_rfl) (fun _ _ _ h => h) (by decide) (by kernel_rfl) (by kernel_rfl) (Or.inl ⟨by rfl, ?_⟩) (fun _ => hHeld) ?_
    rotate_left
    focus (intro wq hSq; (try dsimp only at hSq); go_simp; try with_reducible rfl)
    try simp only [Act.put, List.setIfInBounds_toArray, List.set_cons_zero, List.set_cons_succ]
    refine wpAnyM_take (i := 2) (oi := ⟨some 24, _, _, _, _, _⟩) (v := ?_) rfl (by kernel_rfl) (by kernel_rfl) (by kernel_rfl) (fun _ _ _ h => h) (by decide) (by kernel_rfl) (by kernel_rfl) (Or.inl ⟨by rfl, ?_⟩) (fun _ => hHeld) ?_
    rotate_left
    focus (intro wq hSq; (try dsimp only at hSq); go_simp; try with_reducible rfl)
    try simp only [Act.put, List.setIfInBounds_toArray, List.set_cons_zero, List.set_cons_succ]
    refine wpAnyM_take (i := 3) (oi := ⟨some 25, _, _, _, _, _⟩) (v := ?_) rfl (by kernel_rfl) (by kernel_rfl) (by kernel_rfl) (fun _ _ _ h => h) (by decide) (by kernel_rfl) (by kernel_rfl) (Or.inl ⟨by rfl, ?_⟩) (fun _ => hHeld) ?_
    rotate_left
    focus (intro wq hSq; (try dsimp only at hSq); go_simp; try with_reducible rfl)
    try simp only [Act.put, List.setIfInBounds_toArray, List.set_cons_zero, List.set_cons_succ]
    refine wpAnyM_take (i := 4) (oi := ⟨some 26, _, _, _, _, _⟩) (v := ?_) rfl (by kernel_rfl) (by kernel_rfl) (by kernel_rfl) (fun _ _ _ h => h) (by decide) (by kernel_rfl) (by kernel_rfl) (Or.inl ⟨by rfl, ?_⟩) (fun _ => hHeld) ?_
    rotate_left
    focus (intro wq hSq; (try dsimp only at hSq); go_simp; try with_reducible rfl)
    try simp only [Act.put, List.setIfInBounds_toArray, List.set_cons_zero, List.set_cons_succ]
    refine wpAnyM_take (i := 5) (oi := ⟨some 27, _, _, _, _, _⟩) (v := ?_) rfl (by kernel_rfl) (by kernel_rfl) (by kernel_rfl) (fun _ _ _ h => h) (by decide) (by kernel_rfl) (by kernel_rfl) (Or.inl ⟨by rfl, ?_⟩) (fun _ => hHeld) ?_
    rotate_left
    focus (intro wq hSq; (try dsimp only at hSq); go_simp; try with_reducible rfl)
    try simp only [Act.put, List.setIfInBounds_toArray, List.set_cons_zero, List.set_cons_succ]
    refine wpAnyM_take (i := 6) (oi := ⟨some 28, _, _, _, _, _⟩) (v := ?_) rfl (by kernel_rfl) (by kernel_rfl) (by kernel_rfl) (fun _ _ _ h => h) (by decide) (by kernel_rfl) (by kernel_rfl) (Or.inl ⟨by rfl, ?_⟩) (fun _ => hHeld) ?_
    rotate_left
    focus (intro wq hSq; (try dsimp only at hSq); go_simp; try with_reducible rfl)
    try simp only [Act.put, List.setIfInBounds_toArray, List.set_cons_zero, List.set_cons_succ]
    refine wpAnyM_take (i := 7) (oi := ⟨some 29, _, _, _, _, _⟩) (v := ?_) rfl (by kernel_rfl) (by kernel_rfl) (by kernel_rfl) (fun _ _ _ h => h) (by decide) (by kernel_rfl) (by kernel_rfl) (Or.inl ⟨by rfl, ?_⟩) (fun _ => hHeld) ?_
    rotate_left
    focus (intro wq hSq; (try dsimp only at hSq); go_simp; try with_reducible rfl)
    try simp only [Act.put, List.setIfInBounds_toArray, List.set_cons_zero, List.set_cons_succ]
    have bV1 := new_alloc V0 (.cells #[.int .i64 cb, .int .i64 cl, .int .i64 ch, .int .i8 cm] 43)
    refine wpAnyM_ready (rs := [8]) (by kernel_rfl) (by simp) ?_
    refine AllReadyM.cons (o := ⟨some 30, _, _, _, _, _⟩) rfl (fun K hK => ?_) AllReadyM.nil
    go_simp
    refine hK.out _ _ (fun _ => hS2.out _ (below_then up0 bV1)) (fun _ => ?_)
    clear hK K
    try simp only [Act.put, List.setIfInBounds_toArray, List.set_cons_zero, List.set_cons_succ]
    have lone := LiesH.just (Blk.new V0 #[.int .i64 cb, .int .i64 cl, .int .i64 ch, .int .i8 cm] 43)
    obtain ⟨V1, zV1⟩ : ∃ V, V = V0.alloc (.cells #[.int .i64 cb, .int .i64 cl, .int .i64 ch, .int .i8 cm] 43) := ⟨_, rfl⟩
    rw [← zV1] at bV1 lone ⊢
    clear zV1
    obtain ⟨pz, ez, _, hcz⟩ := lone.2.2 (by omega)
    injection ez with ez
    subst ez
    have up1 := below_then up0 bV1
    have hOwn1 := ow_up (HOwn.out) up1
    obtain ⟨v5, V2, hrun, hown5, hg5, _, hat⟩ := run_append_own_at (P := Try.prog) V1 base 27 27 43 i0 _ 4 32 Try.underlying27 hi0 hz0 hz1 hz2 rfl (by omega) _ nQ _ hOwn1 ⟨V0.heap.size, 0, none⟩ 1 1 (holV [⟨cb, ⟨cl, ch⟩, cm⟩]) rfl hcz (holV_one _) (by unfold maxLen; omega) (by omega) (Nat.le_trans hG6.size up1.size)
    have pw2 := blk_grown (pw.below up1 pw.lt) hg5 (ow_blk hOwn1 (pw.below up1 pw.lt) (by decide))
    have px2 : Blk V2 (b + 1) #[.int .i64 cb, .int .i64 cl, .int .i64 ch, .int .i8 cm] 43 := blk_grown (px.below up1 px.lt) hg5 hqx
    have hHeld2 : (V2.cell? ⟨p, 2, none⟩ = some (.slice aQ nQ cQ)) ∧ (V2.cell? ⟨(b + 1), 0, none⟩ = some (.int .i64 cb) ∧ V2.cell? ⟨(b + 1), 1, none⟩ = some (.int .i64 cl) ∧ V2.cell? ⟨(b + 1), 2, none⟩ = some (.int .i64 ch) ∧ V2.cell? ⟨(b + 1), 3, none⟩ = some (.int .i8 cm)) := ⟨pw2.cell 2 _ rfl, hold_cells px2⟩
    refine wpAnyM_ready (rs := [9]) (by kernel_rfl) (by simp) ?_
    refine AllReadyM.cons (o := ⟨some 31, _, _, _, _, _⟩) rfl (fun K hK => ?_) AllReadyM.nil
    refine step_append rfl (.tmp 28) (.tmp 30) 27 rfl (by simp [Act.eval, Act.put]) (by simp [Act.eval, Act.put]) hrun ?_
    refine hK.out _ _ (fun _ => hHeld2) (fun _ => ?_)
    clear hK K
    try simp only [Act.put, List.setIfInBounds_toArray, List.set_cons_zero, List.set_cons_succ]
    refine wpAnyM_takeA (i := 10) (oi := ⟨some 32, _, _, _, _, _⟩) (v := ?_) rfl (by kernel_rfl) (by kernel_rfl) (by kernel_rfl) (fun _ _ _ h => h) (by decide) (Or.inl ⟨by rfl, ?_⟩) (fun _ => hHeld2) ?_
    rotate_left
    focus (intro wq hSq; go_simp; try with_reducible rfl)
    try simp only [Act.put, List.setIfInBounds_toArray, List.set_cons_zero, List.set_cons_succ]
    refine wpAnyM_takeA (i := 11) (oi := ⟨some 33, _, _, _, _, _⟩) (v := ?_) rfl (by kernel_rfl) (by kernel_rfl) (by kernel_rfl) (fun _ _ _ h => h) (by decide) (Or.inl ⟨by rfl, ?_⟩) (fun _ => hHeld2) ?_
    rotate_left
    focus (intro wq hSq; go_simp; try with_reducible rfl)
    try simp only [Act.put, List.setIfInBounds_toArray, List.set_cons_zero, List.set_cons_succ]
    refine wpAnyM_takeA (i := 12) (oi := ⟨some 34, _, _, _, _, _⟩) (v := ?_) rfl (by kernel_rfl) (by kernel_rfl) (by kernel_rfl) (fun _ _ _ h => h) (by decide) (Or.inl ⟨by rfl, ?_⟩) (fun _ => hHeld2) ?_
    rotate_left
    focus (intro wq hSq; go_simp; try with_reducible rfl)
    try simp only [Act.put, List.setIfInBounds_toArray, List.set_cons_zero, List.set_cons_succ]
    refine wpAnyM_takeA (i := 13) (oi := ⟨some 35, _, _, _, _, _⟩) (v := ?_) rfl (by kernel_rfl) (by kernel_rfl) (by kernel_rfl) (fun _ _ _ h => h) (by decide) (Or.inl ⟨by rfl, ?_⟩) (fun _ => hHeld2) ?_
    rotate_left
    focus (intro wq hSq; go_simp; try with_reducible rfl)
    try simp only [Act.put, List.setIfInBounds_toArray, List.set_cons_zero, List.set_cons_succ]
    obtain ⟨A5, c5, e5, _, _⟩ := ow_shape hown5
    subst e5
    have f2 := pw2.free 2
    have lp2 := pw2.lt
    have cp2 := hHeld2.1
    refine wpAnyM_ready (rs := [14]) (by kernel_rfl) (by simp) ?_
    refine AllReadyM.cons (o := ⟨none, _, _, _, _, _⟩) rfl (fun K hK => ?_) AllReadyM.nil
    go_simp
    refine hK.out _ _ (fun h => not_yetW (by kernel_rfl) h) (fun _ => ?_)
    clear hK K
    try simp only [Act.put, List.setIfInBounds_toArray, List.set_cons_zero, List.set_cons_succ]
    refine wpAnyM_done (by kernel_rfl) ?_ _
    have hG8 := (hG6.below up1).pushQ (y := ⟨cb, ⟨cl, ch⟩, cm⟩) (by rw [hnQ]; exact hown5) hg5 hat
    have hb8 := ((hbc.trans (up1.mono hG6.size)).grown hg5 (Nat.le_trans hG6.size up1.size) (fun j hj => (hOwn1.lt j hj).1)).setCell (p := ⟨p, 2, none⟩) (by show base ≤ p; exact hG6.bp) (.slice A5 (nQ + 1) c5)
    have HA := Lib.hid hG8
    clear hown5 hg5 hat HOwn hcz hG6 hbc px pw pw2 px2 hOwn1 hrun lone hS2 hHeld hHeld2 up0 up1 bV1 f2 lp2 cp2 hS hG8
    obtain ⟨W5, hW5⟩ : ∃ W, W = V2.setCell ⟨p, 2, none⟩ (.slice A5 (nQ + 1) c5) := ⟨_, rfl⟩
    rw [← hW5] at HA hb8 ⊢
    clear hW5
    have hlq : (t.qu ++ [(⟨cb, ⟨cl, ch⟩, cm⟩ : HoldM)]).length = nQ + 1 := by rw [List.length_append, hnQ]; rfl
    have hgr := Lib.hid (tgrant_any N S B P J L E T base p _ _ _ _ _ _ _ _ _ _ W5 HA.out hnH hlq (by omega))
    have HO := Lib.hid (show askO B t ⟨cb, ⟨cl, ch⟩, cm⟩ = grantT { t with qu := t.qu ++ [⟨cb, ⟨cl, ch⟩, cm⟩] } by unfold askO; rw [HR.out]; rfl)
    go_wp2_with fail
    refine hgr.out.mono ?_
    rintro e w4 ⟨⟨vH4, vQ4, rfl, hW4⟩, hb4⟩
    have hbd := hb8.trans hb4
    have HW4 := Lib.hid hW4
    clear hgr HA hb8 hb4 hW4
    go_wp2_with fail
    go_end0
    exact ⟨⟨_, _, _, rfl, by rw [HO.out]; exact HW4.out⟩, hbd⟩

end Go.Proofs.Ytjknloaolennoaa

/-
  table: (*working).free: by contract.
-/
namespace Go.Proofs.Ytjknloaolennoaa
open Go.RowKit
set_option linter.unusedVariables false
set_option linter.unusedSimpArgs false

def keyS (key lo hi : Int) (h : HoldM) : Bool := h.key == key && decide (h.s = ⟨lo, hi⟩)
def freeO (t : TabM) (key lo hi : Int) : TabM := grantT { sl := t.sl, ho := notP (keyS key lo hi) t.ho, qu := if (notP (keyS key lo hi) t.ho).length = t.ho.length then notP (keyS key lo hi) t.qu else t.qu }

set_option maxRecDepth 100000 in
set_option maxHeartbeats 4000000 in
theorem tfreeC_any (N S B P J L E T : Int) (base p : Nat) (aS : Option Addr) (nS cS : Nat) (aH : Option Addr) (nH cH : Nat) (aQ : Option Addr) (nQ cQ : Nat) (t : TabM) (ck cb cs cd ca cl ch cm : Int) (w : World) (hW : WorkAt N S B P J L E T w base p (.slice aS nS cS) (.slice aH nH cH) (.slice aQ nQ cQ) t) (hnS : t.sl.length = nS) (hnH : t.ho.length = nH) (hnQ : t.qu.length = nQ) (hn : nH + nQ ≤ 1000000) (hlS : nS ≤ 1000000) :
    Calls Try.prog 33 #[.pointer (some ⟨p, 0, none⟩), .agg #[.int .i8 ck, .int .i64 cb, .int .i64 cs, .int .i64 cd, .int .i64 ca, .int .i64 cl, .int .i64 ch, .int .i8 cm]] w fun e w' => ActsPost N S B P J L E T base p (freeO t cb cl ch) e w' ∧ Below base w w' := by
  obtain ⟨W0, hW0⟩ : ∃ W, W = w.alloc (.cells #[.int .i8 ck, .int .i64 cb, .int .i64 cs, .int .i64 cd, .int .i64 ca, .int .i64 cl, .int .i64 ch, .int .i8 cm] 36) := ⟨_, rfl⟩
  have b0 : Below w.heap.size w W0 := hW0 ▸ new_alloc w _
  have pc : Blk W0 w.heap.size #[.int .i8 ck, .int .i64 cb, .int .i64 cs, .int .i64 cd, .int .i64 ca, .int .i64 cl, .int .i64 ch, .int .i8 cm] 36 := hW0 ▸ Blk.new w _ _
  have HW := Lib.hid (hW.below b0)
  have hb := b0.mono hW.size
  have hlS2 : nS ≤ maxLen := by unfold maxLen; omega
  have lS : LiesS W0 W0.heap.size aS nS t.sl := ⟨hnS, by have h := HW.out.own.s; rw [hnS] at h; exact ow_lies h⟩
  have hpb : w.heap.size ≠ p := by have := hW.blk.lt; omega
  clear hW lS hlS2
  obtain ⟨b, hbw⟩ : ∃ b, w.heap.size = b := ⟨_, rfl⟩
  rw [hbw] at pc hpb
  obtain ⟨q0, q1, q2, _⟩ := work_cells HW.out.blk
  have hlp := HW.out.blk.lt
  go_enter Try.func33, Try.ntmps33
  go_upto_region 1 with fail
  rw [← hW0]
  clear hW0 b0 hbw
  go_upto_region 2 with fail
  clear q0 q1 q2 hlp
  have lH : LiesH W0 W0.heap.size aH nH t.ho := ⟨hnH, by have h := HW.out.own.h; rw [hnH] at h; exact ow_lies h⟩
  have hcH : aH = none → cH = 0 := fun h => by have h1 := HW.out.own.h; subst h; rcases h1.2 with ⟨h2, _⟩ | ⟨_, _, _, h2, _⟩ <;> simp at h2; exact h2.2
  have hS2 : Hid (∀ X, Below W0.heap.size W0 X → X.cell? ⟨p, 1, none⟩ = some (.slice aH nH cH) ∧ X.cell? ⟨b, 1, none⟩ = some (.int .i64 cb) ∧ X.cell? ⟨b, 5, none⟩ = some (.int .i64 cl) ∧ X.cell? ⟨b, 6, none⟩ = some (.int .i64 ch)) := fun X h => ⟨(HW.out.blk.below h HW.out.blk.lt).cell 1 _ rfl, (pc.below h pc.lt).cell 1 _ rfl, (pc.below h pc.lt).cell 5 _ rfl, (pc.below h pc.lt).cell 6 _ rfl⟩
  obtain ⟨V0, zV0⟩ : ∃ V, V = (W0).drew := ⟨_, rfl⟩
  have up0 : Below (W0).heap.size (W0) V0 := zV0 ▸ (Below.refl _ _).drew
  have hHeld := hS2.out _ up0
  have lb : b < V0.heap.size := (pc.below up0 pc.lt).lt
  refine wp_region_to (S := (fun X => X.cell? ⟨p, 1, none⟩ = some (.slice aH nH cH) ∧ X.cell? ⟨b, 1, none⟩ = some (.int .i64 cb) ∧ X.cell? ⟨b, 5, none⟩ = some (.int .i64 cl) ∧ X.cell? ⟨b, 6, none⟩ = some (.int .i64 ch))) 19 (by kernel_rfl) (by rw [← zV0]; exact hHeld) (fun _ => ?_)
  rw [← zV0]
  clear zV0
  refine wpAnyM_take (i := 0) (oi := ⟨some 12, _, _, _, _, _⟩) (v := ?_) rfl (by kernel_rfl) (by kernel_rfl) (by kernel_rfl) (fun _ _ _ h => h) (by decide) (by kernel_rfl) (by kernel_rfl) (Or.inl ⟨by rfl, ?_⟩) (fun _ => hHeld) ?_
  rotate_left
  focus (intro wq hSq; (try dsimp only at hSq); go_simp; try with_reducible rfl)
  try simp only [Act.put, List.setIfInBounds_toArray, List.set_cons_zero, List.set_cons_succ]
  refine wpAnyM_take (i := 1) (oi := ⟨some 13, _, _, _, _, _⟩) (v := ?_) rfl (by kernel_rfl) (by kernel_rfl) (by kernel_rfl) (fun _ _ _ h => h) (by decide) (by kernel_rfl) (by kernel_rfl) (Or.inl ⟨by rfl, ?_⟩) (fun _ => hHeld) ?_
  rotate_left
  focus (intro wq hSq; (try dsimp only at hSq); go_simp; try with_reducible rfl)
  try simp only [Act.put, List.setIfInBounds_toArray, List.set_cons_zero, List.set_cons_succ]
  refine wpAnyM_take (i := 2) (oi := ⟨some 14, _, _, _, _, _⟩) (v := ?_) rfl (by kernel_rfl) (by kernel_rfl) (by kernel_rfl) (fun _ _ _ h => h) (by decide) (by kernel_rfl) (by kernel_rfl) (Or.inl ⟨by rfl, ?_⟩) (fun _ => hHeld) ?_
  rotate_left
  focus (intro wq hSq; (try dsimp only at hSq); go_simp; try with_reducible rfl)
  try simp only [Act.put, List.setIfInBounds_toArray, List.set_cons_zero, List.set_cons_succ]
  refine wpAnyM_take (i := 3) (oi := ⟨some 15, _, _, _, _, _⟩) (v := ?_) rfl (by kernel_rfl) (by kernel_rfl) (by kernel_rfl) (fun _ _ _ h => h) (by decide) (by kernel_rfl) (by kernel_rfl) (Or.inl ⟨by rfl, ?_⟩) (fun _ => hHeld) ?_
  rotate_left
  focus (intro wq hSq; (try dsimp only at hSq); go_simp; try with_reducible rfl)
  try simp only [Act.put, List.setIfInBounds_toArray, List.set_cons_zero, List.set_cons_succ]
  refine wpAnyM_take (i := 4) (oi := ⟨some 16, _, _, _, _, _⟩) (v := ?_) rfl (by kernel_rfl) (by kernel_rfl) (by kernel_rfl) (fun _ _ _ h => h) (by decide) (by kernel_rfl) (by kernel_rfl) (Or.inl ⟨by rfl, ?_⟩) (fun _ => hHeld) ?_
  rotate_left
  focus (intro wq hSq; (try dsimp only at hSq); go_simp; try with_reducible rfl)
  try simp only [Act.put, List.setIfInBounds_toArray, List.set_cons_zero, List.set_cons_succ]
  refine wpAnyM_take (i := 5) (oi := ⟨some 17, _, _, _, _, _⟩) (v := ?_) rfl (by kernel_rfl) (by kernel_rfl) (by kernel_rfl) (fun _ _ _ h => h) (by decide) (by kernel_rfl) (by kernel_rfl) (Or.inl ⟨by rfl, ?_⟩) (fun _ => hHeld) ?_
  rotate_left
  focus (intro wq hSq; (try dsimp only at hSq); go_simp; try with_reducible rfl)
  try simp only [Act.put, List.setIfInBounds_toArray, List.set_cons_zero, List.set_cons_succ]
  refine wpAnyM_take (i := 6) (oi := ⟨some 18, _, _, _, _, _⟩) (v := ?_) rfl (by kernel_rfl) (by kernel_rfl) (by kernel_rfl) (fun _ _ _ h => h) (by decide) (by kernel_rfl) (by kernel_rfl) (Or.inl ⟨by rfl, ?_⟩) (fun _ => hHeld) ?_
  rotate_left
  focus (intro wq hSq; (try dsimp only at hSq); go_simp; try with_reducible rfl)
  try simp only [Act.put, List.setIfInBounds_toArray, List.set_cons_zero, List.set_cons_succ]
  refine wpAnyM_take (i := 7) (oi := ⟨some 19, _, _, _, _, _⟩) (v := ?_) rfl (by kernel_rfl) (by kernel_rfl) (by kernel_rfl) (fun _ _ _ h => h) (by decide) (by kernel_rfl) (by kernel_rfl) (Or.inl ⟨by rfl, ?_⟩) (fun _ => hHeld) ?_
  rotate_left
  focus (intro wq hSq; (try dsimp only at hSq); go_simp; try with_reducible rfl)
  try simp only [Act.put, List.setIfInBounds_toArray, List.set_cons_zero, List.set_cons_succ]
  refine wpAnyM_take (i := 8) (oi := ⟨some 20, _, _, _, _, _⟩) (v := ?_) rfl (by kernel_rfl) (by kernel_rfl) (by kernel_rfl) (fun _ _ _ h => h) (by decide) (by kernel_rfl) (by kernel_rfl) (Or.inl ⟨by rfl, ?_⟩) (fun _ => hHeld) ?_
  rotate_left
  focus (intro wq hSq; (try dsimp only at hSq); go_simp; try with_reducible rfl)
  try simp only [Act.put, List.setIfInBounds_toArray, List.set_cons_zero, List.set_cons_succ]
  refine wpAnyM_take (i := 10) (oi := ⟨some 22, _, _, _, _, _⟩) (v := ?_) rfl (by kernel_rfl) (by kernel_rfl) (by kernel_rfl) (fun _ _ _ h => h) (by decide) (by kernel_rfl) (by kernel_rfl) (Or.inl ⟨by rfl, ?_⟩) (fun _ => hHeld) ?_
  rotate_left
  focus (intro wq hSq; (try dsimp only at hSq); go_simp; try with_reducible rfl)
  try simp only [Act.put, List.setIfInBounds_toArray, List.set_cons_zero, List.set_cons_succ]
  refine wpAnyM_take (i := 11) (oi := ⟨some 23, _, _, _, _, _⟩) (v := ?_) rfl (by kernel_rfl) (by kernel_rfl) (by kernel_rfl) (fun _ _ _ h => h) (by decide) (by kernel_rfl) (by kernel_rfl) (Or.inl ⟨by rfl, ?_⟩) (fun _ => hHeld) ?_
  rotate_left
  focus (intro wq hSq; (try dsimp only at hSq); go_simp; try with_reducible rfl)
  try simp only [Act.put, List.setIfInBounds_toArray, List.set_cons_zero, List.set_cons_succ]
  have bV1 := new_alloc V0 (.cells #[.int .i64 cb] 3)
  refine wpAnyM_ready (rs := [9]) (by kernel_rfl) (by simp) ?_
  refine AllReadyM.cons (o := ⟨some 21, _, _, _, _, _⟩) rfl (fun K hK => ?_) AllReadyM.nil
  go_simp
  refine (tof_any cb _).mono ?_
  rintro e v1 ⟨rfl, rfl⟩
  refine hK.out _ _ (fun _ => hS2.out _ (below_then up0 bV1)) (fun _ => ?_)
  clear hK K
  try simp only [Act.put, List.setIfInBounds_toArray, List.set_cons_zero, List.set_cons_succ]
  have kV1 := Blk.new V0 #[.int .i64 cb] 3
  obtain ⟨V1, zV1⟩ : ∃ V, V = V0.alloc (.cells #[.int .i64 cb] 3) := ⟨_, rfl⟩
  rw [← zV1] at bV1 kV1 ⊢
  clear zV1
  have up1 := below_then up0 bV1
  have bVj := new_alloc V1 (.cells #[.int .i64 cl, .int .i64 ch] 34)
  refine wpAnyM_ready (rs := [12]) (by kernel_rfl) (by simp) ?_
  refine AllReadyM.cons (o := ⟨some 24, _, _, _, _, _⟩) rfl (fun K hK => ?_) AllReadyM.nil
  go_simp
  refine (tjust_any cl ch _).mono ?_
  rintro e v1 ⟨rfl, rfl⟩
  refine hK.out _ _ (fun _ => hS2.out _ (below_then up1 bVj)) (fun _ => ?_)
  clear hK K
  try simp only [Act.put, List.setIfInBounds_toArray, List.set_cons_zero, List.set_cons_succ]
  have kVj := Blk.new V1 #[.int .i64 cl, .int .i64 ch] 34
  obtain ⟨Vj, zVj⟩ : ∃ V, V = V1.alloc (.cells #[.int .i64 cl, .int .i64 ch] 34) := ⟨_, rfl⟩
  rw [← zVj] at bVj kVj ⊢
  clear zVj
  have upj := below_then up1 bVj
  have kV1j := kV1.below bVj kV1.lt
  have bV2 := new_alloc Vj (.cells #[.func (.func 63) #[] #[.pointer (some ⟨V0.heap.size, 0, none⟩)], .func (.func 64) #[] #[.pointer (some ⟨V1.heap.size, 0, none⟩)]] 78)
  refine wpAnyM_ready (rs := [13]) (by kernel_rfl) (by simp) ?_
  refine AllReadyM.cons (o := ⟨some 25, _, _, _, _, _⟩) rfl (fun K hK => ?_) AllReadyM.nil
  go_simp
  refine hK.out _ _ (fun _ => hS2.out _ (below_then upj bV2)) (fun _ => ?_)
  clear hK K
  try simp only [Act.put, List.setIfInBounds_toArray, List.set_cons_zero, List.set_cons_succ]
  have qV2 := Blk.new Vj #[.func (.func 63) #[] #[.pointer (some ⟨V0.heap.size, 0, none⟩)], .func (.func 64) #[] #[.pointer (some ⟨V1.heap.size, 0, none⟩)]] 78
  obtain ⟨V2, zV2⟩ : ∃ V, V = Vj.alloc (.cells #[.func (.func 63) #[] #[.pointer (some ⟨V0.heap.size, 0, none⟩)], .func (.func 64) #[] #[.pointer (some ⟨V1.heap.size, 0, none⟩)]] 78) := ⟨_, rfl⟩
  rw [← zV2] at bV2 qV2 ⊢
  clear zV2
  have up2 := below_then upj bV2
  have hM : MeetsC V2 (.slice (some ⟨Vj.heap.size, 0, none⟩) 2 2) (keyS cb cl ch) := meets2_any Vj.heap.size V0.heap.size V1.heap.size cb cl ch V2 qV2 (kV1j.below bV2 kV1j.lt) (kVj.below bV2 kVj.lt)
  have hcw := twithout_any aH nH cH t.ho (some ⟨Vj.heap.size, 0, none⟩) 2 2 (keyS cb cl ch) V2 ((lH).below up2) (by omega) hcH hM
  clear qV2 kV1 kV1j kVj hM
  refine wpAnyM_ready (rs := [14]) (by kernel_rfl) (by simp) ?_
  refine AllReadyM.cons (o := ⟨some 26, _, _, _, _, _⟩) rfl (fun K hK => ?_) AllReadyM.nil
  go_simp
  refine hcw.mono ?_
  rintro e V3 ⟨A3, c3, rfl, hO3, bV3⟩
  have up3 := below_then up2 bV3
  have hHeld3 := hS2.out _ up3
  refine hK.out _ _ (fun _ => hHeld3) (fun _ => ?_)
  clear hK K
  try simp only [Act.put, List.setIfInBounds_toArray, List.set_cons_zero, List.set_cons_succ]
  refine wpAnyM_takeA (i := 15) (oi := ⟨some 27, _, _, _, _, _⟩) (v := ?_) rfl (by kernel_rfl) (by kernel_rfl) (by kernel_rfl) (fun _ _ _ h => h) (by decide) (Or.inl ⟨by rfl, ?_⟩) (fun _ => hHeld3) ?_
  rotate_left
  focus (intro wq hSq; go_simp; try with_reducible rfl)
  try simp only [Act.put, List.setIfInBounds_toArray, List.set_cons_zero, List.set_cons_succ]
  refine wpAnyM_takeA (i := 16) (oi := ⟨some 28, _, _, _, _, _⟩) (v := ?_) rfl (by kernel_rfl) (by kernel_rfl) (by kernel_rfl) (fun _ _ _ h => h) (by decide) (Or.inl ⟨by rfl, ?_⟩) (fun _ => hHeld3) ?_
  rotate_left
  focus (intro wq hSq; go_simp; try with_reducible rfl)
  try simp only [Act.put, List.setIfInBounds_toArray, List.set_cons_zero, List.set_cons_succ]
  refine wpAnyM_takeA (i := 17) (oi := ⟨some 29, _, _, _, _, _⟩) (v := ?_) rfl (by kernel_rfl) (by kernel_rfl) (by kernel_rfl) (fun _ _ _ h => h) (by decide) (Or.inl ⟨by rfl, ?_⟩) (fun _ => hHeld3) ?_
  rotate_left
  focus (intro wq hSq; go_simp; try with_reducible rfl)
  try simp only [Act.put, List.setIfInBounds_toArray, List.set_cons_zero, List.set_cons_succ]
  refine wpAnyM_takeA (i := 18) (oi := ⟨some 30, _, _, _, _, _⟩) (v := ?_) rfl (by kernel_rfl) (by kernel_rfl) (by kernel_rfl) (fun _ _ _ h => h) (by decide) (Or.inl ⟨by rfl, ?_⟩) (fun _ => hHeld3) ?_
  rotate_left
  focus (intro wq hSq; go_simp; try with_reducible rfl)
  try simp only [Act.put, List.setIfInBounds_toArray, List.set_cons_zero, List.set_cons_succ]
  have pw3 := HW.out.blk.below up3 HW.out.blk.lt
  have f1 := pw3.free 1
  have lp3 := pw3.lt
  refine wpAnyM_ready (rs := [19]) (by kernel_rfl) (by simp) ?_
  refine AllReadyM.cons (o := ⟨none, _, _, _, _, _⟩) rfl (fun K hK => ?_) AllReadyM.nil
  go_simp
  refine hK.out _ _ (fun h => not_yetW (by kernel_rfl) h) (fun _ => ?_)
  clear hK K
  try simp only [Act.put, List.setIfInBounds_toArray, List.set_cons_zero, List.set_cons_succ]
  refine wpAnyM_done (by kernel_rfl) ?_ _
  have HW2 := Lib.hid (HW.out.newH up3 (ow_less hO3 up2.size))
  have hb2 := (hb.trans (up3.mono HW.out.size)).setCell (p := ⟨p, 1, none⟩) (by show base ≤ p; exact HW.out.bp) (.slice A3 (notP (keyS cb cl ch) t.ho).length c3)
  have pc2 := (pc.below up3 pc.lt).other (c := p) hpb 1 (.slice A3 (notP (keyS cb cl ch) t.ho).length c3)
  clear hS2 hHeld hcw hO3 bV3 up0 up1 up2 up3 upj bV1 bV2 bVj hHeld3 pw3 f1 lp3 lb
  clear HW hb lH hcH pc
  have HW := HW2
  have hb := hb2
  have pc := pc2
  clear HW2 hb2 pc2
  obtain ⟨w2, hw2⟩ : ∃ W, W = V3.setCell ⟨p, 1, none⟩ (.slice A3 (notP (keyS cb cl ch) t.ho).length c3) := ⟨_, rfl⟩
  have hmH : (notP (keyS cb cl ch) t.ho).length ≤ nH := by rw [← hnH]; exact List.length_filter_le _ _
  obtain ⟨mH, hmH2⟩ : ∃ m, (notP (keyS cb cl ch) t.ho).length = m := ⟨_, rfl⟩
  have HMH := Lib.hid hmH2
  first | rw [← hw2] at HW hb pc ⊢ | skip
  rw [hmH2] at HW hmH ⊢
  clear hw2 hmH2
  obtain ⟨q0, q1, q2, _⟩ := work_cells HW.out.blk
  have hlp := HW.out.blk.lt
  by_cases hme : mH = nH
  · have hz : ((mH : Int) == (nH : Int)) = true := by rw [beq_iff_eq]; omega
    have HO := Lib.hid (show freeO t cb cl ch = grantT ⟨t.sl, notP (keyS cb cl ch) t.ho, notP (keyS cb cl ch) t.qu⟩ by unfold freeO; rw [if_pos (by rw [HMH.out, hnH]; exact hme)])
    go_upto_region 4 with fail
    clear q0 q1 q2 hlp hz
    have lQ : LiesH w2 w2.heap.size aQ nQ t.qu := ⟨hnQ, by have h := HW.out.own.q; rw [show (⟨t.sl, notP (keyS cb cl ch) t.ho, t.qu⟩ : TabM).qu.length = nQ from hnQ] at h; exact ow_lies h⟩
    have hcQ : aQ = none → cQ = 0 := fun h => by have h1 := HW.out.own.q; subst h; rcases h1.2 with ⟨h2, _⟩ | ⟨_, _, _, h2, _⟩ <;> simp at h2; exact h2.2
    have hS2 : Hid (∀ X, Below w2.heap.size w2 X → X.cell? ⟨p, 2, none⟩ = some (.slice aQ nQ cQ) ∧ X.cell? ⟨b, 1, none⟩ = some (.int .i64 cb) ∧ X.cell? ⟨b, 5, none⟩ = some (.int .i64 cl) ∧ X.cell? ⟨b, 6, none⟩ = some (.int .i64 ch)) := fun X h => ⟨(HW.out.blk.below h HW.out.blk.lt).cell 2 _ rfl, (pc.below h pc.lt).cell 1 _ rfl, (pc.below h pc.lt).cell 5 _ rfl, (pc.below h pc.lt).cell 6 _ rfl⟩
    obtain ⟨V0, zV0⟩ : ∃ V, V = (w2).drew := ⟨_, rfl⟩
    have up0 : Below (w2).heap.size (w2) V0 := zV0 ▸ (Below.refl _ _).drew
    have hHeld := hS2.out _ up0
    have lb : b < V0.heap.size := (pc.below up0 pc.lt).lt
    refine wp_region_to (S := (fun X => X.cell? ⟨p, 2, none⟩ = some (.slice aQ nQ cQ) ∧ X.cell? ⟨b, 1, none⟩ = some (.int .i64 cb) ∧ X.cell? ⟨b, 5, none⟩ = some (.int .i64 cl) ∧ X.cell? ⟨b, 6, none⟩ = some (.int .i64 ch))) 19 (by kernel_rfl) (by rw [← zV0]; exact hHeld) (fun _ => ?_)
    rw [← zV0]
    clear zV0
    refine wpAnyM_take (i := 0) (oi := ⟨some 40, _, _, _, _, _⟩) (v := ?_) rfl (by kernel_rfl) (by kernel_rfl) (by kernel_rfl) (fun _ _ _ h => h) (by decide) (by kernel_rfl) (by kernel_rfl) (Or.inl ⟨by rfl, ?_⟩) (fun _ => hHeld) ?_
    rotate_left
    focus (intro wq hSq; (try dsimp only at hSq); go_simp; try with_reducible rfl)
    try simp only [Act.put, List.setIfInBounds_toArray, List.set_cons_zero, List.set_cons_succ]
    refine wpAnyM_take (i := 1) (oi := ⟨some 41, _, _, _, _, _⟩) (v := ?_) rfl (by kernel_rfl) (by kernel_rfl) (by kernel_rfl) (fun _ _ _ h => h) (by decide) (by kernel_rfl) (by kernel_rfl) (Or.inl ⟨by rfl, ?_⟩) (fun _ => hHeld) ?_
    rotate_left
    focus (intro wq hSq; (try dsimp only at hSq); go_simp; try with_reducible rfl)
    try simp only [Act.put, List.setIfInBounds_toArray, List.set_cons_zero, List.set_cons_succ]
    refine wpAnyM_take (i := 2) (oi := ⟨some 42, _, _, _, _, _⟩) (v := ?_) rfl (by kernel_rfl) (by kernel_rfl) (by kernel_rfl) (fun _ _ _ h => h) (by decide) (by kernel_rfl) (by kernel_rfl) (Or.inl ⟨by rfl, ?_⟩) (fun _ => hHeld) ?_
    rotate_left
    focus (intro wq hSq; (try dsimp only at hSq); go_simp; try with_reducible rfl)
    try simp only [Act.put, List.setIfInBounds_toArray, List.set_cons_zero, List.set_cons_succ]
    refine wpAnyM_take (i := 3) (oi := ⟨some 43, _, _, _, _, _⟩) (v := ?_) rfl (by kernel_rfl) (by kernel_rfl) (by kernel_rfl) (fun _ _ _ h => h) (by decide) (by kernel_rfl) (by kernel_rfl) (Or.inl ⟨by rfl, ?_⟩) (fun _ => hHeld) ?_
    rotate_left
    focus (intro wq hSq; (try dsimp only at hSq); go_simp; try with_reducible rfl)
    try simp only [Act.put, List.setIfInBounds_toArray, List.set_cons_zero, List.set_cons_succ]
    refine wpAnyM_take (i := 4) (oi := ⟨some 44, _, _, _, _, _⟩) (v := ?_) rfl (by kernel_rfl) (by kernel_rfl) (by kernel_rfl) (fun _ _ _ h => h) (by decide) (by kernel_rfl) (by kernel_rfl) (Or.inl ⟨by rfl, ?_⟩) (fun _ => hHeld) ?_
    rotate_left
    focus (intro wq hSq; (try dsimp only at hSq); go_simp; try with_reducible rfl)
    try simp only [Act.put, List.setIfInBounds_toArray, List.set_cons_zero, List.set_cons_succ]
    refine wpAnyM_take (i := 5) (oi := ⟨some 45, _, _, _, _, _⟩) (v := ?_) rfl (by kernel_rfl) (by kernel_rfl) (by kernel_rfl) (fun _ _ _ h => h) (by decide) (by kernel_rfl) (by kernel_rfl) (Or.inl ⟨by rfl, ?_⟩) (fun _ => hHeld) ?_
    rotate_left
    focus (intro wq hSq; (try dsimp only at hSq); go_simp; try with_reducible rfl)
    try simp only [Act.put, List.setIfInBounds_toArray, List.set_cons_zero, List.set_cons_succ]
    refine wpAnyM_take (i := 6) (oi := ⟨some 46, _, _, _, _, _⟩) (v := ?_) rfl (by kernel_rfl) (by kernel_rfl) (by kernel_rfl) (fun _ _ _ h => h) (by decide) (by kernel_rfl) (by kernel_rfl) (Or.inl ⟨by rfl, ?_⟩) (fun _ => hHeld) ?_
    rotate_left
    focus (intro wq hSq; (try dsimp only at hSq); go_simp; try with_reducible rfl)
    try simp only [Act.put, List.setIfInBounds_toArray, List.set_cons_zero, List.set_cons_succ]
    refine wpAnyM_take (i := 7) (oi := ⟨some 47, _, _, _, _, _⟩) (v := ?_) rfl (by kernel_rfl) (by kernel_rfl) (by kernel_rfl) (fun _ _ _ h => h) (by decide) (by kernel_rfl) (by kernel_rfl) (Or.inl ⟨by rfl, ?_⟩) (fun _ => hHeld) ?_
    rotate_left
    focus (intro wq hSq; (try dsimp only at hSq); go_simp; try with_reducible rfl)
    try simp only [Act.put, List.setIfInBounds_toArray, List.set_cons_zero, List.set_cons_succ]
    refine wpAnyM_take (i := 8) (oi := ⟨some 48, _, _, _, _, _⟩) (v := ?_) rfl (by kernel_rfl) (by kernel_rfl) (by kernel_rfl) (fun _ _ _ h => h) (by decide) (by kernel_rfl) (by kernel_rfl) (Or.inl ⟨by rfl, ?_⟩) (fun _ => hHeld) ?_
    rotate_left
    focus (intro wq hSq; (try dsimp only at hSq); go_simp; try with_reducible rfl)
    try simp only [Act.put, List.setIfInBounds_toArray, List.set_cons_zero, List.set_cons_succ]
    refine wpAnyM_take (i := 10) (oi := ⟨some 50, _, _, _, _, _⟩) (v := ?_) rfl (by kernel_rfl) (by kernel_rfl) (by kernel_rfl) (fun _ _ _ h => h) (by decide) (by kernel_rfl) (by kernel_rfl) (Or.inl ⟨by rfl, ?_⟩) (fun _ => hHeld) ?_
    rotate_left
    focus (intro wq hSq; (try dsimp only at hSq); go_simp; try with_reducible rfl)
    try simp only [Act.put, List.setIfInBounds_toArray, List.set_cons_zero, List.set_cons_succ]
    refine wpAnyM_take (i := 11) (oi := ⟨some 51, _, _, _, _, _⟩) (v := ?_) rfl (by kernel_rfl) (by kernel_rfl) (by kernel_rfl) (fun _ _ _ h => h) (by decide) (by kernel_rfl) (by kernel_rfl) (Or.inl ⟨by rfl, ?_⟩) (fun _ => hHeld) ?_
    rotate_left
    focus (intro wq hSq; (try dsimp only at hSq); go_simp; try with_reducible rfl)
    try simp only [Act.put, List.setIfInBounds_toArray, List.set_cons_zero, List.set_cons_succ]
    have bV1 := new_alloc V0 (.cells #[.int .i64 cb] 3)
    refine wpAnyM_ready (rs := [9]) (by kernel_rfl) (by simp) ?_
    refine AllReadyM.cons (o := ⟨some 49, _, _, _, _, _⟩) rfl (fun K hK => ?_) AllReadyM.nil
    go_simp
    refine (tof_any cb _).mono ?_
    rintro e v1 ⟨rfl, rfl⟩
    refine hK.out _ _ (fun _ => hS2.out _ (below_then up0 bV1)) (fun _ => ?_)
    clear hK K
    try simp only [Act.put, List.setIfInBounds_toArray, List.set_cons_zero, List.set_cons_succ]
    have kV1 := Blk.new V0 #[.int .i64 cb] 3
    obtain ⟨V1, zV1⟩ : ∃ V, V = V0.alloc (.cells #[.int .i64 cb] 3) := ⟨_, rfl⟩
    rw [← zV1] at bV1 kV1 ⊢
    clear zV1
    have up1 := below_then up0 bV1
    have bVj := new_alloc V1 (.cells #[.int .i64 cl, .int .i64 ch] 34)
    refine wpAnyM_ready (rs := [12]) (by kernel_rfl) (by simp) ?_
    refine AllReadyM.cons (o := ⟨some 52, _, _, _, _, _⟩) rfl (fun K hK => ?_) AllReadyM.nil
    go_simp
    refine (tjust_any cl ch _).mono ?_
    rintro e v1 ⟨rfl, rfl⟩
    refine hK.out _ _ (fun _ => hS2.out _ (below_then up1 bVj)) (fun _ => ?_)
    clear hK K
    try simp only [Act.put, List.setIfInBounds_toArray, List.set_cons_zero, List.set_cons_succ]
    have kVj := Blk.new V1 #[.int .i64 cl, .int .i64 ch] 34
    obtain ⟨Vj, zVj⟩ : ∃ V, V = V1.alloc (.cells #[.int .i64 cl, .int .i64 ch] 34) := ⟨_, rfl⟩
    rw [← zVj] at bVj kVj ⊢
    clear zVj
    have upj := below_then up1 bVj
    have kV1j := kV1.below bVj kV1.lt
    have bV2 := new_alloc Vj (.cells #[.func (.func 63) #[] #[.pointer (some ⟨V0.heap.size, 0, none⟩)], .func (.func 64) #[] #[.pointer (some ⟨V1.heap.size, 0, none⟩)]] 78)
    refine wpAnyM_ready (rs := [13]) (by kernel_rfl) (by simp) ?_
    refine AllReadyM.cons (o := ⟨some 53, _, _, _, _, _⟩) rfl (fun K hK => ?_) AllReadyM.nil
    go_simp
    refine hK.out _ _ (fun _ => hS2.out _ (below_then upj bV2)) (fun _ => ?_)
    clear hK K
    try simp only [Act.put, List.setIfInBounds_toArray, List.set_cons_zero, List.set_cons_succ]
    have qV2 := Blk.new Vj #[.func (.func 63) #[] #[.pointer (some ⟨V0.heap.size, 0, none⟩)], .func (.func 64) #[] #[.pointer (some ⟨V1.heap.size, 0, none⟩)]] 78
    obtain ⟨V2, zV2⟩ : ∃ V, V = Vj.alloc (.cells #[.func (.func 63) #[] #[.pointer (some ⟨V0.heap.size, 0, none⟩)], .func (.func 64) #[] #[.pointer (some ⟨V1.heap.size, 0, none⟩)]] 78) := ⟨_, rfl⟩
    rw [← zV2] at bV2 qV2 ⊢
    clear zV2
    have up2 := below_then upj bV2
    have hM : MeetsC V2 (.slice (some ⟨Vj.heap.size, 0, none⟩) 2 2) (keyS cb cl ch) := meets2_any Vj.heap.size V0.heap.size V1.heap.size cb cl ch V2 qV2 (kV1j.below bV2 kV1j.lt) (kVj.below bV2 kVj.lt)
    have hcw := twithout_any aQ nQ cQ t.qu (some ⟨Vj.heap.size, 0, none⟩) 2 2 (keyS cb cl ch) V2 ((lQ).below up2) (by omega) hcQ hM
    clear qV2 kV1 kV1j kVj hM
    refine wpAnyM_ready (rs := [14]) (by kernel_rfl) (by simp) ?_
    refine AllReadyM.cons (o := ⟨some 54, _, _, _, _, _⟩) rfl (fun K hK => ?_) AllReadyM.nil
    go_simp
    refine hcw.mono ?_
    rintro e V3 ⟨A3, c3, rfl, hO3, bV3⟩
    have up3 := below_then up2 bV3
    have hHeld3 := hS2.out _ up3
    refine hK.out _ _ (fun _ => hHeld3) (fun _ => ?_)
    clear hK K
    try simp only [Act.put, List.setIfInBounds_toArray, List.set_cons_zero, List.set_cons_succ]
    refine wpAnyM_takeA (i := 15) (oi := ⟨some 55, _, _, _, _, _⟩) (v := ?_) rfl (by kernel_rfl) (by kernel_rfl) (by kernel_rfl) (fun _ _ _ h => h) (by decide) (Or.inl ⟨by rfl, ?_⟩) (fun _ => hHeld3) ?_
    rotate_left
    focus (intro wq hSq; go_simp; try with_reducible rfl)
    try simp only [Act.put, List.setIfInBounds_toArray, List.set_cons_zero, List.set_cons_succ]
    refine wpAnyM_takeA (i := 16) (oi := ⟨some 56, _, _, _, _, _⟩) (v := ?_) rfl (by kernel_rfl) (by kernel_rfl) (by kernel_rfl) (fun _ _ _ h => h) (by decide) (Or.inl ⟨by rfl, ?_⟩) (fun _ => hHeld3) ?_
    rotate_left
    focus (intro wq hSq; go_simp; try with_reducible rfl)
    try simp only [Act.put, List.setIfInBounds_toArray, List.set_cons_zero, List.set_cons_succ]
    refine wpAnyM_takeA (i := 17) (oi := ⟨some 57, _, _, _, _, _⟩) (v := ?_) rfl (by kernel_rfl) (by kernel_rfl) (by kernel_rfl) (fun _ _ _ h => h) (by decide) (Or.inl ⟨by rfl, ?_⟩) (fun _ => hHeld3) ?_
    rotate_left
    focus (intro wq hSq; go_simp; try with_reducible rfl)
    try simp only [Act.put, List.setIfInBounds_toArray, List.set_cons_zero, List.set_cons_succ]
    refine wpAnyM_takeA (i := 18) (oi := ⟨some 58, _, _, _, _, _⟩) (v := ?_) rfl (by kernel_rfl) (by kernel_rfl) (by kernel_rfl) (fun _ _ _ h => h) (by decide) (Or.inl ⟨by rfl, ?_⟩) (fun _ => hHeld3) ?_
    rotate_left
    focus (intro wq hSq; go_simp; try with_reducible rfl)
    try simp only [Act.put, List.setIfInBounds_toArray, List.set_cons_zero, List.set_cons_succ]
    have pw3 := HW.out.blk.below up3 HW.out.blk.lt
    have f2 := pw3.free 2
    have lp3 := pw3.lt
    refine wpAnyM_ready (rs := [19]) (by kernel_rfl) (by simp) ?_
    refine AllReadyM.cons (o := ⟨none, _, _, _, _, _⟩) rfl (fun K hK => ?_) AllReadyM.nil
    go_simp
    refine hK.out _ _ (fun h => not_yetW (by kernel_rfl) h) (fun _ => ?_)
    clear hK K
    try simp only [Act.put, List.setIfInBounds_toArray, List.set_cons_zero, List.set_cons_succ]
    refine wpAnyM_done (by kernel_rfl) ?_ _
    have HW2 := Lib.hid (HW.out.newQ up3 (ow_less hO3 up2.size))
    have hb2 := (hb.trans (up3.mono HW.out.size)).setCell (p := ⟨p, 2, none⟩) (by show base ≤ p; exact HW.out.bp) (.slice A3 (notP (keyS cb cl ch) t.qu).length c3)
    have pc2 := (pc.below up3 pc.lt).other (c := p) hpb 2 (.slice A3 (notP (keyS cb cl ch) t.qu).length c3)
    clear hS2 hHeld hcw hO3 bV3 up0 up1 up2 up3 upj bV1 bV2 bVj hHeld3 pw3 f2 lp3 lb
    clear HW hb lQ hcQ pc
    have HW := HW2
    have hb := hb2
    clear HW2 hb2 pc2
    obtain ⟨w3, hw3⟩ : ∃ W, W = V3.setCell ⟨p, 2, none⟩ (.slice A3 (notP (keyS cb cl ch) t.qu).length c3) := ⟨_, rfl⟩
    have hmQ : (notP (keyS cb cl ch) t.qu).length ≤ nQ := by rw [← hnQ]; exact List.length_filter_le _ _
    rw [← hw3] at HW hb ⊢
    clear hw3
    have hgr := Lib.hid (tgrant_any N S B P J L E T base p _ _ _ _ _ _ _ _ _ _ w3 HW.out HMH.out rfl (by show mH + (notP (keyS cb cl ch) t.qu).length ≤ 1000000; omega))
    go_wp2_with fail
    refine hgr.out.mono ?_
    rintro e w4 ⟨⟨vH4, vQ4, rfl, hW4⟩, hb4⟩
    have hbb := hb.trans hb4
    have HW4 := Lib.hid hW4
    clear hgr HW hb hb4 hW4
    go_wp2_with fail
    go_end0
    exact ⟨⟨_, _, _, rfl, by rw [HO.out]; exact HW4.out⟩, hbb⟩
  · have hz : ((mH : Int) == (nH : Int)) = false := by rw [beq_eq_false_iff_ne]; omega
    have HO := Lib.hid (show freeO t cb cl ch = grantT ⟨t.sl, notP (keyS cb cl ch) t.ho, t.qu⟩ by unfold freeO; rw [if_neg (by rw [HMH.out, hnH]; exact hme)])
    go_upto_region 5 with fail
    clear q0 q1 q2 hlp hz pc
    have hgr := Lib.hid (tgrant_any N S B P J L E T base p _ _ _ _ _ _ _ _ _ _ w2 HW.out HMH.out hnQ (by omega))
    go_wp2_with fail
    refine hgr.out.mono ?_
    rintro e w4 ⟨⟨vH4, vQ4, rfl, hW4⟩, hb4⟩
    have hbb := hb.trans hb4
    have HW4 := Lib.hid hW4
    clear hgr HW hb hb4 hW4
    go_wp2_with fail
    go_end0
    exact ⟨⟨_, _, _, rfl, by rw [HO.out]; exact HW4.out⟩, hbb⟩

end Go.Proofs.Ytjknloaolennoaa

/-
  table: what each kind of command makes of a table that may be is what it is said to come to; over plain values.
-/
namespace Go.Proofs.Ytjknloaolennoaa
open Go.RowKit
set_option linter.unusedVariables false
set_option linter.unusedSimpArgs false

def actsT (B : Int) (t : TabM) (k b s d a lo hi m : Int) : TabM :=
  if k = 0 then mountO t b else if k = 1 then leaveO t b else if k = 2 then askO B t ⟨b, ⟨lo, hi⟩, m⟩ else if k = 3 then freeO t b lo hi else if k = 4 then claimO t b d a else purgeO t b d

/-! ### Freeing: one at most is such -/
theorem notP_none {p : HoldM → Bool} {l : List HoldM} (h : l.findIdx? p = none) : notP p l = l := del_none h
theorem notP_one : ∀ {l : List HoldM} {p : HoldM → Bool} {k : Nat}, l.findIdx? p = some k → (l.Pairwise fun a b => ¬ (p a = true ∧ p b = true)) → notP p l = l.eraseIdx k
  | [], p, k, h, _ => by simp at h
  | x :: r, p, k, h, hp => by
    rw [List.pairwise_cons] at hp
    rw [List.findIdx?_cons] at h
    split at h
    · rename_i hx
      obtain rfl : 0 = k := Option.some.inj h
      unfold notP
      rw [List.filter_cons_of_neg (by simp [hx]), List.eraseIdx_cons_zero]
      refine List.filter_eq_self.2 fun y hy => ?_
      cases hpy : p y with
      | false => rfl
      | true => exact absurd ⟨hx, hpy⟩ (hp.1 y hy)
    · rename_i hx
      rw [Option.map_eq_some_iff] at h
      obtain ⟨j, hj, rfl⟩ := h
      unfold notP
      rw [List.filter_cons_of_pos (by simp [hx]), List.eraseIdx_cons_succ]
      congr 1
      exact notP_one hj hp.2
theorem erase_less {l : List HoldM} {p : HoldM → Bool} {k : Nat} (h : l.findIdx? p = some k) : (l.eraseIdx k).length ≠ l.length := by
  rw [List.findIdx?_eq_some_iff_getElem] at h
  obtain ⟨hk, _⟩ := h
  rw [List.length_eraseIdx_of_lt hk]
  omega
theorem hold_self {B : Int} {a : HoldM} {s : SpanM} (h : sHoldB B a = true) (e : a.s = s) : sOv s s = true := by
  subst e
  unfold sHoldB sMayB at h
  rw [s_ov_iff]
  simp only [Bool.and_eq_true, decide_eq_true_eq] at h
  omega
theorem free_eq {B : Int} {n : Nat} {t : TabM} (h : MayT B n t) (key lo hi : Int) : freeO t key lo hi = freeT t key ⟨lo, hi⟩ := by
  have hap : ∀ l : List HoldM, l.Sublist (t.ho ++ t.qu) → l.Pairwise fun a b => ¬ (keyS key lo hi a = true ∧ keyS key lo hi b = true) := fun l hl => by
    have h1 := h.ap.sublist hl
    refine List.Pairwise.imp_of_mem (fun {a b} ha hb hc hh => hc ?_) h1
    unfold keyS at hh
    simp only [Bool.and_eq_true, beq_iff_eq, decide_eq_true_eq] at hh
    obtain ⟨⟨h2, h3⟩, h4, h5⟩ := hh
    refine ⟨h2.trans h4.symm, ?_⟩
    rw [h3, h5]
    have hho := h.hol a (hl.subset ha)
    exact hold_self hho h3
  unfold freeO freeT
  have e1 : ∀ l, atO l key ⟨lo, hi⟩ = l.findIdx? (keyS key lo hi) := fun l => rfl
  rw [e1, e1]
  cases h1 : t.ho.findIdx? (keyS key lo hi) with
  | some k =>
    simp only
    rw [notP_one h1 (hap _ (List.sublist_append_left _ _)), if_neg (erase_less h1)]
  | none =>
    simp only
    rw [notP_none h1, if_pos rfl]
    cases h2 : t.qu.findIdx? (keyS key lo hi) with
    | some k =>
      simp only
      rw [notP_one h2 (hap _ (List.sublist_append_right _ _))]
    | none =>
      simp only
      rw [notP_none h2]
      unfold grantT
      rw [grant_id t.qu t.ho [] (by simpa using h.st)]
      rfl
theorem acts_eq {B : Int} {n : Nat} {t : TabM} (h : MayT B n t) {k : Int} (b s d a lo hi m : Int) (hk : 0 ≤ k ∧ k ≤ 5) : actsT B t k b s d a lo hi m = applyT B t ⟨k, b, s, d, a, lo, hi, m⟩ := by
  rcases (by omega : k = 0 ∨ k = 1 ∨ k = 2 ∨ k = 3 ∨ k = 4 ∨ k = 5) with rfl | rfl | rfl | rfl | rfl | rfl
  · rfl
  · rfl
  · rfl
  · exact free_eq h b lo hi
  · rfl
  · rfl

end Go.Proofs.Ytjknloaolennoaa
