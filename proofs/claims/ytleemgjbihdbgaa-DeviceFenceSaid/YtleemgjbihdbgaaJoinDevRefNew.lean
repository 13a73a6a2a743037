/- Joined: DevRefDoE, DevRefDoF, DevRefDoG, DevRefDoAll, DevDeeds, DevRefNew. -/
import Derived.Test.YtleemgjbihdbgaaJoinDevRefDoD
import Derived.Test.YtleemgjbihdbgaaJoinNumRefPut
import Derived.Test.YtleemgjbihdbgaaJoinDevActJ
import Derived.Test.YtleemgjbihdbgaaJoinDevCS
import Derived.Test.YtleemgjbihdbgaaDevNew
import Derived.Test.YtleemgjbihdbgaaFreshApp
import Derived.Test.YtleemgjbihdbgaaJoinDevRefCheckNo
/-
  The document's device: an act, kind by kind: by contract. (fencing)
-/
namespace Go.Proofs.Ytleemgjbihdbgaa
open Go.RowKit
set_option linter.unusedVariables false
set_option linter.unusedSimpArgs false

set_option maxRecDepth 100000 in
set_option maxHeartbeats 1000000 in
theorem refDo5 (B : Nat) (vS vC vK vF : Value) (f : Nat → Value) (D : Dev) (i : Nat) (s : Int) (t : ByteArray) (key : Int) (w : World) (hO : OwnD w B vS vC vK vF f D) (hB : B ≤ w.heap.size) (hm : MayD D) (hS : Small D 1099511627776) (hi : i < D.K.length) (ha : ActBd ⟨5, s, t, key⟩) (htm : t.size ≤ maxLen) :
    Calls Try.prog 14 #[.agg #[vS, vC, vK, .int .i64 D.n, vF], .int .i64 (i : Int), .agg #[.int .i8 5, .int .i64 s, .string t, .int .i64 key]] w (RAct B (doD D (i : Int) ⟨5, s, t, key⟩) (doS D (i : Int) ⟨5, s, t, key⟩) (refE D (i : Int) ⟨5, s, t, key⟩) w) := by
  obtain ⟨aS, cS, aC, cC, aK, cK, aF, cF, rfl, rfl, rfl, rfl⟩ := own_shapes hO
  obtain ⟨gk, capk, hgk, hgkB, hgkl, _, _⟩ := own_key hO hi
  obtain ⟨rfl, rfl⟩ : aK = some ⟨gk, 0, none⟩ ∧ cK = capk := by injection hgk with e1 _ e2; exact ⟨e1, e2⟩
  clear hgk
  obtain ⟨W0, hW⟩ : ∃ W0, W0 = ((w.alloc (.cells #[.slice aS D.S.length cS, .slice aC D.C.length cC, .slice (some ⟨gk, 0, none⟩) D.K.length cK, .int .i64 D.n, .slice aF D.F.length cF] 29)).alloc (.cells #[.int .i8 5, .int .i64 s, .string t, .int .i64 key] 38)).alloc (.cells #[.slice none 0 0, .slice none 0 0, .slice none 0 0, .int .i64 0, .slice none 0 0] 29) := ⟨_, rfl⟩
  obtain ⟨b, hbe⟩ : ∃ b, w.heap.size = b := ⟨_, rfl⟩
  have hb0 : Below b w W0 := by rw [hW]; exact (((Below.refl _ _).alloc (by omega) _).alloc (by simp; omega) _).alloc (by simp; omega) _
  have p0 : Blk W0 b #[.slice aS D.S.length cS, .slice aC D.C.length cC, .slice (some ⟨gk, 0, none⟩) D.K.length cK, .int .i64 D.n, .slice aF D.F.length cF] 29 := by rw [hW, ← hbe]; exact ((Blk.new w _ _).alloc _).alloc _
  have m0 : Blk W0 (b + 1) #[.int .i8 5, .int .i64 s, .string t, .int .i64 key] 38 := by
    have h1 := (Blk.new (w.alloc (.cells #[.slice aS D.S.length cS, .slice aC D.C.length cC, .slice (some ⟨gk, 0, none⟩) D.K.length cK, .int .i64 D.n, .slice aF D.F.length cF] 29)) #[.int .i8 5, .int .i64 s, .string t, .int .i64 key] 38).alloc (.cells #[.slice none 0 0, .slice none 0 0, .slice none 0 0, .int .i64 0, .slice none 0 0] 29)
    rw [hW, ← hbe]
    simpa using h1
  have r0 : Blk W0 (b + 1 + 1) #[.slice none 0 0, .slice none 0 0, .slice none 0 0, .int .i64 0, .slice none 0 0] 29 := by
    have h1 := Blk.new ((w.alloc (.cells #[.slice aS D.S.length cS, .slice aC D.C.length cC, .slice (some ⟨gk, 0, none⟩) D.K.length cK, .int .i64 D.n, .slice aF D.F.length cF] 29)).alloc (.cells #[.int .i8 5, .int .i64 s, .string t, .int .i64 key] 38)) #[.slice none 0 0, .slice none 0 0, .slice none 0 0, .int .i64 0, .slice none 0 0] 29
    rw [hW, ← hbe]
    simpa using h1
  have hO0 := hO.up (hbe ▸ hb0)
  have hsz : W0.heap.size = b + 3 := by rw [hW, ← hbe]; simp
  have hc := refCheck_yes _ D W0 hO0.dev hm hS.s
  have HCK := Lib.hid hm.ck
  have HBB : Hid (B ≤ b) := hbe ▸ hB
  have HSS := Lib.hid hS
  have HMM := Lib.hid hm
  have HHI := Lib.hid hi
  have HAB := Lib.hid ha
  unfold maxLen at htm
  clear hO hm hB ha
  obtain ⟨q0, q1, q2, q3, q4⟩ := five_cells p0
  obtain ⟨y0, y1, y2, y3⟩ := act_cells m0
  have t1 : decide ((i : Int) < 0) = false := decide_eq_false (by omega)
  have t2 : decide ((D.K.length : Int) ≤ (i : Int)) = false := decide_eq_false (by omega)
  go_enter Try.func14, Try.ntmps14
  go_wp2_with fail
  rw [← hW]
  clear hW
  refine hc.mono ?_
  rintro e w1 ⟨rfl, hc1⟩
  have p1 := p0.below hc1 p0.lt
  have m1 := m0.below hc1 m0.lt
  have r1 := r0.below hc1 r0.lt
  have hO1 := hO0.up hc1
  have hs1 := hc1.size
  have hb1 := hb0.trans (hc1.mono (by omega))
  clear q0 q1 q2 q3 q4 y0 y1 y2 y3 p0 m0 r0 hb0 hO0 hc1 hc
  obtain ⟨q0, q1, q2, q3, q4⟩ := five_cells p1
  obtain ⟨y0, y1, y2, y3⟩ := act_cells m1
  have hgv := refGiven_any _ D key w1.heap.size w1 hO1.dev HAB.out.e0 HAB.out.e1
  obtain ⟨G, hG⟩ : ∃ G, decide (Given D.K.length D.n key) = G := ⟨_, rfl⟩
  rw [hG] at hgv
  have HG := Lib.hid hG
  clear hG
  go_wp2_with fail
  refine hgv.mono ?_
  rintro e w2 ⟨rfl, hc2⟩
  clear hgv
  have p2 := p1.below hc2 p1.lt
  have m2 := m1.below hc2 m1.lt
  have r2 := r1.below hc2 r1.lt
  have hO2 := hO1.up hc2
  have hs2 := hc2.size
  have hb2 := hb1.trans (hc2.mono (by omega))
  clear q0 q1 q2 q3 q4 y0 y1 y2 y3 p1 m1 r1 hb1 hO1 hc2
  obtain ⟨q0, q1, q2, q3, q4⟩ := five_cells p2
  obtain ⟨y0, y1, y2, y3⟩ := act_cells m2
  cases G with
  | false =>
    have hng : ¬ Given D.K.length D.n key := of_decide_eq_false HG.out
    have HX : Hid (doD D (i : Int) ⟨5, s, t, key⟩ = D ∧ doS D (i : Int) ⟨5, s, t, key⟩ = ⟨#[]⟩ ∧ refE D (i : Int) ⟨5, s, t, key⟩ = 2) := do_is HHI.out (by simp [actE, hng]) (by decide)
    obtain ⟨z0, z1, z2, z3, z4⟩ := five_cells r2
    obtain ⟨f0, f1, f2, f3, f4⟩ := five_free r2
    have H1 := Lib.hid (into5_range r2 rfl (.slice aS D.S.length cS) (.slice aC D.C.length cC) (.slice (some ⟨gk, 0, none⟩) D.K.length cK) D.n (.slice aF D.F.length cF))
    have H2 := Lib.hid (into5_other hO2 r2 (by decide) (by decide) (by decide) (by decide) (.slice aS D.S.length cS) (.slice aC D.C.length cC) (.slice (some ⟨gk, 0, none⟩) D.K.length cK) D.n (.slice aF D.F.length cF))
    have H3 := Lib.hid (into5_below hb2 (show b ≤ b + 1 + 1 by omega) (.slice aS D.S.length cS) (.slice aC D.C.length cC) (.slice (some ⟨gk, 0, none⟩) D.K.length cK) D.n (.slice aF D.F.length cF))
    clear hO2 p2 m2 r2 hb2
    go_wp2_with fail
    refine bodyPost_ret (results_c3 (cs := [.slice aS D.S.length cS, .slice aC D.C.length cC, .slice (some ⟨gk, 0, none⟩) D.K.length cK, .int .i64 D.n, .slice aF D.F.length cF]) Try.results14 (by rfl) (by rfl) (by rfl) H1.out Try.underlying29 rfl (by kernel_rfl)) rfl ?_
    rw [HX.out.1, HX.out.2.1, HX.out.2.2]
    exact rAct_of H2.out (by rw [hbe]; exact H3.out) rfl
  | true =>
    have hG2 : Given D.K.length D.n key := of_decide_eq_true HG.out
    have HGV := Lib.hid hG2
    clear hG2 HG
    have hkc : w2.cell? ⟨gk, i, none⟩ = some (.int .i64 (D.K[i]'hi)) := by
      rw [hO2.k.cellAt i (by omega), List.getElem?_map, List.getElem?_eq_getElem hi]
      rfl
    obtain ⟨F, hF⟩ : ∃ F, fencedK D (D.K[i]'hi) = F := ⟨_, rfl⟩
    have HFE : Hid (fencedAny D.F [D.K[i]'hi] = F) := (fencedAny_one D _).trans hF
    have HKE : Hid (fencedK D (keyOf D i) = F) := by show _ = _; unfold keyOf; rw [List.getD, List.getElem?_eq_getElem hi]; exact hF
    clear hF
    obtain ⟨WA, hWA⟩ : ∃ WA, WA = (w2.alloc (.cells #[.int .i64 (D.K[i]'hi)] 3)).drew := ⟨_, rfl⟩
    have hbA : Below w2.heap.size w2 WA := by rw [hWA]; exact (below_alloc w2 _).drew
    have hgl : gk < w2.heap.size := by omega
    have hkeep : ∀ wx : World, Below w2.heap.size w2 wx → (wx.cell? ⟨b, 0, none⟩ = some (.slice aS D.S.length cS) ∧ wx.cell? ⟨b, 1, none⟩ = some (.slice aC D.C.length cC) ∧ wx.cell? ⟨b, 2, none⟩ = some (.slice (some ⟨gk, 0, none⟩) D.K.length cK) ∧ wx.cell? ⟨b, 3, none⟩ = some (.int .i64 D.n) ∧ wx.cell? ⟨b, 4, none⟩ = some (.slice aF D.F.length cF) ∧ wx.cell? ⟨gk, i, none⟩ = some (.int .i64 (D.K[i]'hi)) ∧ wx.cell? ⟨b + 1, 0, none⟩ = some (.int .i8 5)) := fun wx hx => by
      obtain ⟨n0, n1, n2, n3, n4⟩ := five_cells (p2.below hx p2.lt)
      exact ⟨n0, n1, n2, n3, n4, (hx.cell (p := ⟨gk, i, none⟩) hgl).trans hkc, (m2.below hx m2.lt).cell 0 _ rfl⟩
    have HWA0 : Hid (((w2.alloc (.cells #[.int .i64 (D.K[i]'hi)] 3)).drew).cell? ⟨b, 0, none⟩ = some (.slice aS D.S.length cS) ∧ ((w2.alloc (.cells #[.int .i64 (D.K[i]'hi)] 3)).drew).cell? ⟨b, 1, none⟩ = some (.slice aC D.C.length cC) ∧ ((w2.alloc (.cells #[.int .i64 (D.K[i]'hi)] 3)).drew).cell? ⟨b, 2, none⟩ = some (.slice (some ⟨gk, 0, none⟩) D.K.length cK) ∧ ((w2.alloc (.cells #[.int .i64 (D.K[i]'hi)] 3)).drew).cell? ⟨b, 3, none⟩ = some (.int .i64 D.n) ∧ ((w2.alloc (.cells #[.int .i64 (D.K[i]'hi)] 3)).drew).cell? ⟨b, 4, none⟩ = some (.slice aF D.F.length cF) ∧ ((w2.alloc (.cells #[.int .i64 (D.K[i]'hi)] 3)).drew).cell? ⟨gk, i, none⟩ = some (.int .i64 (D.K[i]'hi)) ∧ ((w2.alloc (.cells #[.int .i64 (D.K[i]'hi)] 3)).drew).cell? ⟨b + 1, 0, none⟩ = some (.int .i8 5)) := hkeep _ ((below_alloc w2 _).drew)
    have hlA : Lies WA WA.heap.size (some ⟨w2.heap.size, 0, none⟩) 1 ([D.K[i]'hi].map (Value.int .i64)) := by
      have h : WA.ownsRow w2.heap.size 3 1 (.slice (some ⟨w2.heap.size, 0, none⟩) 1 1) 1 [.int .i64 (D.K[i]'hi)] := by rw [hWA]; exact own_up (World.ownsRow_lit w2 #[.int .i64 (D.K[i]'hi)] 1 (Nat.le_refl _) (by decide) rfl) ((Below.refl _ _).drew)
      exact Lies.of_own h
    have hcall := refFenced_any _ D (some ⟨w2.heap.size, 0, none⟩) 1 1 [D.K[i]'hi] WA (hO2.up hbA).dev hlA rfl (by decide)
    rw [HFE.out] at hcall
    have i0 : (0 : Int) ≤ (i : Int) := by omega
    have i2 : (i : Int) < (D.K.length : Int) := by omega
    clear hlA
    go_wp2_with fail
    refine wp_region_held_drew (S := (fun w' => w'.cell? ⟨b, 0, none⟩ = some (.slice aS D.S.length cS) ∧ w'.cell? ⟨b, 1, none⟩ = some (.slice aC D.C.length cC) ∧ w'.cell? ⟨b, 2, none⟩ = some (.slice (some ⟨gk, 0, none⟩) D.K.length cK) ∧ w'.cell? ⟨b, 3, none⟩ = some (.int .i64 D.n) ∧ w'.cell? ⟨b, 4, none⟩ = some (.slice aF D.F.length cF) ∧ w'.cell? ⟨gk, i, none⟩ = some (.int .i64 (D.K[i]'hi)) ∧ w'.cell? ⟨b + 1, 0, none⟩ = some (.int .i8 5))) (by kernel_rfl) ?_ (fun hHeld => ?_)
    focus (exact ⟨q0, q1, q2, q3, q4, hkc, y0⟩)
    refine wpAnyH_take (i := 0) (oi := ⟨some 78, _, _, _, _, _⟩) (v := ?_) rfl (by kernel_rfl) (by kernel_rfl) (by kernel_rfl) (fun _ _ _ h => h) (Or.inl ⟨by rfl, ?_⟩) (by assumption) ?_
    rotate_left
    focus (intro wq hSq; (try dsimp only at hSq); go_simp; try with_reducible rfl)
    try simp only [Act.put, List.setIfInBounds_toArray, List.set_cons_zero, List.set_cons_succ]
    refine wpAnyH_take (i := 1) (oi := ⟨some 79, _, _, _, _, _⟩) (v := ?_) rfl (by kernel_rfl) (by kernel_rfl) (by kernel_rfl) (fun _ _ _ h => h) (Or.inl ⟨by rfl, ?_⟩) (by assumption) ?_
    rotate_left
    focus (intro wq hSq; (try dsimp only at hSq); go_simp; try with_reducible rfl)
    try simp only [Act.put, List.setIfInBounds_toArray, List.set_cons_zero, List.set_cons_succ]
    refine wpAnyH_take (i := 2) (oi := ⟨some 80, _, _, _, _, _⟩) (v := ?_) rfl (by kernel_rfl) (by kernel_rfl) (by kernel_rfl) (fun _ _ _ h => h) (Or.inl ⟨by rfl, ?_⟩) (by assumption) ?_
    rotate_left
    focus (intro wq hSq; (try dsimp only at hSq); go_simp; try with_reducible rfl)
    try simp only [Act.put, List.setIfInBounds_toArray, List.set_cons_zero, List.set_cons_succ]
    refine wpAnyH_take (i := 3) (oi := ⟨some 81, _, _, _, _, _⟩) (v := ?_) rfl (by kernel_rfl) (by kernel_rfl) (by kernel_rfl) (fun _ _ _ h => h) (Or.inl ⟨by rfl, ?_⟩) (by assumption) ?_
    rotate_left
    focus (intro wq hSq; (try dsimp only at hSq); go_simp; try with_reducible rfl)
    try simp only [Act.put, List.setIfInBounds_toArray, List.set_cons_zero, List.set_cons_succ]
    refine wpAnyH_take (i := 4) (oi := ⟨some 82, _, _, _, _, _⟩) (v := ?_) rfl (by kernel_rfl) (by kernel_rfl) (by kernel_rfl) (fun _ _ _ h => h) (Or.inl ⟨by rfl, ?_⟩) (by assumption) ?_
    rotate_left
    focus (intro wq hSq; (try dsimp only at hSq); go_simp; try with_reducible rfl)
    try simp only [Act.put, List.setIfInBounds_toArray, List.set_cons_zero, List.set_cons_succ]
    refine wpAnyH_take (i := 5) (oi := ⟨some 83, _, _, _, _, _⟩) (v := ?_) rfl (by kernel_rfl) (by kernel_rfl) (by kernel_rfl) (fun _ _ _ h => h) (Or.inl ⟨by rfl, ?_⟩) (by assumption) ?_
    rotate_left
    focus (intro wq hSq; (try dsimp only at hSq); go_simp; try with_reducible rfl)
    try simp only [Act.put, List.setIfInBounds_toArray, List.set_cons_zero, List.set_cons_succ]
    refine wpAnyH_take (i := 6) (oi := ⟨some 84, _, _, _, _, _⟩) (v := ?_) rfl (by kernel_rfl) (by kernel_rfl) (by kernel_rfl) (fun _ _ _ h => h) (Or.inl ⟨by rfl, ?_⟩) (by assumption) ?_
    rotate_left
    focus (intro wq hSq; (try dsimp only at hSq); go_simp; try with_reducible rfl)
    try simp only [Act.put, List.setIfInBounds_toArray, List.set_cons_zero, List.set_cons_succ]
    refine wpAnyH_take (i := 7) (oi := ⟨some 85, _, _, _, _, _⟩) (v := ?_) rfl (by kernel_rfl) (by kernel_rfl) (by kernel_rfl) (fun _ _ _ h => h) (Or.inl ⟨by rfl, ?_⟩) (by assumption) ?_
    rotate_left
    focus (intro wq hSq; (try dsimp only at hSq); go_simp; try with_reducible rfl)
    try simp only [Act.put, List.setIfInBounds_toArray, List.set_cons_zero, List.set_cons_succ]
    refine wpAnyH_take (i := 8) (oi := ⟨some 86, _, _, _, _, _⟩) (v := ?_) rfl (by kernel_rfl) (by kernel_rfl) (by kernel_rfl) (fun _ _ _ h => h) (Or.inl ⟨by rfl, ?_⟩) (by assumption) ?_
    rotate_left
    focus (intro wq hSq; (try dsimp only at hSq); go_simp; try with_reducible rfl)
    try simp only [Act.put, List.setIfInBounds_toArray, List.set_cons_zero, List.set_cons_succ]
    refine wpAnyH_take (i := 9) (oi := ⟨some 87, _, _, _, _, _⟩) (v := ?_) rfl (by kernel_rfl) (by kernel_rfl) (by kernel_rfl) (fun _ _ _ h => h) (Or.inl ⟨by rfl, ?_⟩) (by assumption) ?_
    rotate_left
    focus (intro wq hSq; (try dsimp only at hSq); go_simp; try with_reducible rfl)
    try simp only [Act.put, List.setIfInBounds_toArray, List.set_cons_zero, List.set_cons_succ]
    refine wpAnyH_ready (rs := [10]) (by kernel_rfl) (by simp) ?_
    refine AllReadyH.cons (o := ⟨some 88, _, _, _, _, _⟩) rfl (fun K hK => ?_) AllReadyH.nil
    go_simp
    refine hK.out _ _ ?_ (fun hHeld => ?_)
    focus (exact HWA0.out)
    clear hK K
    try simp only [Act.put, List.setIfInBounds_toArray, List.set_cons_zero, List.set_cons_succ]
    rw [← hWA]
    clear hWA HWA0
    refine wpAnyH_ready (rs := [11]) (by kernel_rfl) (by simp) ?_
    refine AllReadyH.cons (o := ⟨some 89, _, _, _, _, _⟩) rfl (fun K hK => ?_) AllReadyH.nil
    go_simp
    refine hcall.mono ?_
    rintro e w4 ⟨rfl, hb4⟩
    have hc4 := hbA.trans (hb4.mono hbA.size)
    have HS4 := Lib.hid (hkeep w4 hc4)
    clear hcall hb4 hbA hkeep
    go_wp2_with fail
    refine hK.out _ _ ?_ (fun hHeld => ?_)
    focus (exact HS4.out)
    clear hK K
    try simp only [Act.put, List.setIfInBounds_toArray, List.set_cons_zero, List.set_cons_succ]
    refine wpAnyH_take (i := 12) (oi := ⟨some 90, _, _, _, _, _⟩) (v := ?_) rfl (by kernel_rfl) (by kernel_rfl) (by kernel_rfl) (fun _ _ _ h => h) (Or.inl ⟨by rfl, ?_⟩) (by assumption) ?_
    rotate_left
    focus (intro wq hSq; (try dsimp only at hSq); go_simp; try with_reducible rfl)
    try simp only [Act.put, List.setIfInBounds_toArray, List.set_cons_zero, List.set_cons_succ]
    refine wpAnyH_done (by kernel_rfl) ?_ _
    clear HS4 hkc
    have p4 := p2.below hc4 p2.lt
    have m4 := m2.below hc4 m2.lt
    have r4 := r2.below hc4 r2.lt
    have hO4 := hO2.up hc4
    have hs4 := hc4.size
    have hb4 := hb2.trans (hc4.mono (by omega))
    clear q0 q1 q2 q3 q4 y0 y1 y2 y3 p2 m2 r2 hb2 hO2 hc4
    obtain ⟨q0, q1, q2, q3, q4⟩ := five_cells p4
    obtain ⟨y0, y1, y2, y3⟩ := act_cells m4
    cases F with
    | true =>
      have HX : Hid (doD D (i : Int) ⟨5, s, t, key⟩ = D ∧ doS D (i : Int) ⟨5, s, t, key⟩ = ⟨#[]⟩ ∧ refE D (i : Int) ⟨5, s, t, key⟩ = 61) := do_is HHI.out (by simp [actE, HKE.out, HGV.out]) (by decide)
      obtain ⟨z0, z1, z2, z3, z4⟩ := five_cells r4
      obtain ⟨f0, f1, f2, f3, f4⟩ := five_free r4
      have H1 := Lib.hid (into5_range r4 rfl (.slice aS D.S.length cS) (.slice aC D.C.length cC) (.slice (some ⟨gk, 0, none⟩) D.K.length cK) D.n (.slice aF D.F.length cF))
      have H2 := Lib.hid (into5_other hO4 r4 (by decide) (by decide) (by decide) (by decide) (.slice aS D.S.length cS) (.slice aC D.C.length cC) (.slice (some ⟨gk, 0, none⟩) D.K.length cK) D.n (.slice aF D.F.length cF))
      have H3 := Lib.hid (into5_below hb4 (show b ≤ b + 1 + 1 by omega) (.slice aS D.S.length cS) (.slice aC D.C.length cC) (.slice (some ⟨gk, 0, none⟩) D.K.length cK) D.n (.slice aF D.F.length cF))
      clear hO4 p4 m4 r4 hb4
      go_wp2_with fail
      refine bodyPost_ret (results_c3 (cs := [.slice aS D.S.length cS, .slice aC D.C.length cC, .slice (some ⟨gk, 0, none⟩) D.K.length cK, .int .i64 D.n, .slice aF D.F.length cF]) Try.results14 (by rfl) (by rfl) (by rfl) H1.out Try.underlying29 rfl (by kernel_rfl)) rfl ?_
      rw [HX.out.1, HX.out.2.1, HX.out.2.2]
      exact rAct_of H2.out (by rw [hbe]; exact H3.out) rfl
    | false =>
      have HOK : Hid (doD D (i : Int) ⟨5, s, t, key⟩ = fencesD D key ∧ doS D (i : Int) ⟨5, s, t, key⟩ = ⟨#[]⟩ ∧ refE D (i : Int) ⟨5, s, t, key⟩ = 0) := by
        have h0 : actE D i ⟨5, s, t, key⟩ = 0 := by simp [actE, HKE.out, HGV.out]
        obtain ⟨h1, h2, h3⟩ := do_ok HHI.out h0
        refine ⟨?_, ?_, h3⟩
        · rw [h1]; simp [actD, h0]
        · rw [h2]; simp [actS, h0]
      have hcp := refCopied_any _ D w4 hO4.dev HSS.out
      have HOUTN : Hid (B ≤ w4.heap.size ∧ b + 3 ≤ w4.heap.size) := by have := HBB.out; show _ ∧ _; omega
      go_wp2_with fail
      refine hcp.mono ?_
      rintro e w5 ⟨uS, uC, uK, uF, g, rfl, hN5, hc5⟩
      clear hcp
      obtain ⟨xS, yS, xC, yC, xK, yK, xF, yF, rfl, rfl, rfl, rfl⟩ := own_shapes hN5
      have hic : i < D.C.length := by have := HCK.out; omega
      obtain ⟨gc, capc, a, c, hgc, hgi, hgcB, hgcl, hcc, hcf, hlc, hcm⟩ := own_cache hN5 hic
      obtain ⟨rfl, rfl⟩ : xC = some ⟨gc, 0, none⟩ ∧ yC = capc := by injection hgc with e1 _ e2; exact ⟨e1, e2⟩
      obtain ⟨hk, caph, hhk, hhkB, hhkl, _, _⟩ := own_key hN5 hi
      obtain ⟨rfl, rfl⟩ : xK = some ⟨hk, 0, none⟩ ∧ yK = caph := by injection hhk with e1 _ e2; exact ⟨e1, e2⟩
      clear hgc hhk
      have p5 := p4.below hc5 p4.lt
      have m5 := m4.below hc5 m4.lt
      have r5 := r4.below hc5 r4.lt
      have hO5 := hO4.up hc5
      have hs5 := hc5.size
      have hb5 := hb4.trans (hc5.mono (by omega))
      clear q0 q1 q2 q3 q4 y0 y1 y2 y3 p4 m4 r4 hb4 hO4 hc5
      obtain ⟨q0, q1, q2, q3, q4⟩ := five_cells p5
      obtain ⟨y0, y1, y2, y3⟩ := act_cells m5
      obtain ⟨w6, hw6⟩ : ∃ W, W = w5.alloc (.cells #[.slice xS D.S.length yS, .slice (some ⟨gc, 0, none⟩) D.C.length yC, .slice (some ⟨hk, 0, none⟩) D.K.length yK, .int .i64 D.n, .slice xF D.F.length yF] 29) := ⟨_, rfl⟩
      have hc6 : Below w5.heap.size w5 w6 := hw6 ▸ below_alloc w5 _
      have R6 : Blk w6 w5.heap.size #[.slice xS D.S.length yS, .slice (some ⟨gc, 0, none⟩) D.C.length yC, .slice (some ⟨hk, 0, none⟩) D.K.length yK, .int .i64 D.n, .slice xF D.F.length yF] 29 := hw6 ▸ Blk.new w5 _ _
      have hN6 := hN5.up hc6
      have hcc6 : w6.cell? ⟨gc, i, none⟩ = some (.slice a (cacheOf D i).length c) := (hc6.cell (p := ⟨gc, i, none⟩) hgcl).trans hcc
      have hcf6 : w6.frozen? ⟨gc, i, none⟩ = false := hN6.c.frozenAt i
      have HR6 : Hid (w5.heap.size < w6.heap.size) := by show _ < _; rw [hw6]; simp
      have HGI := Lib.hid hgi
      have HGC : Hid (w4.heap.size ≤ gc ∧ gc < w5.heap.size) := ⟨hgcB, hgcl⟩
      have HHK : Hid (w4.heap.size ≤ hk ∧ hk < w5.heap.size) := ⟨hhkB, hhkl⟩
      have HMC := Lib.hid hcm
      have HLC0 := hlc
      obtain ⟨l, hl⟩ : ∃ l, cacheOf D i = l := ⟨_, rfl⟩
      have HL := Lib.hid hl
      have HCO : Hid (CacheOk l D.S.length) := by show CacheOk l _; rw [← hl]; exact cache_ok HMM.out i
      rw [hl] at hcc hcc6 hlc HGI
      obtain ⟨nl, hnl⟩ : ∃ n, l.length = n := ⟨_, rfl⟩
      have HN := Lib.hid hnl
      rw [hnl] at hcc hcc6 hlc HGI
      have hA6 : Lies w6 w6.heap.size a (nl * 2) (celV l) := by
        have h := hN6.cs i hic
        rw [HGI.out, show D.C.getD i [] = l from HL.out, HN.out] at h
        exact lies_own2 h
      have hpl := refPlace_any a nl c l s w6.heap.size w6 hA6 HN.out (by have := HMC.out; omega)
      have HS2 : Hid (nl ≤ 1099511627776) := by
        show nl ≤ _
        rw [← HN.out, ← HL.out]
        exact HSS.out.cs _ (by unfold cacheOf; rw [List.getD, List.getElem?_eq_getElem hic]; exact List.getElem_mem hic)
      have i0 : (0 : Int) ≤ (i : Int) := by omega
      have i1 : (i : Int) < (D.C.length : Int) := by omega
      have hcl := hgcl
      have hbl1 : b + 1 < w5.heap.size := by have := HOUTN.out; omega
      have hbl2 : b + 1 + 1 < w5.heap.size := by have := HOUTN.out; omega
      have HLC := Lib.hid hlc
      clear hl hnl hgi hcf hN5 hcm hlc HLC0
      go_wp2_with fail
      rw [← hw6]
      refine hpl.mono ?_
      rintro e w7 ⟨rfl, rfl⟩
      clear hpl hcc hw6 hcl hgcB hgcl hhkB hhkl
      have p6 := p5.below hc6 p5.lt
      have m6 := m5.below hc6 m5.lt
      have r6 := r5.below hc6 r5.lt
      have hO6 := hO5.up hc6
      have hs6 := hc6.size
      have hb6 := hb5.trans (hc6.mono (by omega))
      clear q0 q1 q2 q3 q4 y0 y1 y2 y3 p5 m5 r5 hb5 hO5 hc6
      obtain ⟨q0, q1, q2, q3, q4⟩ := five_cells p6
      obtain ⟨y0, y1, y2, y3⟩ := act_cells m6
      have HFL : Hid (fencesD D key = { D with F := fenceD D.F key }) := rfl
      rw [HFL.out] at HOK
      have hF6 : Lies w6 w6.heap.size xF D.F.length (D.F.map (Value.int .i64)) := Lies.of_own hN6.ff
      have hfc := refFence_any xF D.F.length yF D.F key w6 hF6 rfl HSS.out.f
      have hg6 : w5.heap.size ≠ b + 1 + 1 := by omega
      have x6 := five_cells R6
      obtain ⟨x0, x1, x2, x3, x4⟩ := x6
      go_wp2_with fail
      refine hfc.mono ?_
      rintro e w7 ⟨v', rfl, hu, hc7⟩
      clear hfc
      obtain ⟨A', c2, rfl, _, _⟩ := own_shape2 hu
      have hN7 := hN6.up hc7
      have R7 := R6.below hc7 R6.lt
      have r7 := r6.below hc7 r6.lt
      have hs7 := hc7.size
      have hb7 := hb6.trans (hc7.mono (by have := HR6.out; have := HOUTN.out; omega))
      have hN8 : OwnD (w7.setCell ⟨w5.heap.size, 4, none⟩ (.slice A' (fenceD D.F key).length c2)) w4.heap.size (.slice xS D.S.length yS) (.slice (some ⟨gc, 0, none⟩) D.C.length yC) (.slice (some ⟨hk, 0, none⟩) D.K.length yK) (.slice A' (fenceD D.F key).length c2) g { D with F := fenceD D.F key } := by
        have h1 : OwnD w7 w4.heap.size (.slice xS D.S.length yS) (.slice (some ⟨gc, 0, none⟩) D.C.length yC) (.slice (some ⟨hk, 0, none⟩) D.K.length yK) (.slice A' (fenceD D.F key).length c2) g { D with F := fenceD D.F key } := ⟨hN7.s, hN7.c, hN7.k, own_less hu (by have := HR6.out; have := HOUTN.out; omega), hN7.cs, fun x h2 h3 => by
          have z1 := (hu.lt x h3).1
          have z2 := (hN6.k.lt x h2).2
          omega, hN7.cc⟩
        exact h1.other R7 (by decide) (by decide) (by decide) (by decide) 4 _
      have R8 := R7.set 4 (.slice A' (fenceD D.F key).length c2)
      have r8 := r7.other (c := w5.heap.size) (by omega) 4 (.slice A' (fenceD D.F key).length c2)
      have hb8 := hb7.setCell (p := ⟨w5.heap.size, 4, none⟩) (show b ≤ w5.heap.size by omega) (.slice A' (fenceD D.F key).length c2)
      have R8' : Blk (w7.setCell ⟨w5.heap.size, 4, none⟩ (.slice A' (fenceD D.F key).length c2)) w5.heap.size #[.slice xS D.S.length yS, .slice (some ⟨gc, 0, none⟩) D.C.length yC, .slice (some ⟨hk, 0, none⟩) D.K.length yK, .int .i64 D.n, .slice A' (fenceD D.F key).length c2] 29 := R8
      obtain ⟨u0, u1, u2, u3, u4⟩ := five_cells R7
      have u5 := R7.free 4
      clear x0 x1 x2 x3 x4 q0 q1 q2 q3 q4 y0 y1 y2 y3 hN7 hN6 hu R7 R8 r7 hb7 R6 r6 hb6 hc7 p6 m6 hO6 hA6 hF6
      obtain ⟨x0, x1, x2, x3, x4⟩ := five_cells R8'
      obtain ⟨z0, z1, z2, z3, z4⟩ := five_cells r8
      obtain ⟨f0, f1, f2, f3, f4⟩ := five_free r8
      have H1 := Lib.hid (into5_range r8 rfl (.slice xS D.S.length yS) (.slice (some ⟨gc, 0, none⟩) D.C.length yC) (.slice (some ⟨hk, 0, none⟩) D.K.length yK) (D.n) (.slice A' (fenceD D.F key).length c2))
      have H2 := Lib.hid (OwnD.less (B' := B) (into5_other hN8 r8 (by decide) (by decide) (by decide) (by decide) (.slice xS D.S.length yS) (.slice (some ⟨gc, 0, none⟩) D.C.length yC) (.slice (some ⟨hk, 0, none⟩) D.K.length yK) (D.n) (.slice A' (fenceD D.F key).length c2)) (by have := HOUTN.out; omega))
      have H3 := Lib.hid (into5_below hb8 (show b ≤ b + 1 + 1 by omega) (.slice xS D.S.length yS) (.slice (some ⟨gc, 0, none⟩) D.C.length yC) (.slice (some ⟨hk, 0, none⟩) D.K.length yK) (D.n) (.slice A' (fenceD D.F key).length c2))
      clear R8' r8 hb8 hN8 
      go_wp2_with fail
      refine bodyPost_ret (results_c3 (cs := [.slice xS D.S.length yS, .slice (some ⟨gc, 0, none⟩) D.C.length yC, .slice (some ⟨hk, 0, none⟩) D.K.length yK, .int .i64 (D.n), .slice A' (fenceD D.F key).length c2]) Try.results14 (by rfl) (by rfl) (by rfl) H1.out Try.underlying29 rfl (by kernel_rfl)) rfl ?_
      rw [HOK.out.1, HOK.out.2.1, HOK.out.2.2]
      exact rAct_of H2.out (by rw [hbe]; exact H3.out) rfl

end Go.Proofs.Ytleemgjbihdbgaa

/-
  The document's device: an act, kind by kind: by contract. (registering)
-/
namespace Go.Proofs.Ytleemgjbihdbgaa
open Go.RowKit
set_option linter.unusedVariables false
set_option linter.unusedSimpArgs false

set_option maxRecDepth 100000 in
set_option maxHeartbeats 1000000 in
theorem refDo6 (B : Nat) (vS vC vK vF : Value) (f : Nat → Value) (D : Dev) (i : Nat) (s : Int) (t : ByteArray) (key : Int) (w : World) (hO : OwnD w B vS vC vK vF f D) (hB : B ≤ w.heap.size) (hm : MayD D) (hS : Small D 1099511627776) (hi : i < D.K.length) (ha : ActBd ⟨6, s, t, key⟩) (htm : t.size ≤ maxLen) :
    Calls Try.prog 14 #[.agg #[vS, vC, vK, .int .i64 D.n, vF], .int .i64 (i : Int), .agg #[.int .i8 6, .int .i64 s, .string t, .int .i64 key]] w (RAct B (doD D (i : Int) ⟨6, s, t, key⟩) (doS D (i : Int) ⟨6, s, t, key⟩) (refE D (i : Int) ⟨6, s, t, key⟩) w) := by
  obtain ⟨aS, cS, aC, cC, aK, cK, aF, cF, rfl, rfl, rfl, rfl⟩ := own_shapes hO
  obtain ⟨gk, capk, hgk, hgkB, hgkl, _, _⟩ := own_key hO hi
  obtain ⟨rfl, rfl⟩ : aK = some ⟨gk, 0, none⟩ ∧ cK = capk := by injection hgk with e1 _ e2; exact ⟨e1, e2⟩
  clear hgk
  obtain ⟨W0, hW⟩ : ∃ W0, W0 = ((w.alloc (.cells #[.slice aS D.S.length cS, .slice aC D.C.length cC, .slice (some ⟨gk, 0, none⟩) D.K.length cK, .int .i64 D.n, .slice aF D.F.length cF] 29)).alloc (.cells #[.int .i8 6, .int .i64 s, .string t, .int .i64 key] 38)).alloc (.cells #[.slice none 0 0, .slice none 0 0, .slice none 0 0, .int .i64 0, .slice none 0 0] 29) := ⟨_, rfl⟩
  obtain ⟨b, hbe⟩ : ∃ b, w.heap.size = b := ⟨_, rfl⟩
  have hb0 : Below b w W0 := by rw [hW]; exact (((Below.refl _ _).alloc (by omega) _).alloc (by simp; omega) _).alloc (by simp; omega) _
  have p0 : Blk W0 b #[.slice aS D.S.length cS, .slice aC D.C.length cC, .slice (some ⟨gk, 0, none⟩) D.K.length cK, .int .i64 D.n, .slice aF D.F.length cF] 29 := by rw [hW, ← hbe]; exact ((Blk.new w _ _).alloc _).alloc _
  have m0 : Blk W0 (b + 1) #[.int .i8 6, .int .i64 s, .string t, .int .i64 key] 38 := by
    have h1 := (Blk.new (w.alloc (.cells #[.slice aS D.S.length cS, .slice aC D.C.length cC, .slice (some ⟨gk, 0, none⟩) D.K.length cK, .int .i64 D.n, .slice aF D.F.length cF] 29)) #[.int .i8 6, .int .i64 s, .string t, .int .i64 key] 38).alloc (.cells #[.slice none 0 0, .slice none 0 0, .slice none 0 0, .int .i64 0, .slice none 0 0] 29)
    rw [hW, ← hbe]
    simpa using h1
  have r0 : Blk W0 (b + 1 + 1) #[.slice none 0 0, .slice none 0 0, .slice none 0 0, .int .i64 0, .slice none 0 0] 29 := by
    have h1 := Blk.new ((w.alloc (.cells #[.slice aS D.S.length cS, .slice aC D.C.length cC, .slice (some ⟨gk, 0, none⟩) D.K.length cK, .int .i64 D.n, .slice aF D.F.length cF] 29)).alloc (.cells #[.int .i8 6, .int .i64 s, .string t, .int .i64 key] 38)) #[.slice none 0 0, .slice none 0 0, .slice none 0 0, .int .i64 0, .slice none 0 0] 29
    rw [hW, ← hbe]
    simpa using h1
  have hO0 := hO.up (hbe ▸ hb0)
  have hsz : W0.heap.size = b + 3 := by rw [hW, ← hbe]; simp
  have hc := refCheck_yes _ D W0 hO0.dev hm hS.s
  have HCK := Lib.hid hm.ck
  have HBB : Hid (B ≤ b) := hbe ▸ hB
  have HSS := Lib.hid hS
  have HMM := Lib.hid hm
  have HHI := Lib.hid hi
  have HAB := Lib.hid ha
  unfold maxLen at htm
  clear hO hm hB ha
  obtain ⟨q0, q1, q2, q3, q4⟩ := five_cells p0
  obtain ⟨y0, y1, y2, y3⟩ := act_cells m0
  have t1 : decide ((i : Int) < 0) = false := decide_eq_false (by omega)
  have t2 : decide ((D.K.length : Int) ≤ (i : Int)) = false := decide_eq_false (by omega)
  go_enter Try.func14, Try.ntmps14
  go_wp2_with fail
  rw [← hW]
  clear hW
  refine hc.mono ?_
  rintro e w1 ⟨rfl, hc1⟩
  have p1 := p0.below hc1 p0.lt
  have m1 := m0.below hc1 m0.lt
  have r1 := r0.below hc1 r0.lt
  have hO1 := hO0.up hc1
  have hs1 := hc1.size
  have hb1 := hb0.trans (hc1.mono (by omega))
  clear q0 q1 q2 q3 q4 y0 y1 y2 y3 p0 m0 r0 hb0 hO0 hc1 hc
  obtain ⟨q0, q1, q2, q3, q4⟩ := five_cells p1
  obtain ⟨y0, y1, y2, y3⟩ := act_cells m1
  have hmx := HMM.out
  by_cases hfull : 68719476736 ≤ D.n
  · have h5 : decide ((68719476736 : Int) ≤ D.n) = true := decide_eq_true hfull
    have HX : Hid (doD D (i : Int) ⟨6, s, t, key⟩ = D ∧ doS D (i : Int) ⟨6, s, t, key⟩ = ⟨#[]⟩ ∧ refE D (i : Int) ⟨6, s, t, key⟩ = 2) := do_is HHI.out (by simp [actE, hfull]) (by decide)
    obtain ⟨z0, z1, z2, z3, z4⟩ := five_cells r1
    obtain ⟨f0, f1, f2, f3, f4⟩ := five_free r1
    have H1 := Lib.hid (into5_range r1 rfl (.slice aS D.S.length cS) (.slice aC D.C.length cC) (.slice (some ⟨gk, 0, none⟩) D.K.length cK) D.n (.slice aF D.F.length cF))
    have H2 := Lib.hid (into5_other hO1 r1 (by decide) (by decide) (by decide) (by decide) (.slice aS D.S.length cS) (.slice aC D.C.length cC) (.slice (some ⟨gk, 0, none⟩) D.K.length cK) D.n (.slice aF D.F.length cF))
    have H3 := Lib.hid (into5_below hb1 (show b ≤ b + 1 + 1 by omega) (.slice aS D.S.length cS) (.slice aC D.C.length cC) (.slice (some ⟨gk, 0, none⟩) D.K.length cK) D.n (.slice aF D.F.length cF))
    clear hO1 p1 m1 r1 hb1
    go_wp2_with fail
    refine bodyPost_ret (results_c3 (cs := [.slice aS D.S.length cS, .slice aC D.C.length cC, .slice (some ⟨gk, 0, none⟩) D.K.length cK, .int .i64 D.n, .slice aF D.F.length cF]) Try.results14 (by rfl) (by rfl) (by rfl) H1.out Try.underlying29 rfl (by kernel_rfl)) rfl ?_
    rw [HX.out.1, HX.out.2.1, HX.out.2.2]
    exact rAct_of H2.out (by rw [hbe]; exact H3.out) rfl
  · have h5 : decide ((68719476736 : Int) ≤ D.n) = false := decide_eq_false hfull
    have hn1 : 1 ≤ D.n := hmx.n1
    have h16 : D.K.length ≤ 16 := hmx.k16
    clear hmx
    go_wp2_with fail
    refine wp_region_held_drew (S := (fun w' => w'.cell? ⟨b + 1, 0, none⟩ = some (.int .i8 6))) (by kernel_rfl) ?_ (fun hHeld => ?_)
    focus (exact y0)
    refine wpAnyH_take (i := 0) (oi := ⟨some 78, _, _, _, _, _⟩) (v := ?_) rfl (by kernel_rfl) (by kernel_rfl) (by kernel_rfl) (fun _ _ _ h => h) (Or.inl ⟨by rfl, ?_⟩) (by assumption) ?_
    rotate_left
    focus (intro wq hSq; (try dsimp only at hSq); go_simp; try with_reducible rfl)
    try simp only [Act.put, List.setIfInBounds_toArray, List.set_cons_zero, List.set_cons_succ]
    refine wpAnyH_take (i := 1) (oi := ⟨some 79, _, _, _, _, _⟩) (v := ?_) rfl (by kernel_rfl) (by kernel_rfl) (by kernel_rfl) (fun _ _ _ h => h) (Or.inl ⟨by rfl, ?_⟩) (by assumption) ?_
    rotate_left
    focus (intro wq hSq; (try dsimp only at hSq); go_simp; try with_reducible rfl)
    try simp only [Act.put, List.setIfInBounds_toArray, List.set_cons_zero, List.set_cons_succ]
    refine wpAnyH_take (i := 2) (oi := ⟨some 80, _, _, _, _, _⟩) (v := ?_) rfl (by kernel_rfl) (by kernel_rfl) (by kernel_rfl) (fun _ _ _ h => h) (Or.inl ⟨by rfl, ?_⟩) (by assumption) ?_
    rotate_left
    focus (intro wq hSq; (try dsimp only at hSq); go_simp; try with_reducible rfl)
    try simp only [Act.put, List.setIfInBounds_toArray, List.set_cons_zero, List.set_cons_succ]
    refine wpAnyH_take (i := 3) (oi := ⟨some 81, _, _, _, _, _⟩) (v := ?_) rfl (by kernel_rfl) (by kernel_rfl) (by kernel_rfl) (fun _ _ _ h => h) (Or.inl ⟨by rfl, ?_⟩) (by assumption) ?_
    rotate_left
    focus (intro wq hSq; (try dsimp only at hSq); go_simp; try with_reducible rfl)
    try simp only [Act.put, List.setIfInBounds_toArray, List.set_cons_zero, List.set_cons_succ]
    refine wpAnyH_take (i := 4) (oi := ⟨some 82, _, _, _, _, _⟩) (v := undef) rfl (by kernel_rfl) (by kernel_rfl) (by kernel_rfl) (fun _ _ _ h => h) (Or.inr ⟨by rfl, rfl⟩) (by assumption) ?_
    try simp only [Act.put, List.setIfInBounds_toArray, List.set_cons_zero, List.set_cons_succ]
    refine wpAnyH_take (i := 5) (oi := ⟨some 83, _, _, _, _, _⟩) (v := undef) rfl (by kernel_rfl) (by kernel_rfl) (by kernel_rfl) (fun _ _ _ h => h) (Or.inr ⟨by rfl, rfl⟩) (by assumption) ?_
    try simp only [Act.put, List.setIfInBounds_toArray, List.set_cons_zero, List.set_cons_succ]
    refine wpAnyH_take (i := 6) (oi := ⟨some 84, _, _, _, _, _⟩) (v := undef) rfl (by kernel_rfl) (by kernel_rfl) (by kernel_rfl) (fun _ _ _ h => h) (Or.inr ⟨by rfl, rfl⟩) (by assumption) ?_
    try simp only [Act.put, List.setIfInBounds_toArray, List.set_cons_zero, List.set_cons_succ]
    refine wpAnyH_take (i := 7) (oi := ⟨some 85, _, _, _, _, _⟩) (v := undef) rfl (by kernel_rfl) (by kernel_rfl) (by kernel_rfl) (fun _ _ _ h => h) (Or.inr ⟨by rfl, rfl⟩) (by assumption) ?_
    try simp only [Act.put, List.setIfInBounds_toArray, List.set_cons_zero, List.set_cons_succ]
    refine wpAnyH_take (i := 8) (oi := ⟨some 86, _, _, _, _, _⟩) (v := undef) rfl (by kernel_rfl) (by kernel_rfl) (by kernel_rfl) (fun _ _ _ h => h) (Or.inr ⟨by rfl, rfl⟩) (by assumption) ?_
    try simp only [Act.put, List.setIfInBounds_toArray, List.set_cons_zero, List.set_cons_succ]
    refine wpAnyH_take (i := 9) (oi := ⟨some 87, _, _, _, _, _⟩) (v := undef) rfl (by kernel_rfl) (by kernel_rfl) (by kernel_rfl) (fun _ _ _ h => h) (Or.inr ⟨by rfl, rfl⟩) (by assumption) ?_
    try simp only [Act.put, List.setIfInBounds_toArray, List.set_cons_zero, List.set_cons_succ]
    refine wpAnyH_take (i := 10) (oi := ⟨some 88, _, _, _, _, _⟩) (v := undef) rfl (by kernel_rfl) (by kernel_rfl) (by kernel_rfl) (fun _ _ _ h => h) (Or.inr ⟨by rfl, rfl⟩) (by assumption) ?_
    try simp only [Act.put, List.setIfInBounds_toArray, List.set_cons_zero, List.set_cons_succ]
    refine wpAnyH_take (i := 11) (oi := ⟨some 89, _, _, _, _, _⟩) (v := undef) rfl (by kernel_rfl) (by kernel_rfl) (by kernel_rfl) (fun _ _ _ h => h) (Or.inr ⟨by rfl, rfl⟩) (by assumption) ?_
    try simp only [Act.put, List.setIfInBounds_toArray, List.set_cons_zero, List.set_cons_succ]
    refine wpAnyH_take (i := 12) (oi := ⟨some 90, _, _, _, _, _⟩) (v := ?_) rfl (by kernel_rfl) (by kernel_rfl) (by kernel_rfl) (fun _ _ _ h => h) (Or.inl ⟨by rfl, ?_⟩) (by assumption) ?_
    rotate_left
    focus (intro wq hSq; (try dsimp only at hSq); go_simp; try with_reducible rfl)
    try simp only [Act.put, List.setIfInBounds_toArray, List.set_cons_zero, List.set_cons_succ]
    refine wpAnyH_done (by kernel_rfl) ?_ _
    have hc4 : Below w1.heap.size w1 w1.drew := (Below.refl _ _).drew
    obtain ⟨w4, hw4⟩ : ∃ W, W = w1.drew := ⟨_, rfl⟩
    rw [← hw4]
    rw [← hw4] at hc4
    clear hw4
    have p4 := p1.below hc4 p1.lt
    have m4 := m1.below hc4 m1.lt
    have r4 := r1.below hc4 r1.lt
    have hO4 := hO1.up hc4
    have hs4 := hc4.size
    have hb4 := hb1.trans (hc4.mono (by omega))
    clear q0 q1 q2 q3 q4 y0 y1 y2 y3 p1 m1 r1 hb1 hO1 hc4
    obtain ⟨q0, q1, q2, q3, q4⟩ := five_cells p4
    obtain ⟨y0, y1, y2, y3⟩ := act_cells m4
    have HOK : Hid (doD D (i : Int) ⟨6, s, t, key⟩ = registerD D i ∧ doS D (i : Int) ⟨6, s, t, key⟩ = key6 (16 * D.n + (i : Int)) ∧ refE D (i : Int) ⟨6, s, t, key⟩ = 0) := by
      have h0 : actE D i ⟨6, s, t, key⟩ = 0 := by simp [actE, hfull]
      obtain ⟨h1, h2, h3⟩ := do_ok HHI.out h0
      refine ⟨?_, ?_, h3⟩
      · rw [h1]; simp [actD, h0]
      · rw [h2]; simp [actS, h0]
    have hcp := refCopied_any _ D w4 hO4.dev HSS.out
    have HOUTN : Hid (B ≤ w4.heap.size ∧ b + 3 ≤ w4.heap.size) := by have := HBB.out; show _ ∧ _; omega
    go_wp2_with fail
    refine hcp.mono ?_
    rintro e w5 ⟨uS, uC, uK, uF, g, rfl, hN5, hc5⟩
    clear hcp
    obtain ⟨xS, yS, xC, yC, xK, yK, xF, yF, rfl, rfl, rfl, rfl⟩ := own_shapes hN5
    have hic : i < D.C.length := by have := HCK.out; omega
    obtain ⟨gc, capc, a, c, hgc, hgi, hgcB, hgcl, hcc, hcf, hlc, hcm⟩ := own_cache hN5 hic
    obtain ⟨rfl, rfl⟩ : xC = some ⟨gc, 0, none⟩ ∧ yC = capc := by injection hgc with e1 _ e2; exact ⟨e1, e2⟩
    obtain ⟨hk, caph, hhk, hhkB, hhkl, _, _⟩ := own_key hN5 hi
    obtain ⟨rfl, rfl⟩ : xK = some ⟨hk, 0, none⟩ ∧ yK = caph := by injection hhk with e1 _ e2; exact ⟨e1, e2⟩
    clear hgc hhk
    have p5 := p4.below hc5 p4.lt
    have m5 := m4.below hc5 m4.lt
    have r5 := r4.below hc5 r4.lt
    have hO5 := hO4.up hc5
    have hs5 := hc5.size
    have hb5 := hb4.trans (hc5.mono (by omega))
    clear q0 q1 q2 q3 q4 y0 y1 y2 y3 p4 m4 r4 hb4 hO4 hc5
    obtain ⟨q0, q1, q2, q3, q4⟩ := five_cells p5
    obtain ⟨y0, y1, y2, y3⟩ := act_cells m5
    obtain ⟨w6, hw6⟩ : ∃ W, W = w5.alloc (.cells #[.slice xS D.S.length yS, .slice (some ⟨gc, 0, none⟩) D.C.length yC, .slice (some ⟨hk, 0, none⟩) D.K.length yK, .int .i64 D.n, .slice xF D.F.length yF] 29) := ⟨_, rfl⟩
    have hc6 : Below w5.heap.size w5 w6 := hw6 ▸ below_alloc w5 _
    have R6 : Blk w6 w5.heap.size #[.slice xS D.S.length yS, .slice (some ⟨gc, 0, none⟩) D.C.length yC, .slice (some ⟨hk, 0, none⟩) D.K.length yK, .int .i64 D.n, .slice xF D.F.length yF] 29 := hw6 ▸ Blk.new w5 _ _
    have hN6 := hN5.up hc6
    have hcc6 : w6.cell? ⟨gc, i, none⟩ = some (.slice a (cacheOf D i).length c) := (hc6.cell (p := ⟨gc, i, none⟩) hgcl).trans hcc
    have hcf6 : w6.frozen? ⟨gc, i, none⟩ = false := hN6.c.frozenAt i
    have HR6 : Hid (w5.heap.size < w6.heap.size) := by show _ < _; rw [hw6]; simp
    have HGI := Lib.hid hgi
    have HGC : Hid (w4.heap.size ≤ gc ∧ gc < w5.heap.size) := ⟨hgcB, hgcl⟩
    have HHK : Hid (w4.heap.size ≤ hk ∧ hk < w5.heap.size) := ⟨hhkB, hhkl⟩
    have HMC := Lib.hid hcm
    have HLC0 := hlc
    obtain ⟨l, hl⟩ : ∃ l, cacheOf D i = l := ⟨_, rfl⟩
    have HL := Lib.hid hl
    have HCO : Hid (CacheOk l D.S.length) := by show CacheOk l _; rw [← hl]; exact cache_ok HMM.out i
    rw [hl] at hcc hcc6 hlc HGI
    obtain ⟨nl, hnl⟩ : ∃ n, l.length = n := ⟨_, rfl⟩
    have HN := Lib.hid hnl
    rw [hnl] at hcc hcc6 hlc HGI
    have hA6 : Lies w6 w6.heap.size a (nl * 2) (celV l) := by
      have h := hN6.cs i hic
      rw [HGI.out, show D.C.getD i [] = l from HL.out, HN.out] at h
      exact lies_own2 h
    have hpl := refPlace_any a nl c l s w6.heap.size w6 hA6 HN.out (by have := HMC.out; omega)
    have HS2 : Hid (nl ≤ 1099511627776) := by
      show nl ≤ _
      rw [← HN.out, ← HL.out]
      exact HSS.out.cs _ (by unfold cacheOf; rw [List.getD, List.getElem?_eq_getElem hic]; exact List.getElem_mem hic)
    have i0 : (0 : Int) ≤ (i : Int) := by omega
    have i1 : (i : Int) < (D.C.length : Int) := by omega
    have hcl := hgcl
    have hbl1 : b + 1 < w5.heap.size := by have := HOUTN.out; omega
    have hbl2 : b + 1 + 1 < w5.heap.size := by have := HOUTN.out; omega
    have HLC := Lib.hid hlc
    clear hl hnl hgi hcf hN5 hcm hlc HLC0
    go_wp2_with fail
    rw [← hw6]
    refine hpl.mono ?_
    rintro e w7 ⟨rfl, rfl⟩
    clear hpl hcc hw6 hcl hgcB hgcl hhkB hhkl
    have p6 := p5.below hc6 p5.lt
    have m6 := m5.below hc6 m5.lt
    have r6 := r5.below hc6 r5.lt
    have hO6 := hO5.up hc6
    have hs6 := hc6.size
    have hb6 := hb5.trans (hc6.mono (by omega))
    clear q0 q1 q2 q3 q4 y0 y1 y2 y3 p5 m5 r5 hb5 hO5 hc6
    obtain ⟨q0, q1, q2, q3, q4⟩ := five_cells p6
    obtain ⟨y0, y1, y2, y3⟩ := act_cells m6
    have hn2 : D.n < 68719476736 := by omega
    have hii : i < 16 := by omega
    have hho := HOUTN.out
    have hhc := HGC.out
    have hhk := HHK.out
    have hg1 : hk ≠ gc := fun e => by
      rcases own_apart hN6.k hN6.c (by decide) (g := gc) rfl with h | h
      · cases h
      · exact h (by rw [← e]; rfl)
    have hg1' : gc ≠ hk := fun e => hg1 e.symm
    have hg2 : w5.heap.size ≠ gc := by omega
    have hg2' : gc ≠ w5.heap.size := by omega
    have hg3 : w5.heap.size ≠ hk := by omega
    have hg3' : hk ≠ w5.heap.size := by omega
    have hg4 : b + 1 + 1 ≠ gc := by omega
    have hg5 : b + 1 + 1 ≠ hk := by omega
    have hg6 : b + 1 + 1 ≠ w5.heap.size := by omega
    have hg6' : w5.heap.size ≠ b + 1 + 1 := by omega
    obtain ⟨gq, capq, hgq, _, _, hkc6, hkf6⟩ := own_key hN6 HHI.out
    obtain rfl : hk = gq := by injection hgq with e1 _ _; injection e1 with e1; injection e1
    obtain ⟨v0, v1, v2, v3, v4⟩ := five_cells R6
    have vf := R6.free 3
    have hN7a := hN6.setK rfl i (16 * D.n + (i : Int))
    have R7a := R6.other hg3 i (.int .i64 (16 * D.n + (i : Int)))
    have hN7b := hN7a.other R7a (by decide) (by decide) (by decide) (by decide) 3 (.int .i64 (D.n + 1))
    have R7b : Blk _ w5.heap.size #[.slice xS D.S.length yS, .slice (some ⟨gc, 0, none⟩) D.C.length yC, .slice (some ⟨hk, 0, none⟩) D.K.length yK, .int .i64 (D.n + 1), .slice xF D.F.length yF] 29 := R7a.set 3 (.int .i64 (D.n + 1))
    have hN7 := hN7b.setC rfl hic (World.ownsRow_nil _ _ _ _) (l := []) (by intro j x _ _ hx; cases hx)
    have R7 := R7b.other hg2 i (.slice none 0 0)
    have r7 := ((r6.other hg5 i (.int .i64 (16 * D.n + (i : Int)))).other hg6 3 (.int .i64 (D.n + 1))).other hg4 i (.slice none 0 0)
    have hb7 := ((hb6.setCell (p := ⟨hk, i, none⟩) (show b ≤ hk by omega) (.int .i64 (16 * D.n + (i : Int)))).setCell (p := ⟨w5.heap.size, 3, none⟩) (show b ≤ w5.heap.size by omega) (.int .i64 (D.n + 1))).setCell (p := ⟨gc, i, none⟩) (show b ≤ gc by omega) (.slice none 0 0)
    obtain ⟨W7, hW7⟩ : ∃ W, W = ((w6.setCell ⟨hk, i, none⟩ (.int .i64 (16 * D.n + (i : Int)))).setCell ⟨w5.heap.size, 3, none⟩ (.int .i64 (D.n + 1))).setCell ⟨gc, i, none⟩ (.slice none 0 0) := ⟨_, rfl⟩
    rw [← hW7] at hN7 R7 r7 hb7
    have hO7 : OwnD W7 w4.heap.size (.slice xS D.S.length yS) (.slice (some ⟨gc, 0, none⟩) D.C.length yC) (.slice (some ⟨hk, 0, none⟩) D.K.length yK) (.slice xF D.F.length yF) (fun j => if j = i then .slice none 0 0 else g j) { D with K := D.K.set i (16 * D.n + (i : Int)), n := D.n + 1, C := D.C.set i [] } := ⟨hN7.s, hN7.c, hN7.k, hN7.ff, hN7.cs, hN7.kf, hN7.cc⟩
    have hs7 : W7.heap.size = w6.heap.size := by rw [hW7]; simp
    obtain ⟨WP, hWP⟩ : ∃ WP, WP = W7.alloc (.cells #[.int .i64 (16 * D.n + (i : Int))] 3) := ⟨_, rfl⟩
    have hbP : Below W7.heap.size W7 WP := hWP ▸ below_alloc W7 _
    have hput := refPut_any 6 none (some ⟨W7.heap.size, 0, none⟩) 0 1 0 1 [] [16 * D.n + (i : Int)] WP ⟨rfl, fun h => by omega⟩ (by
      rw [hWP]
      exact lies_one W7 _ _) (by omega) (by omega)
    rw [hs7] at hput
    have HKY : Hid (key6 (16 * D.n + (i : Int)) = strOfNums (enc 6 (16 * D.n + (i : Int)))) := (key6_enc _).symm
    have HS7 := Lib.hid hs7
    have HHS := HR6.out
    have kw1 : IntKind.i64.wrap (16 * D.n) = 16 * D.n := IntWalk.i64_in _ (by omega)
    have kw2 : IntKind.i64.wrap (16 * D.n + (i : Int)) = 16 * D.n + (i : Int) := IntWalk.i64_in _ (by omega)
    have i2 : (i : Int) < (D.K.length : Int) := by omega
    have kb0 : 0 ≤ 16 * D.n + (i : Int) := by omega
    have kb1 : 16 * D.n + (i : Int) ≤ 1099511627776 := by omega
    rw [hW7] at hWP
    clear hN6 R6 r6 hb6 hN7a R7a hN7b R7b hN7 hA6 q0 q1 q2 q3 q4 p6 m6 hO6 hs7 hgq
    go_wp2_with fail
    rw [← hWP]
    refine hput.mono ?_
    intro e w8 hpost
    obtain ⟨hc8, A8, c8, rfl, hown8⟩ : Below WP.heap.size WP w8 ∧ ∃ A c, e = .returned (.tuple #[.slice A 6 c, .int .i64 0]) ∧ w8.ownsRow WP.heap.size 5 1 (.slice A 6 c) 6 ((enc 6 (16 * D.n + (i : Int))).map (Value.int .u8)) := by
      obtain ⟨hb, h2⟩ := hpost
      have hf : fitsB 6 (16 * D.n + (i : Int)) = true := fitsB_yes (by omega) (by omega) kb0 (by simpa [mostOf] using kb1)
      have hx : (mayB 6 && [16 * D.n + (i : Int)].all (fitsB 6)) = true := by simp [hf, mayB]
      rcases h2 with ⟨h3, _⟩ | ⟨_, v, e2, hown⟩
      · rw [hx] at h3; cases h3
      · have e3 : ([] : List Int) ++ encs (6 : Int).toNat [16 * D.n + (i : Int)] = enc 6 (16 * D.n + (i : Int)) := by simp [encs]
        rw [e3] at hown
        obtain ⟨A, c, rfl, _, _⟩ := own_shape2 hown
        exact ⟨hb, A, c, e2, hown⟩
    have hc78 : Below W7.heap.size W7 w8 := hbP.trans (hc8.mono hbP.size)
    have hN8 := hO7.up hc78
    have R8 := R7.below hc78 R7.lt
    have r8 := r7.below hc78 r7.lt
    have hb8 := hb7.trans (hc78.mono (by have := HS7.out; omega))
    obtain ⟨w9, hw9⟩ : ∃ W, W = (into5 w8 (b + 1 + 1) (.slice xS D.S.length yS) (.slice (some ⟨gc, 0, none⟩) D.C.length yC) (.slice (some ⟨hk, 0, none⟩) D.K.length yK) (D.n + 1) (.slice xF D.F.length yF)).drew := ⟨_, rfl⟩
    have r9 : Blk w9 (b + 1 + 1) #[.slice xS D.S.length yS, .slice (some ⟨gc, 0, none⟩) D.C.length yC, .slice (some ⟨hk, 0, none⟩) D.K.length yK, .int .i64 (D.n + 1), .slice xF D.F.length yF] 29 := by rw [hw9]; exact (into5_self r8 rfl (.slice xS D.S.length yS) (.slice (some ⟨gc, 0, none⟩) D.C.length yC) (.slice (some ⟨hk, 0, none⟩) D.K.length yK) (D.n + 1) (.slice xF D.F.length yF)).drew
    have R9 : Blk w9 w5.heap.size #[.slice xS D.S.length yS, .slice (some ⟨gc, 0, none⟩) D.C.length yC, .slice (some ⟨hk, 0, none⟩) D.K.length yK, .int .i64 (D.n + 1), .slice xF D.F.length yF] 29 := by rw [hw9]; exact (into5_blk R8 hg6' (.slice xS D.S.length yS) (.slice (some ⟨gc, 0, none⟩) D.C.length yC) (.slice (some ⟨hk, 0, none⟩) D.K.length yK) (D.n + 1) (.slice xF D.F.length yF)).drew
    have hN9 : OwnD w9 w4.heap.size (.slice xS D.S.length yS) (.slice (some ⟨gc, 0, none⟩) D.C.length yC) (.slice (some ⟨hk, 0, none⟩) D.K.length yK) (.slice xF D.F.length yF) (fun j => if j = i then .slice none 0 0 else g j) { D with K := D.K.set i (16 * D.n + (i : Int)), n := D.n + 1, C := D.C.set i [] } := by rw [hw9]; exact (into5_other hN8 r8 (by decide) (by decide) (by decide) (by decide) (.slice xS D.S.length yS) (.slice (some ⟨gc, 0, none⟩) D.C.length yC) (.slice (some ⟨hk, 0, none⟩) D.K.length yK) (D.n + 1) (.slice xF D.F.length yF)).up ((Below.refl _ _).drew)
    have hb9 : Below b w w9 := by rw [hw9]; exact (into5_below hb8 (show b ≤ b + 1 + 1 by omega) (.slice xS D.S.length yS) (.slice (some ⟨gc, 0, none⟩) D.C.length yC) (.slice (some ⟨hk, 0, none⟩) D.K.length yK) (D.n + 1) (.slice xF D.F.length yF)).drew
    have hlt : b + 1 + 1 < WP.heap.size := by have := hbP.size; have := HS7.out; omega
    have hown9 : w9.ownsRow WP.heap.size 5 1 (.slice A8 6 c8) 6 ((enc 6 (16 * D.n + (i : Int))).map (Value.int .u8)) := by
      rw [hw9]
      exact own_up (own_set (own_set (own_set (own_set (own_set hown8 hlt _) hlt _) hlt _) hlt _) hlt _) ((Below.refl _ _).drew)
    have hcv : (convert 49 9 (.slice A8 6 c8)).run Try.prog w8.drew = .ok (.string (strOfNums (enc 6 (16 * D.n + (i : Int))))) w8.drew :=
      conv_lies 49 9 5 Try.underlying49 Try.underlying5 Try.underlying9 (w := w8.drew) (Lies.of_own (own_up hown8 ((Below.refl _ _).drew)))
    have hcv9 : (convert 49 9 (.slice A8 6 c8)).run Try.prog w9 = .ok (.string (strOfNums (enc 6 (16 * D.n + (i : Int))))) w9 :=
      conv_lies 49 9 5 Try.underlying49 Try.underlying5 Try.underlying9 (Lies.of_own hown9)
    rw [HKY.out] at HOK
    have HFL : Hid (registerD D i = { D with K := D.K.set i (16 * D.n + (i : Int)), n := D.n + 1, C := D.C.set i [] }) := rfl
    rw [HFL.out] at HOK
    obtain ⟨u0, u1, u2, u3, u4⟩ := five_cells R8
    obtain ⟨z0, z1, z2, z3, z4⟩ := five_cells r8
    obtain ⟨f0, f1, f2, f3, f4⟩ := five_free r8
    have hs9 := five_cells R9
    have H1 := Lib.hid r9.range
    have H2 := Lib.hid (OwnD.less (B' := B) hN9 (by omega))
    have H3 := Lib.hid hb9
    unfold into5 at hw9
    have HS9 := Lib.hid hs9
    have HS9X := HS9.out
    rw [hw9] at HS9X
    have HS9Y := Lib.hid HS9X
    generalize strOfNums (enc 6 (16 * D.n + (i : Int))) = str at *
    clear v0 v1 v2 v3 v4 vf R7 r7 hb7 hO7 hc8 hbP hWP hput hc78 hN8 r8 hb8 R8 hown8 hown9 r9 R9 hN9 hb9 hs9 HS9X
    go_wp2_with fail
    refine wp_region_held_drew (S := (fun w' => w'.cell? ⟨w5.heap.size, 0, none⟩ = some (.slice xS D.S.length yS) ∧ w'.cell? ⟨w5.heap.size, 1, none⟩ = some (.slice (some ⟨gc, 0, none⟩) D.C.length yC) ∧ w'.cell? ⟨w5.heap.size, 2, none⟩ = some (.slice (some ⟨hk, 0, none⟩) D.K.length yK) ∧ w'.cell? ⟨w5.heap.size, 3, none⟩ = some (.int .i64 (D.n + 1)) ∧ w'.cell? ⟨w5.heap.size, 4, none⟩ = some (.slice xF D.F.length yF))) (by kernel_rfl) ?_ (fun hHeld => ?_)
    focus (exact ⟨u0, u1, u2, u3, u4⟩)
    refine wpAnyH_take (i := 0) (oi := ⟨some 241, _, _, _, _, _⟩) (v := ?_) rfl (by kernel_rfl) (by kernel_rfl) (by kernel_rfl) (fun _ _ _ h => h) (Or.inl ⟨by rfl, ?_⟩) (by assumption) ?_
    rotate_left
    focus (intro wq hSq; (try dsimp only at hSq); go_simp; try with_reducible rfl)
    try simp only [Act.put, List.setIfInBounds_toArray, List.set_cons_zero, List.set_cons_succ]
    refine wpAnyH_take (i := 1) (oi := ⟨some 242, _, _, _, _, _⟩) (v := ?_) rfl (by kernel_rfl) (by kernel_rfl) (by kernel_rfl) (fun _ _ _ h => h) (Or.inl ⟨by rfl, ?_⟩) (by assumption) ?_
    rotate_left
    focus (intro wq hSq; (try dsimp only at hSq); go_simp; try with_reducible rfl)
    try simp only [Act.put, List.setIfInBounds_toArray, List.set_cons_zero, List.set_cons_succ]
    refine wpAnyH_ready (rs := [2, 3]) (by kernel_rfl) (by simp) ?_
    refine AllReadyH.cons (o := ⟨some 243, _, _, _, _, _⟩) rfl (fun K hK => ?_) (AllReadyH.cons (o := ⟨none, _, _, _, _, _⟩) rfl (fun K hK => ?_) AllReadyH.nil)
    · go_simp
      refine hK.out _ _ ?_ (fun hHeld => ?_)
      focus (exact ⟨u0, u1, u2, u3, u4⟩)
      clear hK K
      try simp only [Act.put, List.setIfInBounds_toArray, List.set_cons_zero, List.set_cons_succ]
      refine wpAnyH_ready (rs := [3]) (by kernel_rfl) (by simp) ?_
      refine AllReadyH.cons (o := ⟨none, _, _, _, _, _⟩) rfl (fun K hK => ?_) AllReadyH.nil
      go_simp
      refine hK.out _ _ ?_ (fun hHeld => ?_)
      focus (exact HS9Y.out)
      clear hK K
      try simp only [Act.put, List.setIfInBounds_toArray, List.set_cons_zero, List.set_cons_succ]
      rw [← hw9]
      have hS9 := HS9.out
      clear hw9 HS9Y
      refine wpAnyH_take (i := 4) (oi := ⟨some 7, _, _, _, _, _⟩) (v := ?_) rfl (by kernel_rfl) (by kernel_rfl) (by kernel_rfl) (fun _ _ _ h => h) (Or.inl ⟨by rfl, ?_⟩) (by assumption) ?_
      rotate_left
      focus (intro wq hSq; (try dsimp only at hSq); go_simp; try with_reducible rfl)
      try simp only [Act.put, List.setIfInBounds_toArray, List.set_cons_zero, List.set_cons_succ]
      refine wpAnyH_take (i := 5) (oi := ⟨some 8, _, _, _, _, _⟩) (v := ?_) rfl (by kernel_rfl) (by kernel_rfl) (by kernel_rfl) (fun _ _ _ h => h) (Or.inl ⟨by rfl, ?_⟩) (by assumption) ?_
      rotate_left
      focus (intro wq hSq; (try dsimp only at hSq); go_simp; try with_reducible rfl)
      try simp only [Act.put, List.setIfInBounds_toArray, List.set_cons_zero, List.set_cons_succ]
      refine wpAnyH_done (by kernel_rfl) ?_ _
      go_wp2_with fail
      refine bodyPost_ret (results_c3 (cs := [.slice xS D.S.length yS, .slice (some ⟨gc, 0, none⟩) D.C.length yC, .slice (some ⟨hk, 0, none⟩) D.K.length yK, .int .i64 (D.n + 1), .slice xF D.F.length yF]) Try.results14 (by rfl) (by rfl) (by rfl) H1.out Try.underlying29 rfl (by kernel_rfl)) rfl ?_
      rw [HOK.out.1, HOK.out.2.1, HOK.out.2.2]
      exact rAct_of H2.out (by rw [hbe]; exact H3.out) rfl
    · go_simp
      refine hK.out _ _ ?_ (fun hHeld => ?_)
      focus (exact HS9Y.out)
      clear hK K
      try simp only [Act.put, List.setIfInBounds_toArray, List.set_cons_zero, List.set_cons_succ]
      rw [← hw9]
      have hS9 := HS9.out
      clear hw9 HS9Y
      refine wpAnyH_ready (rs := [2]) (by kernel_rfl) (by simp) ?_
      refine AllReadyH.cons (o := ⟨some 243, _, _, _, _, _⟩) rfl (fun K hK => ?_) AllReadyH.nil
      go_simp
      refine hK.out _ _ ?_ (fun hHeld => ?_)
      focus (exact HS9.out)
      clear hK K
      try simp only [Act.put, List.setIfInBounds_toArray, List.set_cons_zero, List.set_cons_succ]
      refine wpAnyH_take (i := 4) (oi := ⟨some 7, _, _, _, _, _⟩) (v := ?_) rfl (by kernel_rfl) (by kernel_rfl) (by kernel_rfl) (fun _ _ _ h => h) (Or.inl ⟨by rfl, ?_⟩) (by assumption) ?_
      rotate_left
      focus (intro wq hSq; (try dsimp only at hSq); go_simp; try with_reducible rfl)
      try simp only [Act.put, List.setIfInBounds_toArray, List.set_cons_zero, List.set_cons_succ]
      refine wpAnyH_take (i := 5) (oi := ⟨some 8, _, _, _, _, _⟩) (v := ?_) rfl (by kernel_rfl) (by kernel_rfl) (by kernel_rfl) (fun _ _ _ h => h) (Or.inl ⟨by rfl, ?_⟩) (by assumption) ?_
      rotate_left
      focus (intro wq hSq; (try dsimp only at hSq); go_simp; try with_reducible rfl)
      try simp only [Act.put, List.setIfInBounds_toArray, List.set_cons_zero, List.set_cons_succ]
      refine wpAnyH_done (by kernel_rfl) ?_ _
      go_wp2_with fail
      refine bodyPost_ret (results_c3 (cs := [.slice xS D.S.length yS, .slice (some ⟨gc, 0, none⟩) D.C.length yC, .slice (some ⟨hk, 0, none⟩) D.K.length yK, .int .i64 (D.n + 1), .slice xF D.F.length yF]) Try.results14 (by rfl) (by rfl) (by rfl) H1.out Try.underlying29 rfl (by kernel_rfl)) rfl ?_
      rw [HOK.out.1, HOK.out.2.1, HOK.out.2.2]
      exact rAct_of H2.out (by rw [hbe]; exact H3.out) rfl

end Go.Proofs.Ytleemgjbihdbgaa

/-
  The document's device: an act, kind by kind: by contract. (what is no node's, or of no kind)
-/
namespace Go.Proofs.Ytleemgjbihdbgaa
open Go.RowKit
set_option linter.unusedVariables false
set_option linter.unusedSimpArgs false

set_option maxRecDepth 100000 in
set_option maxHeartbeats 1000000 in
theorem refDo_node (B : Nat) (vS vC vK vF : Value) (f : Nat → Value) (D : Dev) (node : Int) (k s : Int) (t : ByteArray) (key : Int) (w : World) (hO : OwnD w B vS vC vK vF f D) (hB : B ≤ w.heap.size) (hm : MayD D) (hS : Small D 1099511627776) (hN : ¬ NodeOk D node) :
    Calls Try.prog 14 #[.agg #[vS, vC, vK, .int .i64 D.n, vF], .int .i64 node, .agg #[.int .i8 k, .int .i64 s, .string t, .int .i64 key]] w (RAct B (doD D node ⟨k, s, t, key⟩) (doS D node ⟨k, s, t, key⟩) (refE D node ⟨k, s, t, key⟩) w) := by
  obtain ⟨aS, cS, aC, cC, aK, cK, aF, cF, rfl, rfl, rfl, rfl⟩ := own_shapes hO
  obtain ⟨W0, hW⟩ : ∃ W0, W0 = ((w.alloc (.cells #[.slice aS D.S.length cS, .slice aC D.C.length cC, .slice aK D.K.length cK, .int .i64 D.n, .slice aF D.F.length cF] 29)).alloc (.cells #[.int .i8 k, .int .i64 s, .string t, .int .i64 key] 38)).alloc (.cells #[.slice none 0 0, .slice none 0 0, .slice none 0 0, .int .i64 0, .slice none 0 0] 29) := ⟨_, rfl⟩
  obtain ⟨b, hbe⟩ : ∃ b, w.heap.size = b := ⟨_, rfl⟩
  have hb0 : Below b w W0 := by rw [hW]; exact (((Below.refl _ _).alloc (by omega) _).alloc (by simp; omega) _).alloc (by simp; omega) _
  have p0 : Blk W0 b #[.slice aS D.S.length cS, .slice aC D.C.length cC, .slice aK D.K.length cK, .int .i64 D.n, .slice aF D.F.length cF] 29 := by rw [hW, ← hbe]; exact ((Blk.new w _ _).alloc _).alloc _
  have m0 : Blk W0 (b + 1) #[.int .i8 k, .int .i64 s, .string t, .int .i64 key] 38 := by
    have h1 := (Blk.new (w.alloc (.cells #[.slice aS D.S.length cS, .slice aC D.C.length cC, .slice aK D.K.length cK, .int .i64 D.n, .slice aF D.F.length cF] 29)) #[.int .i8 k, .int .i64 s, .string t, .int .i64 key] 38).alloc (.cells #[.slice none 0 0, .slice none 0 0, .slice none 0 0, .int .i64 0, .slice none 0 0] 29)
    rw [hW, ← hbe]
    simpa using h1
  have r0 : Blk W0 (b + 1 + 1) #[.slice none 0 0, .slice none 0 0, .slice none 0 0, .int .i64 0, .slice none 0 0] 29 := by
    have h1 := Blk.new ((w.alloc (.cells #[.slice aS D.S.length cS, .slice aC D.C.length cC, .slice aK D.K.length cK, .int .i64 D.n, .slice aF D.F.length cF] 29)).alloc (.cells #[.int .i8 k, .int .i64 s, .string t, .int .i64 key] 38)) #[.slice none 0 0, .slice none 0 0, .slice none 0 0, .int .i64 0, .slice none 0 0] 29
    rw [hW, ← hbe]
    simpa using h1
  have hO0 := hO.up (hbe ▸ hb0)
  have hsz : W0.heap.size = b + 3 := by rw [hW, ← hbe]; simp
  have hc := refCheck_yes _ D W0 hO0.dev hm hS.s
  obtain ⟨q0, q1, q2, q3, q4⟩ := five_cells p0
  obtain ⟨y0, y1, y2, y3⟩ := act_cells m0
  clear hO
  have HX : Hid (doD D node ⟨k, s, t, key⟩ = D ∧ doS D node ⟨k, s, t, key⟩ = ⟨#[]⟩ ∧ refE D node ⟨k, s, t, key⟩ = 2) := ⟨if_neg hN, if_neg hN, if_neg hN⟩
  have hcs := node_bad hN
  clear hN
  rcases hcs with t1 | ⟨t1, t2⟩
  all_goals go_enter Try.func14, Try.ntmps14
  all_goals go_wp2_with fail
  all_goals rw [← hW]
  all_goals refine hc.mono ?_
  all_goals rintro e w1 ⟨rfl, hc1⟩
  all_goals have p1 := p0.below hc1 p0.lt
  all_goals have m1 := m0.below hc1 m0.lt
  all_goals have r1 := r0.below hc1 r0.lt
  all_goals have hO1 := hO0.up hc1
  all_goals have hb1 := hb0.trans (hc1.mono (by omega))
  all_goals clear q0 q1 q2 q3 q4 y0 y1 y2 y3 p0 m0 r0 hb0 hO0 hc hc1 hW
  all_goals obtain ⟨q0, q1, q2, q3, q4⟩ := five_cells p1
  all_goals obtain ⟨y0, y1, y2, y3⟩ := act_cells m1
  all_goals obtain ⟨z0, z1, z2, z3, z4⟩ := five_cells r1
  all_goals obtain ⟨f0, f1, f2, f3, f4⟩ := five_free r1
  all_goals have H1 := Lib.hid (into5_range r1 rfl (.slice aS D.S.length cS) (.slice aC D.C.length cC) (.slice aK D.K.length cK) D.n (.slice aF D.F.length cF))
  all_goals have H2 := Lib.hid (into5_other hO1 r1 (by decide) (by decide) (by decide) (by decide) (.slice aS D.S.length cS) (.slice aC D.C.length cC) (.slice aK D.K.length cK) D.n (.slice aF D.F.length cF))
  all_goals have H3 := Lib.hid (into5_below hb1 (show b ≤ b + 1 + 1 by omega) (.slice aS D.S.length cS) (.slice aC D.C.length cC) (.slice aK D.K.length cK) D.n (.slice aF D.F.length cF))
  all_goals clear hO1 p1 m1 r1 hb1
  all_goals go_wp2_with fail
  all_goals refine bodyPost_ret (results_c3 (cs := [.slice aS D.S.length cS, .slice aC D.C.length cC, .slice aK D.K.length cK, .int .i64 D.n, .slice aF D.F.length cF]) Try.results14 (by rfl) (by rfl) (by rfl) H1.out Try.underlying29 rfl (by kernel_rfl)) rfl ?_
  all_goals rw [HX.out.1, HX.out.2.1, HX.out.2.2]
  all_goals exact rAct_of H2.out (by rw [hbe]; exact H3.out) rfl

set_option maxRecDepth 100000 in
set_option maxHeartbeats 1000000 in
theorem refDo_kind (B : Nat) (vS vC vK vF : Value) (f : Nat → Value) (D : Dev) (i : Nat) (k s : Int) (t : ByteArray) (key : Int) (w : World) (hO : OwnD w B vS vC vK vF f D) (hB : B ≤ w.heap.size) (hm : MayD D) (hS : Small D 1099511627776) (hi : i < D.K.length) (hk : k < 1 ∨ 6 < k) :
    Calls Try.prog 14 #[.agg #[vS, vC, vK, .int .i64 D.n, vF], .int .i64 (i : Int), .agg #[.int .i8 k, .int .i64 s, .string t, .int .i64 key]] w (RAct B (doD D (i : Int) ⟨k, s, t, key⟩) (doS D (i : Int) ⟨k, s, t, key⟩) (refE D (i : Int) ⟨k, s, t, key⟩) w) := by
  obtain ⟨aS, cS, aC, cC, aK, cK, aF, cF, rfl, rfl, rfl, rfl⟩ := own_shapes hO
  obtain ⟨W0, hW⟩ : ∃ W0, W0 = ((w.alloc (.cells #[.slice aS D.S.length cS, .slice aC D.C.length cC, .slice aK D.K.length cK, .int .i64 D.n, .slice aF D.F.length cF] 29)).alloc (.cells #[.int .i8 k, .int .i64 s, .string t, .int .i64 key] 38)).alloc (.cells #[.slice none 0 0, .slice none 0 0, .slice none 0 0, .int .i64 0, .slice none 0 0] 29) := ⟨_, rfl⟩
  obtain ⟨b, hbe⟩ : ∃ b, w.heap.size = b := ⟨_, rfl⟩
  have hb0 : Below b w W0 := by rw [hW]; exact (((Below.refl _ _).alloc (by omega) _).alloc (by simp; omega) _).alloc (by simp; omega) _
  have p0 : Blk W0 b #[.slice aS D.S.length cS, .slice aC D.C.length cC, .slice aK D.K.length cK, .int .i64 D.n, .slice aF D.F.length cF] 29 := by rw [hW, ← hbe]; exact ((Blk.new w _ _).alloc _).alloc _
  have m0 : Blk W0 (b + 1) #[.int .i8 k, .int .i64 s, .string t, .int .i64 key] 38 := by
    have h1 := (Blk.new (w.alloc (.cells #[.slice aS D.S.length cS, .slice aC D.C.length cC, .slice aK D.K.length cK, .int .i64 D.n, .slice aF D.F.length cF] 29)) #[.int .i8 k, .int .i64 s, .string t, .int .i64 key] 38).alloc (.cells #[.slice none 0 0, .slice none 0 0, .slice none 0 0, .int .i64 0, .slice none 0 0] 29)
    rw [hW, ← hbe]
    simpa using h1
  have r0 : Blk W0 (b + 1 + 1) #[.slice none 0 0, .slice none 0 0, .slice none 0 0, .int .i64 0, .slice none 0 0] 29 := by
    have h1 := Blk.new ((w.alloc (.cells #[.slice aS D.S.length cS, .slice aC D.C.length cC, .slice aK D.K.length cK, .int .i64 D.n, .slice aF D.F.length cF] 29)).alloc (.cells #[.int .i8 k, .int .i64 s, .string t, .int .i64 key] 38)) #[.slice none 0 0, .slice none 0 0, .slice none 0 0, .int .i64 0, .slice none 0 0] 29
    rw [hW, ← hbe]
    simpa using h1
  have hO0 := hO.up (hbe ▸ hb0)
  have hsz : W0.heap.size = b + 3 := by rw [hW, ← hbe]; simp
  have hc := refCheck_yes _ D W0 hO0.dev hm hS.s
  obtain ⟨q0, q1, q2, q3, q4⟩ := five_cells p0
  obtain ⟨y0, y1, y2, y3⟩ := act_cells m0
  clear hO
  have HX : Hid (doD D (i : Int) ⟨k, s, t, key⟩ = D ∧ doS D (i : Int) ⟨k, s, t, key⟩ = ⟨#[]⟩ ∧ refE D (i : Int) ⟨k, s, t, key⟩ = 2) := do_is hi (by unfold actE; rw [if_pos hk]) (by decide)
  have t1 : decide ((i : Int) < 0) = false := decide_eq_false (by omega)
  have t2 : decide ((D.K.length : Int) ≤ (i : Int)) = false := decide_eq_false (by omega)
  have hcs : decide (k < 1) = true ∨ (decide (k < 1) = false ∧ decide (6 < k) = true) := by
    by_cases h : k < 1
    · exact .inl (decide_eq_true h)
    · exact .inr ⟨decide_eq_false h, decide_eq_true (by omega)⟩
  clear hk
  rcases hcs with s1 | ⟨s1, s2⟩
  all_goals go_enter Try.func14, Try.ntmps14
  all_goals go_wp2_with fail
  all_goals rw [← hW]
  all_goals refine hc.mono ?_
  all_goals rintro e w1 ⟨rfl, hc1⟩
  all_goals have p1 := p0.below hc1 p0.lt
  all_goals have m1 := m0.below hc1 m0.lt
  all_goals have r1 := r0.below hc1 r0.lt
  all_goals have hO1 := hO0.up hc1
  all_goals have hb1 := hb0.trans (hc1.mono (by omega))
  all_goals clear q0 q1 q2 q3 q4 y0 y1 y2 y3 p0 m0 r0 hb0 hO0 hc hc1 hW
  all_goals obtain ⟨q0, q1, q2, q3, q4⟩ := five_cells p1
  all_goals obtain ⟨y0, y1, y2, y3⟩ := act_cells m1
  all_goals obtain ⟨z0, z1, z2, z3, z4⟩ := five_cells r1
  all_goals obtain ⟨f0, f1, f2, f3, f4⟩ := five_free r1
  all_goals have H1 := Lib.hid (into5_range r1 rfl (.slice aS D.S.length cS) (.slice aC D.C.length cC) (.slice aK D.K.length cK) D.n (.slice aF D.F.length cF))
  all_goals have H2 := Lib.hid (into5_other hO1 r1 (by decide) (by decide) (by decide) (by decide) (.slice aS D.S.length cS) (.slice aC D.C.length cC) (.slice aK D.K.length cK) D.n (.slice aF D.F.length cF))
  all_goals have H3 := Lib.hid (into5_below hb1 (show b ≤ b + 1 + 1 by omega) (.slice aS D.S.length cS) (.slice aC D.C.length cC) (.slice aK D.K.length cK) D.n (.slice aF D.F.length cF))
  all_goals clear hO1 p1 m1 r1 hb1
  all_goals go_wp2_with fail
  all_goals refine bodyPost_ret (results_c3 (cs := [.slice aS D.S.length cS, .slice aC D.C.length cC, .slice aK D.K.length cK, .int .i64 D.n, .slice aF D.F.length cF]) Try.results14 (by rfl) (by rfl) (by rfl) H1.out Try.underlying29 rfl (by kernel_rfl)) rfl ?_
  all_goals rw [HX.out.1, HX.out.2.1, HX.out.2.2]
  all_goals exact rAct_of H2.out (by rw [hbe]; exact H3.out) rfl


end Go.Proofs.Ytleemgjbihdbgaa

/-
  The document's device: an act, kind by kind: by contract. (all kinds)
-/
namespace Go.Proofs.Ytleemgjbihdbgaa
open Go.RowKit
set_option linter.unusedVariables false
set_option linter.unusedSimpArgs false

theorem refDo_any (B : Nat) (vS vC vK vF : Value) (f : Nat → Value) (D : Dev) (node : Int) (a : ActM) (w : World) (hO : OwnD w B vS vC vK vF f D) (hB : B ≤ w.heap.size) (hm : MayD D) (hS : Small D 1099511627776) (ha : ActBd a) (htm : a.b.size ≤ maxLen) :
    Calls Try.prog 14 #[.agg #[vS, vC, vK, .int .i64 D.n, vF], .int .i64 node, actV a] w (RAct B (doD D node a) (doS D node a) (refE D node a) w) := by
  obtain ⟨k, s, t, key⟩ := a
  by_cases hN : NodeOk D node
  · obtain ⟨i, rfl⟩ := Int.eq_ofNat_of_zero_le hN.1
    have hi : i < D.K.length := by have := hN.2; omega
    by_cases hk : k < 1 ∨ 6 < k
    · exact refDo_kind B vS vC vK vF f D i k s t key w hO hB hm hS hi hk
    · have h6 : k = 1 ∨ k = 2 ∨ k = 3 ∨ k = 4 ∨ k = 5 ∨ k = 6 := by omega
      rcases h6 with rfl | rfl | rfl | rfl | rfl | rfl
      · exact refDo1 B vS vC vK vF f D i s t key w hO hB hm hS hi ha htm
      · exact refDo2 B vS vC vK vF f D i s t key w hO hB hm hS hi ha htm
      · exact refDo3 B vS vC vK vF f D i s t key w hO hB hm hS hi ha htm
      · exact refDo4 B vS vC vK vF f D i s t key w hO hB hm hS hi ha htm
      · exact refDo5 B vS vC vK vF f D i s t key w hO hB hm hS hi ha htm
      · exact refDo6 B vS vC vK vF f D i s t key w hO hB hm hS hi ha htm
  · exact refDo_node B vS vC vK vF f D node k s t key w hO hB hm hS hN

end Go.Proofs.Ytleemgjbihdbgaa

/-
  A deed done, by the program and by the document: by contract.
-/
namespace Go.Proofs.Ytleemgjbihdbgaa
open Go.RowKit
set_option linter.unusedVariables false
set_option linter.unusedSimpArgs false

/-- A deed as a value. -/
def deedV (x : DeedM) : Value := .agg #[.int .i64 x.dk, .int .i64 x.node, .int .i8 x.a.k, .int .i64 x.a.s, .string x.a.b, .int .i64 x.a.key, .int .u64 (x.kept : Int)]
theorem deed_do (D : Dev) (node : Int) (a : ActM) (kept : Nat) : deedD D ⟨0, node, a, kept⟩ = doD D node a ∧ deedS D ⟨0, node, a, kept⟩ = doS D node a ∧ deedE D ⟨0, node, a, kept⟩ = refE D node a := by
  unfold deedD deedS deedE doD doS refE
  by_cases hn : NodeOk D node <;> simp [hn]
theorem deed_crash (D : Dev) (node : Int) (a : ActM) (kept : Nat) : deedD D ⟨1, node, a, kept⟩ = crD D node kept ∧ deedS D ⟨1, node, a, kept⟩ = ⟨#[]⟩ ∧ deedE D ⟨1, node, a, kept⟩ = nodeE D node := by
  unfold deedD deedS deedE crD nodeE
  by_cases hn : NodeOk D node <;> simp [hn]
theorem deed_start (D : Dev) (node : Int) (a : ActM) (kept : Nat) : deedD D ⟨2, node, a, kept⟩ = stD D node ∧ deedS D ⟨2, node, a, kept⟩ = ⟨#[]⟩ ∧ deedE D ⟨2, node, a, kept⟩ = nodeE D node := by
  unfold deedD deedS deedE stD nodeE
  by_cases hn : NodeOk D node <;> simp [hn]
theorem deed_other (D : Dev) (dk node : Int) (a : ActM) (kept : Nat) (h0 : dk ≠ 0) (h1 : dk ≠ 1) (h2 : dk ≠ 2) : deedD D ⟨dk, node, a, kept⟩ = D ∧ deedS D ⟨dk, node, a, kept⟩ = ⟨#[]⟩ ∧ deedE D ⟨dk, node, a, kept⟩ = 0 := by
  unfold deedD deedS deedE
  by_cases hn : NodeOk D node <;> simp [hn, h0, h1, h2]
theorem rAct_from {B : Nat} {D' : Dev} {s : ByteArray} {E : Int} {w w' : World} {e : Ending} (hB : B ≤ w.heap.size) (h : ActPost D' s E w e w') : RAct B D' s E w e w' := by
  obtain ⟨vS, vC, vK, vF, f, he, h1, h2⟩ := h
  exact ⟨vS, vC, vK, vF, f, he, h1.less hB, h2⟩
theorem rDev_from {B : Nat} {D' : Dev} {E : Int} {w w' : World} {e : Ending} (hB : B ≤ w.heap.size) (h : DevPost D' E w e w') : RDev B D' E w e w' := by
  obtain ⟨vS, vC, vK, vF, f, he, h1, h2⟩ := h
  exact ⟨vS, vC, vK, vF, f, he, h1.less hB, h2⟩

set_option maxRecDepth 100000 in
set_option maxHeartbeats 2000000 in
theorem his_any (B : Nat) (vS vC vK vF : Value) (f : Nat → Value) (D : Dev) (dk node : Int) (a : ActM) (kept : Nat) (w : World) (hO : OwnD w B vS vC vK vF f D) (hB : B ≤ w.heap.size) (hm : MayD D) (hS : Small D 1099511627776) (ha : ActBd a) (htm : a.b.size ≤ maxLen) (hkept : kept < 18446744073709551616) :
    Calls Try.prog 12 #[.agg #[vS, vC, vK, .int .i64 D.n, vF], .agg #[.int .i64 dk, .int .i64 node, .int .i8 a.k, .int .i64 a.s, .string a.b, .int .i64 a.key, .int .u64 (kept : Int)]] w (RAct B (deedD D ⟨dk, node, a, kept⟩) (deedS D ⟨dk, node, a, kept⟩) (deedE D ⟨dk, node, a, kept⟩) w) := by
  obtain ⟨aS, cS, aC, cC, aK, cK, aF, cF, rfl, rfl, rfl, rfl⟩ := own_shapes hO
  obtain ⟨W0, hW⟩ : ∃ W0, W0 = ((w.alloc (.cells #[.slice aS D.S.length cS, .slice aC D.C.length cC, .slice aK D.K.length cK, .int .i64 D.n, .slice aF D.F.length cF] 29)).alloc (.cells #[.int .i64 dk, .int .i64 node, .int .i8 a.k, .int .i64 a.s, .string a.b, .int .i64 a.key, .int .u64 (kept : Int)] 41)).alloc (.cells #[.slice none 0 0, .slice none 0 0, .slice none 0 0, .int .i64 0, .slice none 0 0] 29) := ⟨_, rfl⟩
  obtain ⟨b, hbe⟩ : ∃ b, w.heap.size = b := ⟨_, rfl⟩
  have hb0 : Below b w W0 := by rw [hW]; exact (((Below.refl _ _).alloc (by omega) _).alloc (by simp; omega) _).alloc (by simp; omega) _
  have r0 : Blk W0 (b + 1 + 1) #[.slice none 0 0, .slice none 0 0, .slice none 0 0, .int .i64 0, .slice none 0 0] 29 := by
    have h1 := Blk.new ((w.alloc (.cells #[.slice aS D.S.length cS, .slice aC D.C.length cC, .slice aK D.K.length cK, .int .i64 D.n, .slice aF D.F.length cF] 29)).alloc (.cells #[.int .i64 dk, .int .i64 node, .int .i8 a.k, .int .i64 a.s, .string a.b, .int .i64 a.key, .int .u64 (kept : Int)] 41)) #[.slice none 0 0, .slice none 0 0, .slice none 0 0, .int .i64 0, .slice none 0 0] 29
    rw [hW, ← hbe]
    simpa using h1
  have hO0 := hO.up (hbe ▸ hb0)
  have hsz : W0.heap.size = b + 3 := by rw [hW, ← hbe]; simp
  have hB0 : B ≤ W0.heap.size := by omega
  have HOO := Lib.hid hO
  clear hO
  by_cases h0 : dk = 0
  · subst h0
    have HX := Lib.hid (deed_do D node a kept)
    have hin : Calls Try.prog 14 #[.agg #[.slice aS D.S.length cS, .slice aC D.C.length cC, .slice aK D.K.length cK, .int .i64 D.n, .slice aF D.F.length cF], .int .i64 node, .agg #[.int .i8 a.k, .int .i64 a.s, .string a.b, .int .i64 a.key]] W0 (RAct B (doD D node a) (doS D node a) (refE D node a) W0) := refDo_any B _ _ _ _ f D node a W0 hO0 hB0 hm hS ha htm
    generalize doD D node a = Dn at *
    generalize doS D node a = sn at *
    generalize refE D node a = en at *
    go_enter Try.func12, Try.ntmps12
    go_wp2_with fail
    rw [← hW]
    clear hW
    refine hin.mono ?_
    rintro e w1 ⟨uS, uC, uK, uF, g, rfl, hN, hc1⟩
    clear hin
    obtain ⟨xS, yS, xC, yC, xK, yK, xF, yF, rfl, rfl, rfl, rfl⟩ := own_shapes hN
    have r1 := r0.below hc1 r0.lt
    have hb1 := hb0.trans (hc1.mono (by omega))
    obtain ⟨z0, z1, z2, z3, z4⟩ := five_cells r1
    obtain ⟨f0, f1, f2, f3, f4⟩ := five_free r1
    have H1 := Lib.hid (into5_range r1 rfl (.slice xS (Dn).S.length yS) (.slice xC (Dn).C.length yC) (.slice xK (Dn).K.length yK) Dn.n (.slice xF (Dn).F.length yF))
    have H2 := Lib.hid (into5_other hN r1 (by decide) (by decide) (by decide) (by decide) (.slice xS (Dn).S.length yS) (.slice xC (Dn).C.length yC) (.slice xK (Dn).K.length yK) Dn.n (.slice xF (Dn).F.length yF))
    have H3 := Lib.hid (into5_below hb1 (show b ≤ b + 1 + 1 by omega) (.slice xS (Dn).S.length yS) (.slice xC (Dn).C.length yC) (.slice xK (Dn).K.length yK) Dn.n (.slice xF (Dn).F.length yF))
    clear hN r0 r1 hb0 hb1 hc1 hO0
    go_wp2_with fail
    refine bodyPost_ret (results_c3 (cs := [.slice xS (Dn).S.length yS, .slice xC (Dn).C.length yC, .slice xK (Dn).K.length yK, .int .i64 (Dn.n), .slice xF (Dn).F.length yF]) Try.results12 (by rfl) (by rfl) (by rfl) H1.out Try.underlying29 rfl (by kernel_rfl)) rfl ?_
    rw [HX.out.1, HX.out.2.1, HX.out.2.2]
    exact rAct_of H2.out (by rw [hbe]; exact H3.out) rfl
  · by_cases h1 : dk = 1
    · subst h1
      have HX := Lib.hid (deed_crash D node a kept)
      have hin : Calls Try.prog 25 #[.agg #[.slice aS D.S.length cS, .slice aC D.C.length cC, .slice aK D.K.length cK, .int .i64 D.n, .slice aF D.F.length cF], .int .i64 node, .int .u64 (kept : Int)] W0 (RDev B (crD D node kept) (nodeE D node) W0) := refCrash_any B _ _ _ _ f D node kept W0 hO0 hB0 hm hS hkept
      generalize crD D node kept = Dn at *
      generalize nodeE D node = en at *
      go_enter Try.func12, Try.ntmps12
      go_wp2_with fail
      rw [← hW]
      clear hW
      refine hin.mono ?_
      rintro e w1 ⟨uS, uC, uK, uF, g, rfl, hN, hc1⟩
      clear hin
      obtain ⟨xS, yS, xC, yC, xK, yK, xF, yF, rfl, rfl, rfl, rfl⟩ := own_shapes hN
      have r1 := r0.below hc1 r0.lt
      have hb1 := hb0.trans (hc1.mono (by omega))
      have hs1 := hc1.size
      have hql : b + 1 + 1 < w1.heap.size := by omega
      obtain ⟨z0, z1, z2, z3, z4⟩ := five_cells r1
      obtain ⟨f0, f1, f2, f3, f4⟩ := five_free r1
      have H1 := Lib.hid ((into5_self r1 rfl (.slice xS (Dn).S.length yS) (.slice xC (Dn).C.length yC) (.slice xK (Dn).K.length yK) Dn.n (.slice xF (Dn).F.length yF)).alloc (.cells #[.slice xS (Dn).S.length yS, .slice xC (Dn).C.length yC, .slice xK (Dn).K.length yK, .int .i64 Dn.n, .slice xF (Dn).F.length yF] 29)).range
      have H2 := Lib.hid ((into5_other hN r1 (by decide) (by decide) (by decide) (by decide) (.slice xS (Dn).S.length yS) (.slice xC (Dn).C.length yC) (.slice xK (Dn).K.length yK) Dn.n (.slice xF (Dn).F.length yF)).up (below_alloc _ (.cells #[.slice xS (Dn).S.length yS, .slice xC (Dn).C.length yC, .slice xK (Dn).K.length yK, .int .i64 Dn.n, .slice xF (Dn).F.length yF] 29)))
      have H3 := Lib.hid ((into5_below hb1 (show b ≤ b + 1 + 1 by omega) (.slice xS (Dn).S.length yS) (.slice xC (Dn).C.length yC) (.slice xK (Dn).K.length yK) Dn.n (.slice xF (Dn).F.length yF)).alloc (by simp [into5]; omega) (.cells #[.slice xS (Dn).S.length yS, .slice xC (Dn).C.length yC, .slice xK (Dn).K.length yK, .int .i64 Dn.n, .slice xF (Dn).F.length yF] 29))
      clear hN r0 r1 hb0 hb1 hc1 hO0
      go_wp2_with fail
      refine bodyPost_ret (results_c3 (cs := [.slice xS (Dn).S.length yS, .slice xC (Dn).C.length yC, .slice xK (Dn).K.length yK, .int .i64 (Dn.n), .slice xF (Dn).F.length yF]) Try.results12 (by rfl) (by rfl) (by rfl) H1.out Try.underlying29 rfl (by kernel_rfl)) rfl ?_
      rw [HX.out.1, HX.out.2.1, HX.out.2.2]
      exact rAct_of H2.out (by rw [hbe]; exact H3.out) rfl
    · by_cases h2 : dk = 2
      · subst h2
        have HX := Lib.hid (deed_start D node a kept)
        have hin : Calls Try.prog 26 #[.agg #[.slice aS D.S.length cS, .slice aC D.C.length cC, .slice aK D.K.length cK, .int .i64 D.n, .slice aF D.F.length cF], .int .i64 node] W0 (RDev B (stD D node) (nodeE D node) W0) := refStart_any B _ _ _ _ f D node W0 hO0 hB0 hm hS
        generalize stD D node = Dn at *
        generalize nodeE D node = en at *
        go_enter Try.func12, Try.ntmps12
        go_wp2_with fail
        rw [← hW]
        clear hW
        refine hin.mono ?_
        rintro e w1 ⟨uS, uC, uK, uF, g, rfl, hN, hc1⟩
        clear hin
        obtain ⟨xS, yS, xC, yC, xK, yK, xF, yF, rfl, rfl, rfl, rfl⟩ := own_shapes hN
        have r1 := r0.below hc1 r0.lt
        have hb1 := hb0.trans (hc1.mono (by omega))
        have hs1 := hc1.size
        have hql : b + 1 + 1 < w1.heap.size := by omega
        obtain ⟨z0, z1, z2, z3, z4⟩ := five_cells r1
        obtain ⟨f0, f1, f2, f3, f4⟩ := five_free r1
        have H1 := Lib.hid ((into5_self r1 rfl (.slice xS (Dn).S.length yS) (.slice xC (Dn).C.length yC) (.slice xK (Dn).K.length yK) Dn.n (.slice xF (Dn).F.length yF)).alloc (.cells #[.slice xS (Dn).S.length yS, .slice xC (Dn).C.length yC, .slice xK (Dn).K.length yK, .int .i64 Dn.n, .slice xF (Dn).F.length yF] 29)).range
        have H2 := Lib.hid ((into5_other hN r1 (by decide) (by decide) (by decide) (by decide) (.slice xS (Dn).S.length yS) (.slice xC (Dn).C.length yC) (.slice xK (Dn).K.length yK) Dn.n (.slice xF (Dn).F.length yF)).up (below_alloc _ (.cells #[.slice xS (Dn).S.length yS, .slice xC (Dn).C.length yC, .slice xK (Dn).K.length yK, .int .i64 Dn.n, .slice xF (Dn).F.length yF] 29)))
        have H3 := Lib.hid ((into5_below hb1 (show b ≤ b + 1 + 1 by omega) (.slice xS (Dn).S.length yS) (.slice xC (Dn).C.length yC) (.slice xK (Dn).K.length yK) Dn.n (.slice xF (Dn).F.length yF)).alloc (by simp [into5]; omega) (.cells #[.slice xS (Dn).S.length yS, .slice xC (Dn).C.length yC, .slice xK (Dn).K.length yK, .int .i64 Dn.n, .slice xF (Dn).F.length yF] 29))
        clear hN r0 r1 hb0 hb1 hc1 hO0
        go_wp2_with fail
        refine bodyPost_ret (results_c3 (cs := [.slice xS (Dn).S.length yS, .slice xC (Dn).C.length yC, .slice xK (Dn).K.length yK, .int .i64 (Dn.n), .slice xF (Dn).F.length yF]) Try.results12 (by rfl) (by rfl) (by rfl) H1.out Try.underlying29 rfl (by kernel_rfl)) rfl ?_
        rw [HX.out.1, HX.out.2.1, HX.out.2.2]
        exact rAct_of H2.out (by rw [hbe]; exact H3.out) rfl
      · have HX := Lib.hid (deed_other D dk node a kept h0 h1 h2)
        have e0 : (dk == 0) = false := by simpa using h0
        have e1 : (dk == 1) = false := by simpa using h1
        have e2 : (dk == 2) = false := by simpa using h2
        have p0 : Blk W0 b #[.slice aS D.S.length cS, .slice aC D.C.length cC, .slice aK D.K.length cK, .int .i64 D.n, .slice aF D.F.length cF] 29 := by rw [hW, ← hbe]; exact ((Blk.new w _ _).alloc _).alloc _
        obtain ⟨z0, z1, z2, z3, z4⟩ := five_cells r0
        obtain ⟨f0, f1, f2, f3, f4⟩ := five_free r0
        obtain ⟨q0, q1, q2, q3, q4⟩ := five_cells p0
        rw [hW] at z0 z1 z2 z3 z4 f0 f1 f2 f3 f4 q0 q1 q2 q3 q4
        obtain ⟨WF, hWF⟩ : ∃ W, W = ((w.alloc (.cells #[.slice aS D.S.length cS, .slice aC D.C.length cC, .slice aK D.K.length cK, .int .i64 D.n, .slice aF D.F.length cF] 29)).alloc (.cells #[.int .i64 dk, .int .i64 node, .int .i8 a.k, .int .i64 a.s, .string a.b, .int .i64 a.key, .int .u64 (kept : Int)] 41)).alloc (.cells #[.slice aS D.S.length cS, .slice aC D.C.length cC, .slice aK D.K.length cK, .int .i64 D.n, .slice aF D.F.length cF] 29) := ⟨_, rfl⟩
        have hbF : Below b w WF := by rw [hWF]; exact (((Below.refl _ _).alloc (by omega) _).alloc (by simp; omega) _).alloc (by simp; omega) _
        have rF : Blk WF (b + 1 + 1) #[.slice aS D.S.length cS, .slice aC D.C.length cC, .slice aK D.K.length cK, .int .i64 D.n, .slice aF D.F.length cF] 29 := by
          have h1 := Blk.new ((w.alloc (.cells #[.slice aS D.S.length cS, .slice aC D.C.length cC, .slice aK D.K.length cK, .int .i64 D.n, .slice aF D.F.length cF] 29)).alloc (.cells #[.int .i64 dk, .int .i64 node, .int .i8 a.k, .int .i64 a.s, .string a.b, .int .i64 a.key, .int .u64 (kept : Int)] 41)) #[.slice aS D.S.length cS, .slice aC D.C.length cC, .slice aK D.K.length cK, .int .i64 D.n, .slice aF D.F.length cF] 29
          rw [hWF, ← hbe]
          simpa using h1
        have H1 := Lib.hid rF.range
        have H2 := Lib.hid (HOO.out.up (hbe ▸ hbF))
        have H3 := Lib.hid hbF
        rw [hWF] at H1 H2 H3
        clear hWF rF hbF
        clear hO0 r0 p0 hb0 hW h0 h1 h2
        go_enter Try.func12, Try.ntmps12
        go_wp2_with fail
        refine bodyPost_ret (results_c3 (cs := [.slice aS D.S.length cS, .slice aC D.C.length cC, .slice aK D.K.length cK, .int .i64 (D.n), .slice aF D.F.length cF]) Try.results12 (by rfl) (by rfl) (by rfl) H1.out Try.underlying29 rfl (by kernel_rfl)) rfl ?_
        rw [HX.out.1, HX.out.2.1, HX.out.2.2]
        exact rAct_of H2.out (by rw [hbe]; exact H3.out) rfl

set_option maxRecDepth 100000 in
set_option maxHeartbeats 2000000 in
theorem does_any (B : Nat) (vS vC vK vF : Value) (f : Nat → Value) (D : Dev) (dk node : Int) (a : ActM) (kept : Nat) (w : World) (hO : OwnD w B vS vC vK vF f D) (hB : B ≤ w.heap.size) (hm : MayD D) (hS : Small D 1099511627776) (ha : ActBd a) (htm : a.b.size ≤ maxLen) (hkept : kept < 18446744073709551616) :
    Calls Try.prog 11 #[.agg #[vS, vC, vK, .int .i64 D.n, vF], .agg #[.int .i64 dk, .int .i64 node, .int .i8 a.k, .int .i64 a.s, .string a.b, .int .i64 a.key, .int .u64 (kept : Int)]] w (RAct B (deedD D ⟨dk, node, a, kept⟩) (deedS D ⟨dk, node, a, kept⟩) (deedE D ⟨dk, node, a, kept⟩) w) := by
  obtain ⟨aS, cS, aC, cC, aK, cK, aF, cF, rfl, rfl, rfl, rfl⟩ := own_shapes hO
  obtain ⟨W0, hW⟩ : ∃ W0, W0 = ((w.alloc (.cells #[.slice aS D.S.length cS, .slice aC D.C.length cC, .slice aK D.K.length cK, .int .i64 D.n, .slice aF D.F.length cF] 29)).alloc (.cells #[.int .i64 dk, .int .i64 node, .int .i8 a.k, .int .i64 a.s, .string a.b, .int .i64 a.key, .int .u64 (kept : Int)] 41)).alloc (.cells #[.slice none 0 0, .slice none 0 0, .slice none 0 0, .int .i64 0, .slice none 0 0] 29) := ⟨_, rfl⟩
  obtain ⟨b, hbe⟩ : ∃ b, w.heap.size = b := ⟨_, rfl⟩
  have hb0 : Below b w W0 := by rw [hW]; exact (((Below.refl _ _).alloc (by omega) _).alloc (by simp; omega) _).alloc (by simp; omega) _
  have r0 : Blk W0 (b + 1 + 1) #[.slice none 0 0, .slice none 0 0, .slice none 0 0, .int .i64 0, .slice none 0 0] 29 := by
    have h1 := Blk.new ((w.alloc (.cells #[.slice aS D.S.length cS, .slice aC D.C.length cC, .slice aK D.K.length cK, .int .i64 D.n, .slice aF D.F.length cF] 29)).alloc (.cells #[.int .i64 dk, .int .i64 node, .int .i8 a.k, .int .i64 a.s, .string a.b, .int .i64 a.key, .int .u64 (kept : Int)] 41)) #[.slice none 0 0, .slice none 0 0, .slice none 0 0, .int .i64 0, .slice none 0 0] 29
    rw [hW, ← hbe]
    simpa using h1
  have hO0 := hO.up (hbe ▸ hb0)
  have hsz : W0.heap.size = b + 3 := by rw [hW, ← hbe]; simp
  have hB0 : B ≤ W0.heap.size := by omega
  have HOO := Lib.hid hO
  clear hO
  by_cases h0 : dk = 0
  · subst h0
    have HX := Lib.hid (deed_do D node a kept)
    have hin : Calls Try.prog 15 #[.agg #[.slice aS D.S.length cS, .slice aC D.C.length cC, .slice aK D.K.length cK, .int .i64 D.n, .slice aF D.F.length cF], .int .i64 node, .agg #[.int .i8 a.k, .int .i64 a.s, .string a.b, .int .i64 a.key]] W0 (RAct B (doD D node a) (doS D node a) (refE D node a) W0) := (devDo_any _ D node a W0 hO0.dev hm hS ha).mono fun e w' h => rAct_from hB0 h
    generalize doD D node a = Dn at *
    generalize doS D node a = sn at *
    generalize refE D node a = en at *
    go_enter Try.func11, Try.ntmps11
    go_wp2_with fail
    rw [← hW]
    clear hW
    refine hin.mono ?_
    rintro e w1 ⟨uS, uC, uK, uF, g, rfl, hN, hc1⟩
    clear hin
    obtain ⟨xS, yS, xC, yC, xK, yK, xF, yF, rfl, rfl, rfl, rfl⟩ := own_shapes hN
    have r1 := r0.below hc1 r0.lt
    have hb1 := hb0.trans (hc1.mono (by omega))
    obtain ⟨z0, z1, z2, z3, z4⟩ := five_cells r1
    obtain ⟨f0, f1, f2, f3, f4⟩ := five_free r1
    have H1 := Lib.hid (into5_range r1 rfl (.slice xS (Dn).S.length yS) (.slice xC (Dn).C.length yC) (.slice xK (Dn).K.length yK) Dn.n (.slice xF (Dn).F.length yF))
    have H2 := Lib.hid (into5_other hN r1 (by decide) (by decide) (by decide) (by decide) (.slice xS (Dn).S.length yS) (.slice xC (Dn).C.length yC) (.slice xK (Dn).K.length yK) Dn.n (.slice xF (Dn).F.length yF))
    have H3 := Lib.hid (into5_below hb1 (show b ≤ b + 1 + 1 by omega) (.slice xS (Dn).S.length yS) (.slice xC (Dn).C.length yC) (.slice xK (Dn).K.length yK) Dn.n (.slice xF (Dn).F.length yF))
    clear hN r0 r1 hb0 hb1 hc1 hO0
    go_wp2_with fail
    refine bodyPost_ret (results_c3 (cs := [.slice xS (Dn).S.length yS, .slice xC (Dn).C.length yC, .slice xK (Dn).K.length yK, .int .i64 (Dn.n), .slice xF (Dn).F.length yF]) Try.results11 (by rfl) (by rfl) (by rfl) H1.out Try.underlying29 rfl (by kernel_rfl)) rfl ?_
    rw [HX.out.1, HX.out.2.1, HX.out.2.2]
    exact rAct_of H2.out (by rw [hbe]; exact H3.out) rfl
  · by_cases h1 : dk = 1
    · subst h1
      have HX := Lib.hid (deed_crash D node a kept)
      have hin : Calls Try.prog 19 #[.agg #[.slice aS D.S.length cS, .slice aC D.C.length cC, .slice aK D.K.length cK, .int .i64 D.n, .slice aF D.F.length cF], .int .i64 node, .int .u64 (kept : Int)] W0 (RDev B (crD D node kept) (nodeE D node) W0) := (devCrash_any _ D node kept W0 hO0.dev hm hS hkept).mono fun e w' h => rDev_from hB0 h
      generalize crD D node kept = Dn at *
      generalize nodeE D node = en at *
      go_enter Try.func11, Try.ntmps11
      go_wp2_with fail
      rw [← hW]
      clear hW
      refine hin.mono ?_
      rintro e w1 ⟨uS, uC, uK, uF, g, rfl, hN, hc1⟩
      clear hin
      obtain ⟨xS, yS, xC, yC, xK, yK, xF, yF, rfl, rfl, rfl, rfl⟩ := own_shapes hN
      have r1 := r0.below hc1 r0.lt
      have hb1 := hb0.trans (hc1.mono (by omega))
      have hs1 := hc1.size
      have hql : b + 1 + 1 < w1.heap.size := by omega
      obtain ⟨z0, z1, z2, z3, z4⟩ := five_cells r1
      obtain ⟨f0, f1, f2, f3, f4⟩ := five_free r1
      have H1 := Lib.hid ((into5_self r1 rfl (.slice xS (Dn).S.length yS) (.slice xC (Dn).C.length yC) (.slice xK (Dn).K.length yK) Dn.n (.slice xF (Dn).F.length yF)).alloc (.cells #[.slice xS (Dn).S.length yS, .slice xC (Dn).C.length yC, .slice xK (Dn).K.length yK, .int .i64 Dn.n, .slice xF (Dn).F.length yF] 29)).range
      have H2 := Lib.hid ((into5_other hN r1 (by decide) (by decide) (by decide) (by decide) (.slice xS (Dn).S.length yS) (.slice xC (Dn).C.length yC) (.slice xK (Dn).K.length yK) Dn.n (.slice xF (Dn).F.length yF)).up (below_alloc _ (.cells #[.slice xS (Dn).S.length yS, .slice xC (Dn).C.length yC, .slice xK (Dn).K.length yK, .int .i64 Dn.n, .slice xF (Dn).F.length yF] 29)))
      have H3 := Lib.hid ((into5_below hb1 (show b ≤ b + 1 + 1 by omega) (.slice xS (Dn).S.length yS) (.slice xC (Dn).C.length yC) (.slice xK (Dn).K.length yK) Dn.n (.slice xF (Dn).F.length yF)).alloc (by simp [into5]; omega) (.cells #[.slice xS (Dn).S.length yS, .slice xC (Dn).C.length yC, .slice xK (Dn).K.length yK, .int .i64 Dn.n, .slice xF (Dn).F.length yF] 29))
      clear hN r0 r1 hb0 hb1 hc1 hO0
      go_wp2_with fail
      refine bodyPost_ret (results_c3 (cs := [.slice xS (Dn).S.length yS, .slice xC (Dn).C.length yC, .slice xK (Dn).K.length yK, .int .i64 (Dn.n), .slice xF (Dn).F.length yF]) Try.results11 (by rfl) (by rfl) (by rfl) H1.out Try.underlying29 rfl (by kernel_rfl)) rfl ?_
      rw [HX.out.1, HX.out.2.1, HX.out.2.2]
      exact rAct_of H2.out (by rw [hbe]; exact H3.out) rfl
    · by_cases h2 : dk = 2
      · subst h2
        have HX := Lib.hid (deed_start D node a kept)
        have hin : Calls Try.prog 24 #[.agg #[.slice aS D.S.length cS, .slice aC D.C.length cC, .slice aK D.K.length cK, .int .i64 D.n, .slice aF D.F.length cF], .int .i64 node] W0 (RDev B (stD D node) (nodeE D node) W0) := (devStart_any _ D node W0 hO0.dev hm hS).mono fun e w' h => rDev_from hB0 h
        generalize stD D node = Dn at *
        generalize nodeE D node = en at *
        go_enter Try.func11, Try.ntmps11
        go_wp2_with fail
        rw [← hW]
        clear hW
        refine hin.mono ?_
        rintro e w1 ⟨uS, uC, uK, uF, g, rfl, hN, hc1⟩
        clear hin
        obtain ⟨xS, yS, xC, yC, xK, yK, xF, yF, rfl, rfl, rfl, rfl⟩ := own_shapes hN
        have r1 := r0.below hc1 r0.lt
        have hb1 := hb0.trans (hc1.mono (by omega))
        have hs1 := hc1.size
        have hql : b + 1 + 1 < w1.heap.size := by omega
        obtain ⟨z0, z1, z2, z3, z4⟩ := five_cells r1
        obtain ⟨f0, f1, f2, f3, f4⟩ := five_free r1
        have H1 := Lib.hid ((into5_self r1 rfl (.slice xS (Dn).S.length yS) (.slice xC (Dn).C.length yC) (.slice xK (Dn).K.length yK) Dn.n (.slice xF (Dn).F.length yF)).alloc (.cells #[.slice xS (Dn).S.length yS, .slice xC (Dn).C.length yC, .slice xK (Dn).K.length yK, .int .i64 Dn.n, .slice xF (Dn).F.length yF] 29)).range
        have H2 := Lib.hid ((into5_other hN r1 (by decide) (by decide) (by decide) (by decide) (.slice xS (Dn).S.length yS) (.slice xC (Dn).C.length yC) (.slice xK (Dn).K.length yK) Dn.n (.slice xF (Dn).F.length yF)).up (below_alloc _ (.cells #[.slice xS (Dn).S.length yS, .slice xC (Dn).C.length yC, .slice xK (Dn).K.length yK, .int .i64 Dn.n, .slice xF (Dn).F.length yF] 29)))
        have H3 := Lib.hid ((into5_below hb1 (show b ≤ b + 1 + 1 by omega) (.slice xS (Dn).S.length yS) (.slice xC (Dn).C.length yC) (.slice xK (Dn).K.length yK) Dn.n (.slice xF (Dn).F.length yF)).alloc (by simp [into5]; omega) (.cells #[.slice xS (Dn).S.length yS, .slice xC (Dn).C.length yC, .slice xK (Dn).K.length yK, .int .i64 Dn.n, .slice xF (Dn).F.length yF] 29))
        clear hN r0 r1 hb0 hb1 hc1 hO0
        go_wp2_with fail
        refine bodyPost_ret (results_c3 (cs := [.slice xS (Dn).S.length yS, .slice xC (Dn).C.length yC, .slice xK (Dn).K.length yK, .int .i64 (Dn.n), .slice xF (Dn).F.length yF]) Try.results11 (by rfl) (by rfl) (by rfl) H1.out Try.underlying29 rfl (by kernel_rfl)) rfl ?_
        rw [HX.out.1, HX.out.2.1, HX.out.2.2]
        exact rAct_of H2.out (by rw [hbe]; exact H3.out) rfl
      · have HX := Lib.hid (deed_other D dk node a kept h0 h1 h2)
        have e0 : (dk == 0) = false := by simpa using h0
        have e1 : (dk == 1) = false := by simpa using h1
        have e2 : (dk == 2) = false := by simpa using h2
        have p0 : Blk W0 b #[.slice aS D.S.length cS, .slice aC D.C.length cC, .slice aK D.K.length cK, .int .i64 D.n, .slice aF D.F.length cF] 29 := by rw [hW, ← hbe]; exact ((Blk.new w _ _).alloc _).alloc _
        obtain ⟨z0, z1, z2, z3, z4⟩ := five_cells r0
        obtain ⟨f0, f1, f2, f3, f4⟩ := five_free r0
        obtain ⟨q0, q1, q2, q3, q4⟩ := five_cells p0
        rw [hW] at z0 z1 z2 z3 z4 f0 f1 f2 f3 f4 q0 q1 q2 q3 q4
        obtain ⟨WF, hWF⟩ : ∃ W, W = ((w.alloc (.cells #[.slice aS D.S.length cS, .slice aC D.C.length cC, .slice aK D.K.length cK, .int .i64 D.n, .slice aF D.F.length cF] 29)).alloc (.cells #[.int .i64 dk, .int .i64 node, .int .i8 a.k, .int .i64 a.s, .string a.b, .int .i64 a.key, .int .u64 (kept : Int)] 41)).alloc (.cells #[.slice aS D.S.length cS, .slice aC D.C.length cC, .slice aK D.K.length cK, .int .i64 D.n, .slice aF D.F.length cF] 29) := ⟨_, rfl⟩
        have hbF : Below b w WF := by rw [hWF]; exact (((Below.refl _ _).alloc (by omega) _).alloc (by simp; omega) _).alloc (by simp; omega) _
        have rF : Blk WF (b + 1 + 1) #[.slice aS D.S.length cS, .slice aC D.C.length cC, .slice aK D.K.length cK, .int .i64 D.n, .slice aF D.F.length cF] 29 := by
          have h1 := Blk.new ((w.alloc (.cells #[.slice aS D.S.length cS, .slice aC D.C.length cC, .slice aK D.K.length cK, .int .i64 D.n, .slice aF D.F.length cF] 29)).alloc (.cells #[.int .i64 dk, .int .i64 node, .int .i8 a.k, .int .i64 a.s, .string a.b, .int .i64 a.key, .int .u64 (kept : Int)] 41)) #[.slice aS D.S.length cS, .slice aC D.C.length cC, .slice aK D.K.length cK, .int .i64 D.n, .slice aF D.F.length cF] 29
          rw [hWF, ← hbe]
          simpa using h1
        have H1 := Lib.hid rF.range
        have H2 := Lib.hid (HOO.out.up (hbe ▸ hbF))
        have H3 := Lib.hid hbF
        rw [hWF] at H1 H2 H3
        clear hWF rF hbF
        clear hO0 r0 p0 hb0 hW h0 h1 h2
        go_enter Try.func11, Try.ntmps11
        go_wp2_with fail
        refine bodyPost_ret (results_c3 (cs := [.slice aS D.S.length cS, .slice aC D.C.length cC, .slice aK D.K.length cK, .int .i64 (D.n), .slice aF D.F.length cF]) Try.results11 (by rfl) (by rfl) (by rfl) H1.out Try.underlying29 rfl (by kernel_rfl)) rfl ?_
        rw [HX.out.1, HX.out.2.1, HX.out.2.2]
        exact rAct_of H2.out (by rw [hbe]; exact H3.out) rfl

end Go.Proofs.Ytleemgjbihdbgaa

/-
  The document's device: a new one: by contract.
-/
namespace Go.Proofs.Ytleemgjbihdbgaa
open Go.RowKit
set_option linter.unusedVariables false
set_option linter.unusedSimpArgs false

set_option maxRecDepth 100000 in
set_option maxHeartbeats 1000000 in
theorem refCheck_none (v : Value) (D : Dev) (w : World) (hD : DevAt w w.heap.size v D) (hs0 : D.S.length = 0) :
    Calls Try.prog 22 #[v] w fun e w' => e = .returned (.int .i64 2) ∧ Below w.heap.size w w' := by
  obtain ⟨vS, vC, vK, vF, rfl, ⟨aS, cS, rfl, _⟩, ⟨aC, cC, rfl, _⟩, ⟨aK, cK, rfl, _⟩, ⟨aF, cF, rfl, _⟩⟩ := hD
  obtain ⟨nS, hSl⟩ : ∃ n, D.S.length = n := ⟨_, rfl⟩
  rw [hSl] at hs0 ⊢
  have e1 : decide ((nS : Int) < 1) = true := decide_eq_true (by omega)
  have hb0 := below_alloc w (.cells #[.slice aS nS cS, .slice aC D.C.length cC, .slice aK D.K.length cK, .int .i64 D.n, .slice aF D.F.length cF] 29)
  have p0 := Box5.new w (.slice aS nS cS) (.slice aC D.C.length cC) (.slice aK D.K.length cK) (.slice aF D.F.length cF) D.n 29
  have q0 := p0.c0
  clear hSl hs0 p0
  go_enter Try.func22, Try.ntmps22
  go_wp2_with fail
  go_ret
  exact ⟨rfl, hb0⟩

theorem refCheck_new (v : Value) (N : Nat) (S : List ByteArray) (ok : Bool) (w : World) (hD : DevAt w w.heap.size v (newD N S)) (h1 : 1 ≤ N) (h16 : N ≤ 16) (hn : S.length ≤ 1099511627776) (hok : sMayB S = ok) :
    Calls Try.prog 22 #[v] w fun e w' => e = .returned (.int .i64 (if ok then 0 else 2)) ∧ Below w.heap.size w w' := by
  cases ok with
  | true =>
    obtain ⟨h2, h3⟩ := (sMay_iff S).1 hok
    exact refCheck_yes v (newD N S) w hD (may_new h1 h16 h2 h3) hn
  | false =>
    rcases Nat.eq_zero_or_pos S.length with h0 | h0
    · exact refCheck_none v (newD N S) w hD h0
    · refine refCheck_bad v (newD N S) w hD h0 (by show 1 ≤ (List.replicate N (0 : Int)).length; simpa using h1) (by show (List.replicate N (0 : Int)).length ≤ 16; simpa using h16) (by show (List.replicate N ([] : List Cel)).length = (List.replicate N (0 : Int)).length; simp) (by show (1 : Int) ≤ 1; omega) (by show (1 : Int) ≤ 68719476736; omega) hn ?_
      apply Classical.byContradiction
      intro hno
      have : sMayB S = true := (sMay_iff S).2 ⟨h0, fun s hs => Nat.le_of_not_lt fun hlt => hno ⟨s, hs, hlt⟩⟩
      rw [hok] at this
      cases this

/-- What each operation of the composite yields. -/
def RefNewR (B : Nat) (S : List ByteArray) (N : Nat) (sl : Value) : Nat → Value → World → Prop
  | 0, v, w => ∃ g, v = .slice (some ⟨g, 0, none⟩) 0 0 ∧ w.ownsRow B 9 1 v 0 []
  | 1, v, _ => v = sl
  | 2, v, w => ∃ A c, v = .slice A S.length c ∧ w.ownsRow B 9 1 v S.length (strV S)
  | 3, v, _ => v = .int .i64 (N : Int)
  | 4, v, w => ∃ g, v = .slice (some ⟨g, 0, none⟩) N N ∧ B ≤ g ∧ Blk w g (zeros N (.slice none 0 0)).toArray 57
  | 5, v, _ => v = .int .i64 (N : Int)
  | 6, v, w => ∃ g, v = .slice (some ⟨g, 0, none⟩) N N ∧ B ≤ g ∧ Blk w g (zeros N (.int .i64 0)).toArray 3
  | 7, v, w => NewAgg B S N v w
  | 8, v, w => ∃ r cs, v = .pointer (some ⟨r, 0, none⟩) ∧ B ≤ r ∧ Blk w r cs 29 ∧ cs.size = 5
  | _, _, _ => True
theorem refNewR_keep {B N : Nat} {S : List ByteArray} {sl : Value} (i : Nat) (v : Value) (w w' : World) (hi : i < 9) (h : RefNewR B S N sl i v w) (hb : Below w.heap.size w w') : RefNewR B S N sl i v w' := by
  match i, hi, h with
  | 0, _, ⟨g, e, h⟩ => exact ⟨g, e, own_up h hb⟩
  | 1, _, h => exact h
  | 2, _, ⟨A, c, e, h⟩ => exact ⟨A, c, e, own_up h hb⟩
  | 3, _, h => exact h
  | 4, _, ⟨g, e, h1, h2⟩ => exact ⟨g, e, h1, h2.below hb h2.lt⟩
  | 5, _, h => exact h
  | 6, _, ⟨g, e, h1, h2⟩ => exact ⟨g, e, h1, h2.below hb h2.lt⟩
  | 7, _, h => exact NewAgg.below h hb
  | 8, _, ⟨r, cs, e, h1, h2, h3⟩ => exact ⟨r, cs, e, h1, h2.below hb h2.lt, h3⟩

set_option maxRecDepth 100000 in
set_option maxHeartbeats 2000000 in
theorem refNew_any (nodes : Int) (A : Option Addr) (n c : Nat) (S : List ByteArray) (w : World) (hA : Lies w w.heap.size A n (strV S)) (hl : S.length = n) (hn : n ≤ 1099511627776) :
    Calls Try.prog 9 #[.int .i64 nodes, .slice A n c] w (DevPost (nwD nodes S) (nwE nodes S) w) := by
  subst hl
  obtain ⟨W0, hW⟩ : ∃ W0, W0 = w.alloc (.cells #[.slice none 0 0, .slice none 0 0, .slice none 0 0, .int .i64 0, .slice none 0 0] 29) := ⟨_, rfl⟩
  have hb0 : Below w.heap.size w W0 := hW ▸ below_alloc w _
  have r0 : Blk W0 w.heap.size #[.slice none 0 0, .slice none 0 0, .slice none 0 0, .int .i64 0, .slice none 0 0] 29 := hW ▸ Blk.new w _ _
  by_cases h1 : 1 ≤ nodes ∧ nodes ≤ 16
  · obtain ⟨N, rfl⟩ := Int.eq_ofNat_of_zero_le (show 0 ≤ nodes by omega)
    have hN1 : 1 ≤ N := by omega
    have hN2 : N ≤ 16 := by omega
    have d0 : decide ((N : Int) < 1) = false := decide_eq_false (by omega)
    have d1 : decide ((16 : Int) < (N : Int)) = false := decide_eq_false (by omega)
    have HA := Lib.hid (lies_up hA hb0)
    obtain ⟨i1, hi1, hz0, hz1, hz2⟩ := info_parts infoCells
    obtain ⟨i2, hi2, hy0, hy1, hy2⟩ := info_parts infoInt
    obtain ⟨i3, hi3, hx0, hx1, hx2⟩ := info_parts infoString
    have hl0 := r0.lt
    clear hA
    go_enter Try.func9, Try.ntmps9
    go_wp2_with fail
    rw [← hW]
    clear hW
    refine wp_region_last (RefNewR W0.heap.size S N (.slice A S.length c)) (fun W => Below W0.heap.size W0 W) 9 (by kernel_rfl) rfl (by kernel_rfl) (by kernel_rfl) (by kernel_rfl) ((Below.refl _ _).drew) (fun i v w w' hi h hb => refNewR_keep i v w w' hi h hb) ?_ ?_
    · intro i o vs W hi ho hS hdep
      match i, hi with
      | 0, _ =>
        obtain rfl := Option.some.inj ho
        clear ho hdep
        refine wpOp_run (v := .slice (some ⟨W.heap.size, 0, none⟩) 0 0) (w' := W.alloc (.cells #[] 9)) rfl rfl ?_ ⟨_, rfl, hS.alloc hS.size _, ⟨_, rfl, World.ownsRow_lit W #[] 0 hS.size (Nat.zero_le _) rfl⟩, below_alloc W _⟩
        simp only [putAll, Act.put, List.setIfInBounds_toArray, List.set_cons_zero, List.set_cons_succ]
        go_simp
      | 1, _ =>
        obtain rfl := Option.some.inj ho
        clear ho hdep
        refine wpOp_run (v := .slice A S.length c) (w' := W) rfl rfl ?_ ⟨_, rfl, hS, rfl, Below.refl _ _⟩
        simp only [putAll, Act.put, List.setIfInBounds_toArray, List.set_cons_zero, List.set_cons_succ]
        go_simp
      | 2, _ =>
        obtain rfl := Option.some.inj ho
        obtain ⟨g, e0, o0⟩ : ∃ g, vs 0 = .slice (some ⟨g, 0, none⟩) 0 0 ∧ _ := hdep ⟨0, .data⟩ (by simp) rfl
        have e1 : vs 1 = .slice A S.length c := hdep ⟨1, .data⟩ (by simp) rfl
        rw [e0] at o0
        obtain ⟨A', c', W1, hrun, hown, hb⟩ := run_append_fresh (P := Try.prog) W W.heap.size W0.heap.size 22 22 9 i3 (.string ⟨#[]⟩) 1 16 Try.underlying22 hi3 hx0 hx1 hx2 rfl (by omega) g o0 hS.size A S.length c (strV S) (by unfold LiesK; rw [Nat.mul_one]; exact (HA.out.below hS).more hS.size) (by unfold maxLen; omega) (by omega)
        clear ho hdep
        refine wpOp_run (v := .slice A' S.length c') (w' := W1) rfl rfl ?_ ⟨_, rfl, hS.trans (hb.mono hS.size), ⟨A', c', rfl, hown⟩, hb⟩
        simp only [putAll, Act.put, List.setIfInBounds_toArray, List.set_cons_zero, List.set_cons_succ, e0, e1]
        simp [execOp, resolve, invoke, builtin, Act.eval, hrun, Result.andThen]
      | 3, _ =>
        obtain rfl := Option.some.inj ho
        clear ho hdep
        refine wpOp_run (v := .int .i64 (N : Int)) (w' := W) rfl rfl ?_ ⟨_, rfl, hS, rfl, Below.refl _ _⟩
        simp only [putAll, Act.put, List.setIfInBounds_toArray, List.set_cons_zero, List.set_cons_succ]
        go_simp
      | 4, _ =>
        obtain rfl := Option.some.inj ho
        have hd : vs 3 = .int .i64 (N : Int) := hdep ⟨3, .data⟩ (by simp) rfl
        refine wpOp_run rfl rfl (run_make_op W (.tmp 17) (.tmp 17) 26 rfl 57 i1 _ Try.underlying26 hi1 hz0 hz1 rfl N (by simp [putAll, Act.put, Act.eval, hd]) (by simp [putAll, Act.put, Act.eval, hd]) (by rw [hz2]; omega) (by unfold maxLen; omega)) ?_
        exact ⟨_, rfl, hS.alloc hS.size _, ⟨_, rfl, hS.size, Blk.new W _ _⟩, below_alloc W _⟩
      | 5, _ =>
        obtain rfl := Option.some.inj ho
        clear ho hdep
        refine wpOp_run (v := .int .i64 (N : Int)) (w' := W) rfl rfl ?_ ⟨_, rfl, hS, rfl, Below.refl _ _⟩
        simp only [putAll, Act.put, List.setIfInBounds_toArray, List.set_cons_zero, List.set_cons_succ]
        go_simp
      | 6, _ =>
        obtain rfl := Option.some.inj ho
        have hd : vs 5 = .int .i64 (N : Int) := hdep ⟨5, .data⟩ (by simp) rfl
        refine wpOp_run rfl rfl (run_make_op W (.tmp 19) (.tmp 19) 27 rfl 3 i2 _ Try.underlying27 hi2 hy0 hy1 rfl N (by simp [putAll, Act.put, Act.eval, hd]) (by simp [putAll, Act.put, Act.eval, hd]) (by rw [hy2]; omega) (by unfold maxLen; omega)) ?_
        exact ⟨_, rfl, hS.alloc hS.size _, ⟨_, rfl, hS.size, Blk.new W _ _⟩, below_alloc W _⟩
      | 7, _ =>
        obtain rfl := Option.some.inj ho
        obtain ⟨A1, c1, e1, o1⟩ : ∃ A c, vs 2 = .slice A S.length c ∧ _ := hdep ⟨2, .data⟩ (by simp) rfl
        obtain ⟨g3, e3, b3, k3⟩ : ∃ g, vs 4 = .slice (some ⟨g, 0, none⟩) N N ∧ _ := hdep ⟨4, .data⟩ (by simp) rfl
        obtain ⟨g5, e5, b5, k5⟩ : ∃ g, vs 6 = .slice (some ⟨g, 0, none⟩) N N ∧ _ := hdep ⟨6, .data⟩ (by simp) rfl
        rw [e1] at o1
        refine wpOp_run (v := .agg #[.slice A1 S.length c1, .slice (some ⟨g3, 0, none⟩) N N, .slice (some ⟨g5, 0, none⟩) N N, .int .i64 1, .slice none 0 0]) (w' := W) rfl rfl ?_ ?_
        · simp only [putAll, Act.put, List.setIfInBounds_toArray, List.set_cons_zero, List.set_cons_succ, e1, e3, e5]
          go_simp
        · exact ⟨_, rfl, hS, ⟨A1, c1, g3, g5, rfl, o1, b3, k3, b5, k5⟩, Below.refl _ _⟩
      | 8, _ =>
        obtain rfl := Option.some.inj ho
        clear ho hdep
        refine wpOp_run (v := .pointer (some ⟨W.heap.size, 0, none⟩)) (w' := W.alloc (.cells #[.slice none 0 0, .slice none 0 0, .slice none 0 0, .int .i64 0, .slice none 0 0] 29)) rfl rfl ?_ ⟨_, rfl, hS.alloc hS.size _, ⟨_, _, rfl, hS.size, Blk.new W _ _, rfl⟩, below_alloc W _⟩
        simp only [putAll, Act.put, List.setIfInBounds_toArray, List.set_cons_zero, List.set_cons_succ]
        go_simp
    · intro vs W hS hR
      obtain ⟨r, cs, e8, b8, k8, s8⟩ := hR 8 (by omega)
      have h7 : NewAgg W0.heap.size S N (vs 7) W := hR 7 (by omega)
      obtain ⟨A1, c1, g3, g5, e7, hown⟩ := h7.own (by unfold maxLen; omega)
      clear hR h7
      obtain ⟨⟨u0, q0⟩, ⟨u1, q1⟩, ⟨u2, q2⟩, ⟨u3, q3⟩, ⟨u4, q4⟩⟩ := blk_five k8 s8
      have f0 := k8.free 0
      have f1 := k8.free 1
      have f2 := k8.free 2
      have f3 := k8.free 3
      have f4 := k8.free 4
      obtain ⟨W1, hW1⟩ : ∃ W1, W1 = into5 W r (.slice A1 S.length c1) (.slice (some ⟨g3, 0, none⟩) N N) (.slice (some ⟨g5, 0, none⟩) N N) 1 (.slice none 0 0) := ⟨_, rfl⟩
      have hO1 := into5_other hown k8 (by decide) (by decide) (by decide) (by decide) (.slice A1 S.length c1) (.slice (some ⟨g3, 0, none⟩) N N) (.slice (some ⟨g5, 0, none⟩) N N) 1 (.slice none 0 0)
      have hb1 := into5_below hS b8 (.slice A1 S.length c1) (.slice (some ⟨g3, 0, none⟩) N N) (.slice (some ⟨g5, 0, none⟩) N N) 1 (.slice none 0 0)
      have hR1 := into5_range k8 s8 (.slice A1 S.length c1) (.slice (some ⟨g3, 0, none⟩) N N) (.slice (some ⟨g5, 0, none⟩) N N) 1 (.slice none 0 0)
      rw [← hW1] at hO1 hb1 hR1
      have hrl : r < W1.heap.size := by rw [hW1]; have := k8.lt; simp [into5]; exact this
      refine wpOp_step rfl (fun K hK => ?_)
      simp only [putAll, Act.put, List.setIfInBounds_toArray, List.set_cons_zero, List.set_cons_succ, e7, e8]
      go_simp
      refine hK _ _ ?_
      clear hK
      have hW1' := hW1
      unfold into5 at hW1'
      rw [← hW1']
      clear hW1 hW1' q0 q1 q2 q3 q4 f0 f1 f2 f3 f4 hown k8 s8 e7 e8
      have hb01 : Below w.heap.size w W1 := hb0.trans (hb1.mono hb0.size)
      have r1 := r0.below hb1 hl0
      have HR1 := Lib.hid hR1
      have HD1 := Lib.hid hO1.dev
      have HO1 := Lib.hid hO1
      have m0 : W1.cell? ⟨r, 0, none⟩ = some (.slice A1 S.length c1) := by have := hR1 0 _ rfl; simpa using this
      have m1 : W1.cell? ⟨r, 1, none⟩ = some (.slice (some ⟨g3, 0, none⟩) N N) := by have := hR1 1 _ rfl; simpa using this
      have m2 : W1.cell? ⟨r, 2, none⟩ = some (.slice (some ⟨g5, 0, none⟩) N N) := by have := hR1 2 _ rfl; simpa using this
      have m3 : W1.cell? ⟨r, 3, none⟩ = some (.int .i64 1) := by have := hR1 3 _ rfl; simpa using this
      have m4 : W1.cell? ⟨r, 4, none⟩ = some (.slice none 0 0) := by have := hR1 4 _ rfl; simpa using this
      obtain ⟨ok, hok⟩ : ∃ ok, sMayB S = ok := ⟨_, rfl⟩
      have hcm := refCheck_new (.agg #[.slice A1 S.length c1, .slice (some ⟨g3, 0, none⟩) N N, .slice (some ⟨g5, 0, none⟩) N N, .int .i64 1, .slice none 0 0]) N S ok W1 HD1.out hN1 hN2 hn hok
      have HOK : Hid (nwD (N : Int) S = (if ok then newD N S else noD) ∧ nwE (N : Int) S = (if ok then 0 else 2)) := by
        show _ ∧ _
        unfold nwD nwE
        cases ok with
        | true =>
          obtain ⟨h2, h3⟩ := (sMay_iff S).1 hok
          have hh : NewOk (N : Int) S := ⟨h1.1, h1.2, h2, h3⟩
          rw [if_pos hh, if_pos hh]
          exact ⟨rfl, rfl⟩
        | false =>
          have hh : ¬ NewOk (N : Int) S := fun hh => by
            have := (sMay_iff S).2 ⟨hh.2.2.1, hh.2.2.2⟩
            rw [hok] at this
            cases this
          rw [if_neg hh, if_neg hh]
          exact ⟨rfl, rfl⟩
      have hl1 := hb1.size
      clear hO1 hb1 hR1 hok r0
      go_wp2_with fail
      refine hcm.mono ?_
      rintro e W2 ⟨rfl, hb2⟩
      have r2 := r1.below hb2 (by omega)
      have hO2 := HO1.out.up hb2
      have k0 := (hb2.cell (p := ⟨r, 0, none⟩) hrl).trans m0
      have k1 := (hb2.cell (p := ⟨r, 1, none⟩) hrl).trans m1
      have k2 := (hb2.cell (p := ⟨r, 2, none⟩) hrl).trans m2
      have k3 := (hb2.cell (p := ⟨r, 3, none⟩) hrl).trans m3
      have k4 := (hb2.cell (p := ⟨r, 4, none⟩) hrl).trans m4
      have d0 := r2.cell 0 _ rfl
      have d1 := r2.cell 1 _ rfl
      have d2 := r2.cell 2 _ rfl
      have d3 := r2.cell 3 _ rfl
      have d4 := r2.cell 4 _ rfl
      have f0 := r2.free 0
      have f1 := r2.free 1
      have f2 := r2.free 2
      have f3 := r2.free 3
      have f4 := r2.free 4
      have hb02 : Below w.heap.size w W2 := hb01.trans (hb2.mono (by omega))
      clear hcm m0 m1 m2 m3 m4 HO1 HD1 HR1 r1 hb2
      cases ok with
      | true =>
        have H1 := Lib.hid (into5_range r2 rfl (.slice A1 S.length c1) (.slice (some ⟨g3, 0, none⟩) N N) (.slice (some ⟨g5, 0, none⟩) N N) 1 (.slice none 0 0))
        have H2 := Lib.hid (OwnD.less (B' := w.heap.size) (into5_own hO2 hl0 (.slice A1 S.length c1) (.slice (some ⟨g3, 0, none⟩) N N) (.slice (some ⟨g5, 0, none⟩) N N) 1 (.slice none 0 0)) (by omega))
        have H3 := Lib.hid (into5_below hb02 (Nat.le_refl _) (.slice A1 S.length c1) (.slice (some ⟨g3, 0, none⟩) N N) (.slice (some ⟨g5, 0, none⟩) N N) 1 (.slice none 0 0))
        clear hO2 r2 hb02
        go_wp2_with fail
        refine bodyPost_ret (results_c2 (cs := [.slice A1 S.length c1, .slice (some ⟨g3, 0, none⟩) N N, .slice (some ⟨g5, 0, none⟩) N N, .int .i64 1, .slice none 0 0]) Try.results9 (by rfl) (by rfl) H1.out Try.underlying29 rfl (by kernel_rfl)) rfl ?_
        rw [HOK.out.1, HOK.out.2]
        exact devPost_of H2.out H3.out rfl
      | false =>
        have H1 := Lib.hid (into5_range r2 rfl (.slice none 0 0) (.slice none 0 0) (.slice none 0 0) 0 (.slice none 0 0))
        have H3 := Lib.hid (into5_below hb02 (Nat.le_refl _) (.slice none 0 0) (.slice none 0 0) (.slice none 0 0) 0 (.slice none 0 0))
        clear hO2 r2 hb02
        go_wp2_with fail
        refine bodyPost_ret (results_c2 (cs := [.slice none 0 0, .slice none 0 0, .slice none 0 0, .int .i64 0, .slice none 0 0]) Try.results9 (by rfl) (by rfl) H1.out Try.underlying29 rfl (by kernel_rfl)) rfl ?_
        rw [HOK.out.1, HOK.out.2]
        exact devPost_of (noD_own _ _) H3.out rfl
  · have hno : ¬ NewOk nodes S := fun h => h1 ⟨h.1, h.2.1⟩
    have HND : Hid (nwD nodes S = noD) := if_neg hno
    have HNE : Hid (nwE nodes S = 2) := if_neg hno
    have hcs : decide (nodes < 1) = true ∨ (decide (nodes < 1) = false ∧ decide (16 < nodes) = true) := by
      by_cases h2 : nodes < 1
      · exact .inl (decide_eq_true h2)
      · exact .inr ⟨decide_eq_false h2, decide_eq_true (by omega)⟩
    subst hW
    clear hA h1 hno r0
    rcases hcs with h2 | ⟨h2, h3⟩
    all_goals go_enter Try.func9, Try.ntmps9
    all_goals go_wp2_with fail
    all_goals refine bodyPost_ret (results_c2 (cs := [.slice none 0 0, .slice none 0 0, .slice none 0 0, .int .i64 0, .slice none 0 0]) Try.results9 (by rfl) (by rfl) (Blk.new w #[.slice none 0 0, .slice none 0 0, .slice none 0 0, .int .i64 0, .slice none 0 0] 29).range Try.underlying29 rfl (by kernel_rfl)) rfl ?_
    all_goals rw [HND.out, HNE.out]
    all_goals exact devPost_of (noD_own _ _) hb0 rfl

end Go.Proofs.Ytleemgjbihdbgaa
