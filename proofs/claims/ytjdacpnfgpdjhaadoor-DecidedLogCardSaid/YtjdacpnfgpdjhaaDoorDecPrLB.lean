/-
  The program's log of a device, what is taken of it: by contract.
-/
import Derived.Test.YtjdacpnfgpdjhaaDoorDecPrLA
namespace Go.Proofs.YtjdacpnfgpdjhaaDoor
open Go.RowKit
set_option linter.unusedVariables false
set_option linter.unusedSimpArgs false

theorem logOk_parts {g : G} {D : Dev} {b : Bool} (h : logOkB g D b = true) : mayG g = true ∧ b = true ∧ (D.S.length : Int) = totalV g := by
  unfold logOkB at h
  rw [Bool.and_eq_true, Bool.and_eq_true, decide_eq_true_iff] at h
  exact ⟨h.1, h.2.1, h.2.2⟩
/-- What taking a device's log comes to. -/
def TakeAllPost (g : G) (D : Dev) (b : Bool) (f B : Nat) (GD : List Value) (e : Ending) (w' : World) : Prop :=
  (logOkB g D b = false ∧ e = .returned (.int .i64 2) ∧ ∃ c t y, RdrAt w' f 67 c t y (.slice none 0 0 :: GD)) ∨ (logOkB g D b = true ∧ TakePost (logRow g D) f B 67 GD e w')

set_option maxRecDepth 100000 in
set_option maxHeartbeats 4000000 in
theorem dtakeAll_any (g : G) (D : Dev) (b : Bool) (f : Nat) (c : CmdM) (t : ByteArray) (y : Bool)  (aS : Option Addr) (nS cS : Nat) (vC vK vF : Value) (dn : Int) (w : World) (h : RdrAt w f 67 c t y (.slice none 0 0 :: [.int .i64 g.N, .int .i64 g.S, .int .i64 g.B, .int .i64 g.P, .int .i64 g.J, .int .i64 g.L, .int .i64 g.E, .int .i64 g.T, .slice aS nS cS, vC, vK, .int .i64 dn, vF])) (hn : D.S.length = nS) (C1 : Hid (∀ W, Below w.heap.size w W → Calls Tryd.prog 69 #[.agg #[.slice aS nS cS, vC, vK, .int .i64 dn, vF]] W fun e w' => e = .returned (.int .i64 (if b then 0 else 2)) ∧ Below W.heap.size W w')) (h0 : 0 < f) (hL : Lies w f aS nS (strV D.S)) (hSc : nS ≤ cS) (hSm : cS ≤ maxLen) (hS : nS ≤ 1099511627776) (hsz : ∀ s ∈ D.S, s.size ≤ maxLen) (ht : TabOk w) :
    Calls Tryd.prog 32 #[.pointer (some ⟨f, 0, none⟩)] w fun e w' => TakeAllPost g D b f w.heap.size [.int .i64 g.N, .int .i64 g.S, .int .i64 g.B, .int .i64 g.P, .int .i64 g.J, .int .i64 g.L, .int .i64 g.E, .int .i64 g.T, .slice aS nS cS, vC, vK, .int .i64 dn, vF] e w' ∧ Only f w w' := by
  have HM := Lib.hid (dmay_any g D b f c t y _ aS nS cS vC vK vF dn w h hn C1)
  have HZ := Lib.hid hsz
  have HN := Lib.hid hn
  unfold maxLen at hSm
  have hlf := h.lt
  clear C1 hsz hn
  go_enter Tryd.func32, Tryd.ntmps32
  go_wp2_with fail
  refine HM.out.mono ?_
  rintro e w1 ⟨rfl, hb1⟩
  have p1 := h.below hb1 hlf
  have o1 := Only.of_below hb1 f
  clear HM
  cases hok : logOkB g D b with
  | false =>
    have HF : Hid (TakeAllPost g D b f w.heap.size [.int .i64 g.N, .int .i64 g.S, .int .i64 g.B, .int .i64 g.P, .int .i64 g.J, .int .i64 g.L, .int .i64 g.E, .int .i64 g.T, .slice aS nS cS, vC, vK, .int .i64 dn, vF] (.returned (.int .i64 2)) w1) := .inl ⟨hok, rfl, ⟨_, _, _, p1⟩⟩
    clear hok h hL ht p1 hb1
    go_wp2_with fail
    go_ret
    exact ⟨HF.out, o1⟩
  | true =>
    have HV := Lib.hid hok
    obtain ⟨hm, _, hT⟩ := logOk_parts hok
    rw [HN.out] at hT
    obtain ⟨p0, q1, q2, q3, q4, q5, q6⟩ := log_span hm
    obtain ⟨p, hp⟩ : ∃ p : Nat, logV g 0 = (p : Int) := ⟨(logV g 0).toNat, by omega⟩
    obtain ⟨m, hml⟩ : ∃ m : Nat, g.L = (m : Int) := ⟨g.L.toNat, by omega⟩
    have HR : Hid (logRow g D = (D.S.drop p).take m) := by
      show _ = _
      unfold logRow
      rw [show (1 + 2 * g.N).toNat = p by omega, hml]
      rfl
    have HC := Lib.hid (log_g g 0 w1)
    rw [hp] at HC
    have HML := Lib.hid hml
    have f0 : p + m < nS := by omega
    have f1 : 0 < m := by omega
    have HN2 : Hid (p + m < nS ∧ nS ≤ cS ∧ 0 < m) := ⟨f0, hSc, f1⟩
    obtain ⟨d0, d1, d2, d3, d4, d5, d6, d7, _⟩ := log_cells p1
    have hl1 := p1.lt
    clear hok hml hm q1 q2 q3 q4 q5 q6 hT hp p0
    go_wp2_with fail
    refine HC.out.mono ?_
    rintro e w2 ⟨rfl, hb2⟩
    have p2 := p1.below hb2 hl1
    have o2 := o1.trans (Only.of_below hb2 f)
    have b2 := below_then hb1 hb2
    have ht2 := ht.below b2
    replace hL := hL.below (b2.mono (Nat.le_of_lt hlf))
    have hw2 : w.heap.size ≤ w2.drew.heap.size := b2.size
    clear HC h ht p1 o1 hb1 hb2 d0 d1 d2 d3 d4 d5 d6 d7 hl1 b2
    obtain ⟨q, hq⟩ : ∃ q : Nat, p + m = q := ⟨_, rfl⟩
    have f2 : (p : Int) + g.L = (q : Int) := by rw [HML.out]; omega
    have f4 : IntKind.i64.wrap (q : Int) = (q : Int) := IntWalk.i64_in _ (by omega)
    obtain ⟨ad, ea, _⟩ := hL.2 (by omega)
    subst ea
    have f3 : q ≤ cS := by omega
    have f5 : p ≤ q := by omega
    have f6 : (p : Int) ≤ (q : Int) := by omega
    have f7 : (q : Int) ≤ (cS : Int) := by omega
    have HQ := Lib.hid hq
    clear hq f0 f1
    have f8 : ¬ cS = p := by have := HN2.out; omega
    have hl2 := p2.lt
    go_upto_region 4 with fail
    refine wp_region_held_drew (S := (fun W => W.cell? ⟨f, 11, none⟩ = some (.int .i64 g.N) ∧ W.cell? ⟨f, 12, none⟩ = some (.int .i64 g.S) ∧ W.cell? ⟨f, 13, none⟩ = some (.int .i64 g.B) ∧ W.cell? ⟨f, 14, none⟩ = some (.int .i64 g.P) ∧ W.cell? ⟨f, 15, none⟩ = some (.int .i64 g.J) ∧ W.cell? ⟨f, 16, none⟩ = some (.int .i64 g.L) ∧ W.cell? ⟨f, 17, none⟩ = some (.int .i64 g.E) ∧ W.cell? ⟨f, 18, none⟩ = some (.int .i64 g.T) ∧ W.cell? ⟨f, 19, none⟩ = some (.slice (some ad) nS cS) ∧ W.cell? ⟨f, 20, none⟩ = some (vC) ∧ W.cell? ⟨f, 21, none⟩ = some (vK) ∧ W.cell? ⟨f, 22, none⟩ = some (.int .i64 dn) ∧ W.cell? ⟨f, 23, none⟩ = some (vF))) (by kernel_rfl) ?_ (fun hHeld => ?_)
    focus (exact log_cells (w := w2.drew) p2)
    refine wpAnyH_take (i := 0) (oi := ⟨some 12, _, _, _, _, _⟩) (v := ?_) rfl (by kernel_rfl) (by kernel_rfl) (by kernel_rfl) (fun _ _ _ h => h) (Or.inl ⟨by rfl, ?_⟩) (by assumption) ?_
    rotate_left
    focus (intro wq hSq; (try dsimp only at hSq); go_simp; try with_reducible rfl)
    try simp only [Act.put, List.setIfInBounds_toArray, List.set_cons_zero, List.set_cons_succ]
    refine wpAnyH_take (i := 1) (oi := ⟨some 13, _, _, _, _, _⟩) (v := ?_) rfl (by kernel_rfl) (by kernel_rfl) (by kernel_rfl) (fun _ _ _ h => h) (Or.inl ⟨by rfl, ?_⟩) (by assumption) ?_
    rotate_left
    focus (intro wq hSq; (try dsimp only at hSq); go_simp; try with_reducible rfl)
    try simp only [Act.put, List.setIfInBounds_toArray, List.set_cons_zero, List.set_cons_succ]
    refine wpAnyH_take (i := 2) (oi := ⟨some 14, _, _, _, _, _⟩) (v := ?_) rfl (by kernel_rfl) (by kernel_rfl) (by kernel_rfl) (fun _ _ _ h => h) (Or.inl ⟨by rfl, ?_⟩) (by assumption) ?_
    rotate_left
    focus (intro wq hSq; (try dsimp only at hSq); go_simp; try with_reducible rfl)
    try simp only [Act.put, List.setIfInBounds_toArray, List.set_cons_zero, List.set_cons_succ]
    refine wpAnyH_take (i := 3) (oi := ⟨some 15, _, _, _, _, _⟩) (v := ?_) rfl (by kernel_rfl) (by kernel_rfl) (by kernel_rfl) (fun _ _ _ h => h) (Or.inl ⟨by rfl, ?_⟩) (by assumption) ?_
    rotate_left
    focus (intro wq hSq; (try dsimp only at hSq); go_simp; try with_reducible rfl)
    try simp only [Act.put, List.setIfInBounds_toArray, List.set_cons_zero, List.set_cons_succ]
    refine wpAnyH_take (i := 4) (oi := ⟨some 16, _, _, _, _, _⟩) (v := ?_) rfl (by kernel_rfl) (by kernel_rfl) (by kernel_rfl) (fun _ _ _ h => h) (Or.inl ⟨by rfl, ?_⟩) (by assumption) ?_
    rotate_left
    focus (intro wq hSq; (try dsimp only at hSq); go_simp; try with_reducible rfl)
    try simp only [Act.put, List.setIfInBounds_toArray, List.set_cons_zero, List.set_cons_succ]
    refine wpAnyH_take (i := 5) (oi := ⟨some 17, _, _, _, _, _⟩) (v := ?_) rfl (by kernel_rfl) (by kernel_rfl) (by kernel_rfl) (fun _ _ _ h => h) (Or.inl ⟨by rfl, ?_⟩) (by assumption) ?_
    rotate_left
    focus (intro wq hSq; (try dsimp only at hSq); go_simp; try with_reducible rfl)
    try simp only [Act.put, List.setIfInBounds_toArray, List.set_cons_zero, List.set_cons_succ]
    refine wpAnyH_take (i := 6) (oi := ⟨some 18, _, _, _, _, _⟩) (v := ?_) rfl (by kernel_rfl) (by kernel_rfl) (by kernel_rfl) (fun _ _ _ h => h) (Or.inl ⟨by rfl, ?_⟩) (by assumption) ?_
    rotate_left
    focus (intro wq hSq; (try dsimp only at hSq); go_simp; try with_reducible rfl)
    try simp only [Act.put, List.setIfInBounds_toArray, List.set_cons_zero, List.set_cons_succ]
    refine wpAnyH_take (i := 7) (oi := ⟨some 19, _, _, _, _, _⟩) (v := ?_) rfl (by kernel_rfl) (by kernel_rfl) (by kernel_rfl) (fun _ _ _ h => h) (Or.inl ⟨by rfl, ?_⟩) (by assumption) ?_
    rotate_left
    focus (intro wq hSq; (try dsimp only at hSq); go_simp; try with_reducible rfl)
    try simp only [Act.put, List.setIfInBounds_toArray, List.set_cons_zero, List.set_cons_succ]
    refine wpAnyH_take (i := 8) (oi := ⟨some 20, _, _, _, _, _⟩) (v := ?_) rfl (by kernel_rfl) (by kernel_rfl) (by kernel_rfl) (fun _ _ _ h => h) (Or.inl ⟨by rfl, ?_⟩) (by assumption) ?_
    rotate_left
    focus (intro wq hSq; (try dsimp only at hSq); go_simp; try with_reducible rfl)
    try simp only [Act.put, List.setIfInBounds_toArray, List.set_cons_zero, List.set_cons_succ]
    refine wpAnyH_take (i := 9) (oi := ⟨some 21, _, _, _, _, _⟩) (v := ?_) rfl (by kernel_rfl) (by kernel_rfl) (by kernel_rfl) (fun _ _ _ h => h) (Or.inl ⟨by rfl, ?_⟩) (by assumption) ?_
    rotate_left
    focus (intro wq hSq; (try dsimp only at hSq); go_simp; try with_reducible rfl)
    try simp only [Act.put, List.setIfInBounds_toArray, List.set_cons_zero, List.set_cons_succ]
    refine wpAnyH_take (i := 10) (oi := ⟨some 22, _, _, _, _, _⟩) (v := ?_) rfl (by kernel_rfl) (by kernel_rfl) (by kernel_rfl) (fun _ _ _ h => h) (Or.inl ⟨by rfl, ?_⟩) (by assumption) ?_
    rotate_left
    focus (intro wq hSq; (try dsimp only at hSq); go_simp; try with_reducible rfl)
    try simp only [Act.put, List.setIfInBounds_toArray, List.set_cons_zero, List.set_cons_succ]
    refine wpAnyH_take (i := 11) (oi := ⟨some 23, _, _, _, _, _⟩) (v := ?_) rfl (by kernel_rfl) (by kernel_rfl) (by kernel_rfl) (fun _ _ _ h => h) (Or.inl ⟨by rfl, ?_⟩) (by assumption) ?_
    rotate_left
    focus (intro wq hSq; (try dsimp only at hSq); go_simp; try with_reducible rfl)
    try simp only [Act.put, List.setIfInBounds_toArray, List.set_cons_zero, List.set_cons_succ]
    refine wpAnyH_take (i := 12) (oi := ⟨some 24, _, _, _, _, _⟩) (v := ?_) rfl (by kernel_rfl) (by kernel_rfl) (by kernel_rfl) (fun _ _ _ h => h) (Or.inl ⟨by rfl, ?_⟩) (by assumption) ?_
    rotate_left
    focus (intro wq hSq; (try dsimp only at hSq); go_simp; try with_reducible rfl)
    try simp only [Act.put, List.setIfInBounds_toArray, List.set_cons_zero, List.set_cons_succ]
    refine wpAnyH_take (i := 13) (oi := ⟨some 25, _, _, _, _, _⟩) (v := ?_) rfl (by kernel_rfl) (by kernel_rfl) (by kernel_rfl) (fun _ _ _ h => h) (Or.inl ⟨by rfl, ?_⟩) (by assumption) ?_
    rotate_left
    focus (intro wq hSq; (try dsimp only at hSq); go_simp; try with_reducible rfl)
    try simp only [Act.put, List.setIfInBounds_toArray, List.set_cons_zero, List.set_cons_succ]
    refine wpAnyH_take (i := 14) (oi := ⟨some 26, _, _, _, _, _⟩) (v := ?_) rfl (by kernel_rfl) (by kernel_rfl) (by kernel_rfl) (fun _ _ _ h => h) (Or.inl ⟨by rfl, ?_⟩) (by assumption) ?_
    rotate_left
    focus (intro wq hSq; (try dsimp only at hSq); go_simp; try with_reducible rfl)
    try simp only [Act.put, List.setIfInBounds_toArray, List.set_cons_zero, List.set_cons_succ]
    refine wpAnyH_take (i := 15) (oi := ⟨some 27, _, _, _, _, _⟩) (v := ?_) rfl (by kernel_rfl) (by kernel_rfl) (by kernel_rfl) (fun _ _ _ h => h) (Or.inl ⟨by rfl, ?_⟩) (by assumption) ?_
    rotate_left
    focus (intro wq hSq; (try dsimp only at hSq); go_simp; try with_reducible rfl)
    try simp only [Act.put, List.setIfInBounds_toArray, List.set_cons_zero, List.set_cons_succ]
    refine wpAnyH_take (i := 16) (oi := ⟨some 28, _, _, _, _, _⟩) (v := ?_) rfl (by kernel_rfl) (by kernel_rfl) (by kernel_rfl) (fun _ _ _ h => h) (Or.inl ⟨by rfl, ?_⟩) (by assumption) ?_
    rotate_left
    focus (intro wq hSq; (try dsimp only at hSq); go_simp; try with_reducible rfl)
    try simp only [Act.put, List.setIfInBounds_toArray, List.set_cons_zero, List.set_cons_succ]
    have hpc : Lies w2.drew f (some (ad.add p)) (q - p) (((D.S.drop p).take (q - p)).map Value.string) := lies_piece (w := w2.drew) hL (by have := HN2.out; have := HQ.out; omega) (fun j => add_twice _ _ _) (fun _ => add_block _ _)
    have hqm : q - p = m := by have := HQ.out; omega
    rw [hqm] at hpc ⊢
    refine wpAnyH_ready (rs := [17]) (by kernel_rfl) (by simp) ?_
    refine AllReadyH.cons (o := ⟨some 29, _, _, _, _, _⟩) rfl (fun K hK => ?_) AllReadyH.nil
    go_simp
    refine (dtake_any f 67 [.int .i64 g.N, .int .i64 g.S, .int .i64 g.B, .int .i64 g.P, .int .i64 g.J, .int .i64 g.L, .int .i64 g.E, .int .i64 g.T, .slice (some ad) nS cS, vC, vK, .int .i64 dn, vF] c t y (some (ad.add p)) m (cS - p) ((D.S.drop p).take m) w2.drew p2 h0 hpc (by have := HN2.out; omega) (fun s hs => HZ.out s (List.mem_of_mem_drop (List.mem_of_mem_take hs))) (TabOk.below (w := w2) ht2 (Below.refl _ _).drew)).mono ?_
    rintro e w5 ⟨h5, O5⟩
    have O6 : Only f w w5 := (o2.trans (Only.of_below (Below.refl w2.heap.size w2).drew f)).trans O5
    rcases h5 with ⟨h5, rfl, c5, t5, y5, P5⟩ | ⟨ms, v5, h5, rfl, ⟨c5, t5, y5, P5⟩, own5⟩
    · have HF : Hid (TakeAllPost g D b f w.heap.size [.int .i64 g.N, .int .i64 g.S, .int .i64 g.B, .int .i64 g.P, .int .i64 g.J, .int .i64 g.L, .int .i64 g.E, .int .i64 g.T, .slice (some ad) nS cS, vC, vK, .int .i64 dn, vF] (.returned (.int .i64 50)) w5) := .inr ⟨HV.out, .inl ⟨by rw [HR.out]; exact h5, rfl, ⟨_, _, _, P5⟩⟩⟩
      refine hK.out _ _ ?_ (fun hHeld => ?_)
      focus (exact log_cells P5)
      clear hK K
      try simp only [Act.put, List.setIfInBounds_toArray, List.set_cons_zero, List.set_cons_succ]
      refine wpAnyH_take (i := 18) (oi := ⟨some 2, _, _, _, _, _⟩) (v := ?_) rfl (by kernel_rfl) (by kernel_rfl) (by kernel_rfl) (fun _ _ _ h => h) (Or.inl ⟨by rfl, ?_⟩) (by assumption) ?_
      rotate_left
      focus (intro wq hSq; (try dsimp only at hSq); go_simp; try with_reducible rfl)
      try simp only [Act.put, List.setIfInBounds_toArray, List.set_cons_zero, List.set_cons_succ]
      refine wpAnyH_done (by kernel_rfl) ?_ _
      clear h5 P5 O5 hpc
      go_wp2_with fail
      go_ret
      exact ⟨HF.out, O6⟩
    · have HF : Hid (TakeAllPost g D b f w.heap.size [.int .i64 g.N, .int .i64 g.S, .int .i64 g.B, .int .i64 g.P, .int .i64 g.J, .int .i64 g.L, .int .i64 g.E, .int .i64 g.T, .slice (some ad) nS cS, vC, vK, .int .i64 dn, vF] (.returned (.int .i64 0)) w5) := .inr ⟨HV.out, .inr ⟨ms, v5, by rw [HR.out]; exact h5, rfl, ⟨_, _, _, P5⟩, ow_less own5 hw2⟩⟩
      refine hK.out _ _ ?_ (fun hHeld => ?_)
      focus (exact log_cells P5)
      clear hK K
      try simp only [Act.put, List.setIfInBounds_toArray, List.set_cons_zero, List.set_cons_succ]
      refine wpAnyH_take (i := 18) (oi := ⟨some 2, _, _, _, _, _⟩) (v := ?_) rfl (by kernel_rfl) (by kernel_rfl) (by kernel_rfl) (fun _ _ _ h => h) (Or.inl ⟨by rfl, ?_⟩) (by assumption) ?_
      rotate_left
      focus (intro wq hSq; (try dsimp only at hSq); go_simp; try with_reducible rfl)
      try simp only [Act.put, List.setIfInBounds_toArray, List.set_cons_zero, List.set_cons_succ]
      refine wpAnyH_done (by kernel_rfl) ?_ _
      clear h5 P5 O5 hpc own5
      go_wp2_with fail
      go_ret
      exact ⟨HF.out, O6⟩

end Go.Proofs.YtjdacpnfgpdjhaaDoor
