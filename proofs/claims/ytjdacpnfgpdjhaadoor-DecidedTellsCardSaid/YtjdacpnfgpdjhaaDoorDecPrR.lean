/-
  The program's Read of a sector: by contract.
-/
import Derived.Test.YtjdacpnfgpdjhaaDoorDecPrA
import Derived.Test.YtjdacpnfgpdjhaaDoorOwnFresh
import Derived.Deep.RegionHeld3
namespace Go.Proofs.YtjdacpnfgpdjhaaDoor
open Go.RowKit
set_option linter.unusedVariables false
set_option linter.unusedSimpArgs false

/-- A store of a struct as a step of a region. -/
theorem step_store_mid {P : Program} {ops : Array Oper} {o : Oper} {a : Act} {w : World} {K : Act → World → Prop} {Q : Exit → Act → World → Prop} {E : Prop}
    (hg : o.guard = none) (ty : TypeId) (x y : Operand) (ho : o.op = .store ty x y) (b f : Nat) (cells : Array Value) (hx : a.eval x = .pointer (some ⟨b, f, none⟩)) (hy : a.eval y = .agg cells)
    (ht : w.there b f cells.size) (hi : (P.info? ty).map (·.size) = some cells.size) (h1 : cells.all (·.oneCell') = true) (hK : K (a.put o.dst undef) (w.setCells b f cells.toList)) :
    if Region.wanted o (yielded ops a.tmps) = true then Oper.wp P o a w K Q else E := by
  have hw : Region.wanted o (yielded ops a.tmps) = true := by simp [Region.wanted, hg]
  rw [if_pos hw]
  exact wp_store_mid ty x y ho b f cells hx hy ht hi h1 hK
theorem Blk.aside {w : World} {b c : Nat} {cs : Array Value} {T : TypeId} : ∀ (vs : List Value) (o : Nat) {w : World}, Blk w b cs T → b ≠ c → Blk (w.setCells c o vs) b cs T
  | [], _, _, h, _ => h
  | v :: vs, o, _, h, hne => Blk.aside (w := w) vs (o + 1) (h.other hne o v) hne

set_option maxRecDepth 100000 in
set_option maxHeartbeats 1000000 in
theorem dRead_any (s : ByteArray) (w : World) (hM : s.size ≤ maxLen) (ht : TabOk w) :
    Calls Tryd.prog 10 #[.string s] w fun e w' => e = .returned (.tuple #[.agg (cmdA (drC s)), .string (drS s), .bool (dRd s), .int .i64 (drE s)]) ∧ Below w.heap.size w w' := by
  obtain ⟨W0, hW⟩ : ∃ W0, W0 = (w.alloc (.cells #[.int .i8 0, .int .i64 0, .int .i64 0, .int .i64 0, .int .i64 0, .int .i64 0, .int .i64 0, .int .i8 0] 32)).alloc (.cells #[.int .i8 0, .int .i64 0, .int .i64 0, .int .i64 0, .int .i64 0, .int .i64 0, .int .i64 0, .int .i8 0, .string ⟨#[]⟩, .bool false] 60) := ⟨_, rfl⟩
  have hb0 : Below w.heap.size w W0 := by rw [hW]; exact ((Below.refl _ _).alloc (Nat.le_refl _) _).alloc (by simp) _
  have hsz0 : W0.heap.size = w.heap.size + 2 := by rw [hW]; simp
  have q0 : Blk W0 w.heap.size #[.int .i8 0, .int .i64 0, .int .i64 0, .int .i64 0, .int .i64 0, .int .i64 0, .int .i64 0, .int .i8 0] 32 := by rw [hW]; exact (Blk.new w _ _).alloc _
  have P0 : RdrAt W0 (w.heap.size + 1) 60 zeroC ⟨#[]⟩ false [] := by
    have h := Blk.new (w.alloc (.cells #[.int .i8 0, .int .i64 0, .int .i64 0, .int .i64 0, .int .i64 0, .int .i64 0, .int .i64 0, .int .i8 0] 32)) #[.int .i8 0, .int .i64 0, .int .i64 0, .int .i64 0, .int .i64 0, .int .i64 0, .int .i64 0, .int .i8 0, .string ⟨#[]⟩, .bool false] 60
    rw [hW]
    have e : (w.alloc (.cells #[.int .i8 0, .int .i64 0, .int .i64 0, .int .i64 0, .int .i64 0, .int .i64 0, .int .i64 0, .int .i8 0] 32)).heap.size = w.heap.size + 1 := by simp
    rw [e] at h
    exact h
  have HC := Lib.hid (rread_any (w.heap.size + 1) _ _ _ _ _ s W0 P0 (by omega) hM (ht.below hb0))
  clear P0 ht hM
  obtain ⟨⟨k, q, sr, d, a, lo, hi, m⟩, hc⟩ : ∃ c, Hid (drC s = c) := ⟨_, rfl⟩
  obtain ⟨t, htx⟩ : ∃ t, Hid (drS s = t) := ⟨_, rfl⟩
  obtain ⟨y, hyx⟩ : ∃ t, Hid (dRd s = t) := ⟨_, rfl⟩
  obtain ⟨ee, hex⟩ : ∃ t, Hid (drE s = t) := ⟨_, rfl⟩
  rw [hc.out, htx.out, hyx.out, hex.out] at HC
  rw [hc.out, htx.out, hyx.out, hex.out]
  go_enter Tryd.func10, Tryd.ntmps10
  go_upto_region 2 with fail
  rw [← hW]
  clear hW
  go_upto_region 2 with fail
  go_wp2_with fail
  refine HC.out.mono ?_
  rintro e w1 ⟨rfl, P1, hO⟩
  have q1 : Blk w1 w.heap.size #[.int .i8 0, .int .i64 0, .int .i64 0, .int .i64 0, .int .i64 0, .int .i64 0, .int .i64 0, .int .i8 0] 32 := (hO.block w.heap.size (by omega) (by intro e; injection e with e; omega)).trans q0
  have b1 : Below w.heap.size w w1 := hb0.trans (hO.below (by omega) (by omega))
  clear HC q0 hb0 hO hsz0
  obtain ⟨b, hb⟩ : ∃ b, w.heap.size = b := ⟨_, rfl⟩
  rw [hb] at P1 q1 b1 ⊢
  obtain ⟨V0, zV0⟩ : ∃ V, V = w1.drew := ⟨_, rfl⟩
  have hHeld := RdrAt.cells (w := w1.drew) P1
  have hth : (w1.drew).there b 0 8 := Blk.there (w := w1.drew) q1
  have P2 : RdrAt ((w1.drew).setCells b 0 [.int .i8 k, .int .i64 q, .int .i64 sr, .int .i64 d, .int .i64 a, .int .i64 lo, .int .i64 hi, .int .i8 m]) (b + 1) 60 ⟨k, q, sr, d, a, lo, hi, m⟩ t y [] := Blk.aside (w := w1) [.int .i8 k, .int .i64 q, .int .i64 sr, .int .i64 d, .int .i64 a, .int .i64 lo, .int .i64 hi, .int .i8 m] 0 P1 (by omega)
  have b2 : Below b w ((w1.drew).setCells b 0 [.int .i8 k, .int .i64 q, .int .i64 sr, .int .i64 d, .int .i64 a, .int .i64 lo, .int .i64 hi, .int .i8 m]) := setCells_below [.int .i8 k, .int .i64 q, .int .i64 sr, .int .i64 d, .int .i64 a, .int .i64 lo, .int .i64 hi, .int .i8 m] 0 (b1.drew) (Nat.le_refl _)
  rw [← zV0] at hHeld hth P2 b2
  go_upto_region 3 with fail
  refine wp_region_held_drew (S := (fun W => W.cell? ⟨b + 1, 0, none⟩ = some (.int .i8 k) ∧ W.cell? ⟨b + 1, 1, none⟩ = some (.int .i64 q) ∧ W.cell? ⟨b + 1, 2, none⟩ = some (.int .i64 sr) ∧ W.cell? ⟨b + 1, 3, none⟩ = some (.int .i64 d) ∧ W.cell? ⟨b + 1, 4, none⟩ = some (.int .i64 a) ∧ W.cell? ⟨b + 1, 5, none⟩ = some (.int .i64 lo) ∧ W.cell? ⟨b + 1, 6, none⟩ = some (.int .i64 hi) ∧ W.cell? ⟨b + 1, 7, none⟩ = some (.int .i8 m) ∧ W.cell? ⟨b + 1, 8, none⟩ = some (.string t) ∧ W.cell? ⟨b + 1, 9, none⟩ = some (.bool y))) (by kernel_rfl) ?_ (fun hHeld => ?_)
  focus (rw [← zV0]; exact hHeld)
  rw [← zV0]
  clear zV0 P1 q1 b1
  refine wpAnyH_take (i := 0) (oi := ⟨some 9, _, _, _, _, _⟩) (v := ?_) rfl (by kernel_rfl) (by kernel_rfl) (by kernel_rfl) (fun _ _ _ h => h) (Or.inl ⟨by rfl, ?_⟩) (by assumption) ?_
  rotate_left
  focus (intro wq hSq; (try dsimp only at hSq); go_simp; try with_reducible rfl)
  try simp only [Act.put, List.setIfInBounds_toArray, List.set_cons_zero, List.set_cons_succ]
  refine wpAnyH_take (i := 1) (oi := ⟨some 10, _, _, _, _, _⟩) (v := ?_) rfl (by kernel_rfl) (by kernel_rfl) (by kernel_rfl) (fun _ _ _ h => h) (Or.inl ⟨by rfl, ?_⟩) (by assumption) ?_
  rotate_left
  focus (intro wq hSq; (try dsimp only at hSq); go_simp; try with_reducible rfl)
  try simp only [Act.put, List.setIfInBounds_toArray, List.set_cons_zero, List.set_cons_succ]
  refine wpAnyH_take (i := 2) (oi := ⟨some 11, _, _, _, _, _⟩) (v := ?_) rfl (by kernel_rfl) (by kernel_rfl) (by kernel_rfl) (fun _ _ _ h => h) (Or.inl ⟨by rfl, ?_⟩) (by assumption) ?_
  rotate_left
  focus (intro wq hSq; (try dsimp only at hSq); go_simp; try with_reducible rfl)
  try simp only [Act.put, List.setIfInBounds_toArray, List.set_cons_zero, List.set_cons_succ]
  refine wpAnyH_take (i := 3) (oi := ⟨some 12, _, _, _, _, _⟩) (v := ?_) rfl (by kernel_rfl) (by kernel_rfl) (by kernel_rfl) (fun _ _ _ h => h) (Or.inl ⟨by rfl, ?_⟩) (by assumption) ?_
  rotate_left
  focus (intro wq hSq; (try dsimp only at hSq); go_simp; try with_reducible rfl)
  try simp only [Act.put, List.setIfInBounds_toArray, List.set_cons_zero, List.set_cons_succ]
  refine wpAnyH_take (i := 4) (oi := ⟨some 13, _, _, _, _, _⟩) (v := ?_) rfl (by kernel_rfl) (by kernel_rfl) (by kernel_rfl) (fun _ _ _ h => h) (Or.inl ⟨by rfl, ?_⟩) (by assumption) ?_
  rotate_left
  focus (intro wq hSq; (try dsimp only at hSq); go_simp; try with_reducible rfl)
  try simp only [Act.put, List.setIfInBounds_toArray, List.set_cons_zero, List.set_cons_succ]
  refine wpAnyH_take (i := 5) (oi := ⟨some 14, _, _, _, _, _⟩) (v := ?_) rfl (by kernel_rfl) (by kernel_rfl) (by kernel_rfl) (fun _ _ _ h => h) (Or.inl ⟨by rfl, ?_⟩) (by assumption) ?_
  rotate_left
  focus (intro wq hSq; (try dsimp only at hSq); go_simp; try with_reducible rfl)
  try simp only [Act.put, List.setIfInBounds_toArray, List.set_cons_zero, List.set_cons_succ]
  refine wpAnyH_take (i := 6) (oi := ⟨some 15, _, _, _, _, _⟩) (v := ?_) rfl (by kernel_rfl) (by kernel_rfl) (by kernel_rfl) (fun _ _ _ h => h) (Or.inl ⟨by rfl, ?_⟩) (by assumption) ?_
  rotate_left
  focus (intro wq hSq; (try dsimp only at hSq); go_simp; try with_reducible rfl)
  try simp only [Act.put, List.setIfInBounds_toArray, List.set_cons_zero, List.set_cons_succ]
  refine wpAnyH_ready (rs := [7]) (by kernel_rfl) (by simp) ?_
  refine AllReadyH.cons (o := ⟨none, _, _, _, _, _⟩) rfl (fun K hK => ?_) AllReadyH.nil
  refine step_store_mid rfl 32 (.tmp 2) (.tmp 10) rfl b 0 #[.int .i8 k, .int .i64 q, .int .i64 sr, .int .i64 d, .int .i64 a, .int .i64 lo, .int .i64 hi, .int .i8 m] (by simp [Act.eval, Act.put]) (by simp [Act.eval, Act.put]) hth (by kernel_rfl) (by kernel_rfl) ?_
  refine hK.out _ _ ?_ (fun hHeld => ?_)
  focus (exact RdrAt.cells P2)
  clear hK K
  try simp only [Act.put, List.setIfInBounds_toArray, List.set_cons_zero, List.set_cons_succ]
  refine wpAnyH_take (i := 8) (oi := ⟨some 3, _, _, _, _, _⟩) (v := ?_) rfl (by kernel_rfl) (by kernel_rfl) (by kernel_rfl) (fun _ _ _ h => h) (Or.inl ⟨by rfl, ?_⟩) (by assumption) ?_
  rotate_left
  focus (intro wq hSq; (try dsimp only at hSq); go_simp; try with_reducible rfl)
  try simp only [Act.put, List.setIfInBounds_toArray, List.set_cons_zero, List.set_cons_succ]
  refine wpAnyH_take (i := 9) (oi := ⟨some 4, _, _, _, _, _⟩) (v := ?_) rfl (by kernel_rfl) (by kernel_rfl) (by kernel_rfl) (fun _ _ _ h => h) (Or.inl ⟨by rfl, ?_⟩) (by assumption) ?_
  rotate_left
  focus (intro wq hSq; (try dsimp only at hSq); go_simp; try with_reducible rfl)
  try simp only [Act.put, List.setIfInBounds_toArray, List.set_cons_zero, List.set_cons_succ]
  refine wpAnyH_take (i := 10) (oi := ⟨some 5, _, _, _, _, _⟩) (v := ?_) rfl (by kernel_rfl) (by kernel_rfl) (by kernel_rfl) (fun _ _ _ h => h) (Or.inl ⟨by rfl, ?_⟩) (by assumption) ?_
  rotate_left
  focus (intro wq hSq; (try dsimp only at hSq); go_simp; try with_reducible rfl)
  try simp only [Act.put, List.setIfInBounds_toArray, List.set_cons_zero, List.set_cons_succ]
  refine wpAnyH_done (by kernel_rfl) ?_ _
  go_wp2_with fail
  refine bodyPost_ret (results_four (cs := [.int .i8 k, .int .i64 q, .int .i64 sr, .int .i64 d, .int .i64 a, .int .i64 lo, .int .i64 hi, .int .i8 m]) Tryd.results10 (by rfl) (by rfl) (by rfl) (by rfl) (World.rangeAt_setCells_same _ _ _ _ hth) Tryd.underlying32 rfl (by kernel_rfl)) rfl ?_
  exact ⟨rfl, hb ▸ b2⟩

end Go.Proofs.YtjdacpnfgpdjhaaDoor
