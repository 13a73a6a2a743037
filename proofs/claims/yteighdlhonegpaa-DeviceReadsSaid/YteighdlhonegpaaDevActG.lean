/-
  The program's actor: what it puts: by contract.
-/
import Derived.Test.YteighdlhonegpaaDevActF
namespace Go.Proofs.Yteighdlhonegpaa
open Go.RowKit
set_option linter.unusedVariables false
set_option linter.unusedSimpArgs false

theorem celV_set (l : List Cel) {k : Nat} (s : Int) (t : ByteArray) (hk : k < l.length) (e : (l[k]).1 = s) : (celV l).set (k * 2 + 1) (.string t) = celV (l.set k (s, t)) := by
  induction l generalizing k with
  | nil => simp at hk
  | cons c r ih =>
    have e1 : celV (c :: r) = .int .i64 c.1 :: .string c.2 :: celV r := rfl
    rw [e1]
    cases k with
    | zero =>
      simp at e
      subst e
      rfl
    | succ k =>
      rw [show (k + 1) * 2 + 1 = (k * 2 + 1) + 1 + 1 by omega, List.set_cons_succ, List.set_cons_succ, ih (by simpa using hk) (by simpa using e), List.set_cons_succ]
      rfl

set_option maxRecDepth 100000 in
set_option maxHeartbeats 4000000 in
theorem put_any' (B b : Nat) (D : Dev) (i s : Nat) (t : ByteArray) (w : World) (h : ActorAt w B b D (i : Int)) (hi : i < D.C.length) (hS : Small D 1099511627776) (hB : B ≤ w.heap.size) :
    Calls Try.prog 55 #[.pointer (some ⟨b, 0, none⟩), .int .i64 (s : Int), .string t] w fun e w' => e = .returned (.tuple #[]) ∧ ActorAt w' B b (putD D i (s : Int) t) (i : Int) ∧ Below B w w' := by
  have hc := actPlace_any B b D i (s : Int) w h hi
  cases hp : placeO (cacheOf D i) (s : Int) with
  | some k =>
    obtain ⟨hk, hks⟩ := place_some hp
    rw [placeI_some hp] at hc
    have HF : Hid (putD D i (s : Int) t = { D with C := D.C.set i ((cacheOf D i).set k ((s : Int), t)) }) := by
      show putD D i (s : Int) t = _
      unfold putD putC setCache
      rw [hp]
    have H := Lib.hid h
    clear h hp
    go_enter Try.func55, Try.ntmps55
    go_wp2_with fail
    refine hc.mono ?_
    rintro e w1 ⟨rfl, hb1⟩
    have hsz := hb1.size
    have hbB : Below B w w1 := hb1.mono hB
    obtain ⟨vS, vC, vK, vF, f, h1⟩ := H.out.up hb1
    have hbx := h1.box
    obtain ⟨gc, cap, a, c, rfl, hgl, hcc, hff, hfi, hcm, hlc, hla⟩ := act_cache h1 hi
    obtain ⟨ga, c', e2, hBa, hal, hba, hca, -, -, hd, -, hz⟩ := act_cell h1 hi hk
    obtain ⟨rfl, rfl⟩ : a = some ⟨ga, 0, none⟩ ∧ c = c' := by rw [hfi] at e2; injection e2 with e1 _ e2; exact ⟨e1, e2⟩
    have hca := hca gc rfl
    have hst := (hfi ▸ h1.d.cs i hi).stored (k * 2 + 1) (.string t)
    have HE : Hid (ActAt (w1.setCell ⟨ga, k * 2 + 1, none⟩ (.string t)) B b vS (.slice (some ⟨gc, 0, none⟩) D.C.length cap) vK vF f { D with C := D.C.set i ((cacheOf D i).set k ((s : Int), t)) } (i : Int)) := by
      refine h1.turnC hi rfl (by rw [hfi]; exact hst.2) ?_
      rw [List.length_set, ← celV_set _ _ _ hk hks, hfi]
      exact hst.1
    have HB : Hid (Below B w (w1.setCell ⟨ga, k * 2 + 1, none⟩ (.string t))) := hbB.setCell (by simpa using hBa) _
    have c1 := hbx.c1
    have c5 := hbx.c5
    have i0 : (0 : Int) ≤ (i : Int) := by omega
    have i1 : (i : Int) < (D.C.length : Int) := by omega
    have k0 : (0 : Int) ≤ (k : Int) := by omega
    have k1 : (k : Int) < ((cacheOf D i).length : Int) := by omega
    have hba' : ga ≠ b := fun e => hba e.symm
    have hca' : ga ≠ gc := fun e => hca e.symm
    clear hks hst hla e2 h1 hfi hbx hc H
    generalize ((cacheOf D i)[k]).2 = t0 at *
    generalize D.C.length = nC at *
    generalize (cacheOf D i).length = nl at *
    go_wp2_with fail
    go_region_held3 (fun w' => w'.cell? ⟨b, 1, none⟩ = some (.slice (some ⟨gc, 0, none⟩) nC cap) ∧ w'.cell? ⟨b, 5, none⟩ = some (.int .i64 (i : Int)) ∧ w'.cell? ⟨gc, i, none⟩ = some (.slice (some ⟨ga, 0, none⟩) nl c)) (go_keep) (fail)
    go_wp2_with fail
    refine bodyPost_ret (results_none rfl _ _ _) rfl ?_
    refine ⟨rfl, ?_, HB.out.drew⟩
    rw [HF.out]
    exact ⟨_, _, _, _, _, HE.out.drew⟩
  | none =>
    rw [placeI_none hp] at hc
    have HF : Hid (putD D i (s : Int) t = { D with C := D.C.set i (cacheOf D i ++ [((s : Int), t)]) }) := by
      show putD D i (s : Int) t = _
      unfold putD putC setCache
      rw [hp]
    have H := Lib.hid h
    clear h hp
    obtain ⟨i0, hi', hz0, hz1, hz2⟩ := info_parts infoCell
    go_enter Try.func55, Try.ntmps55
    go_wp2_with fail
    refine hc.mono ?_
    rintro e wn ⟨rfl, hb1⟩
    have HBw := Lib.hid (hb1.mono hB)
    have hBw : B ≤ wn.heap.size := Nat.le_trans hB hb1.size
    obtain ⟨vS, vC, vK, vF, f, h1⟩ := H.out.up hb1
    clear hc H hb1 hB
    have hbx := h1.box
    obtain ⟨gc, cap, a, c, rfl, hgl, hcc, hff, hfi, hcm, hlc, hla⟩ := act_cache h1 hi
    have hl63 : (cacheOf D i).length ≤ 1099511627776 := hS.cs _ (by unfold cacheOf; rw [List.getD, List.getElem?_eq_getElem hi]; exact List.getElem_mem hi)
    have hgc := h1.d.c.lt gc rfl
    have hne : b ≠ gc := own_blk h1.d.c h1.a (by decide) rfl
    have hne' : gc ≠ b := fun e => hne e.symm
    have hbl := h1.a.lt
    have hapart : ∀ g, (f i).ownBlock = some g → gc ≠ g ∧ b ≠ g := fun g hg => ⟨fun e => by
      subst e
      rcases own_apart h1.d.c (h1.d.cs i hi) (by decide) hg with h2 | h2
      · cases h2
      · exact h2 rfl, own_blk (h1.d.cs i hi) h1.a (by decide) hg⟩
    obtain ⟨WA, hWA⟩ : ∃ WA, WA = (wn.alloc (.cells #[.int .i64 (s : Int), .string t] 59)).drew := ⟨_, rfl⟩
    have hbA : Below wn.heap.size wn WA := hWA ▸ ((Below.refl _ _).alloc (Nat.le_refl _) _).drew
    have hA := h1.up hbA
    have HOWN : Hid (WA.ownsRow B 59 2 (.slice a (cacheOf D i).length c) (cacheOf D i).length (celV (cacheOf D i))) := by
      have h2 := hA.d.cs i hi
      rw [hfi] at h2
      exact h2
    have HNEW : Hid (∀ j u, (celV [((s : Int), t)])[j]? = some u → WA.cell? ((⟨wn.heap.size, 0, none⟩ : Addr).add j) = some u) := fun j u hj => by
      rw [hWA, Addr.add_lit]
      show (wn.alloc _).cell? _ = some u
      rw [Nat.zero_add]
      refine (Blk.new wn _ _).cell j u ?_
      match j, hj with
      | 0, hj => exact hj
      | 1, hj => exact hj
      | j + 2, hj => simp [celV] at hj
    have HB1 : Hid ((cacheOf D i).length + 1 ≤ maxLen) := by show _ ≤ _; unfold maxLen; omega
    have HB2 : Hid (((cacheOf D i).length + 1) * 24 ≤ 140737488355328) := by show _ ≤ _; omega
    have HB3 : Hid (B ≤ WA.heap.size) := Nat.le_trans hBw hbA.size
    have zcc0 : WA.cell? ⟨gc, i, none⟩ = some (.slice a (cacheOf D i).length c) := (hbA.cell (p := ⟨gc, i, none⟩) hgl).trans hcc
    have HSTEP : Hid (∀ ga cap2 w1, w1.ownsRow B 59 2 (.slice (some ⟨ga, 0, none⟩) ((cacheOf D i).length + 1) cap2) ((cacheOf D i).length + 1) (celV (cacheOf D i) ++ celV [((s : Int), t)]) → WA.grownBy w1 (Value.slice a (cacheOf D i).length c).ownBlock → ((Value.slice a (cacheOf D i).length c).ownBlock = some ga ∨ ga = WA.heap.size) →
        w1.cell? ⟨b, 1, none⟩ = some (.slice (some ⟨gc, 0, none⟩) D.C.length cap) ∧ w1.cell? ⟨b, 5, none⟩ = some (.int .i64 (i : Int)) ∧
        (w1.setCell ⟨gc, i, none⟩ (.slice (some ⟨ga, 0, none⟩) ((cacheOf D i).length + 1) cap2)).cell? ⟨b, 1, none⟩ = some (.slice (some ⟨gc, 0, none⟩) D.C.length cap) ∧ (w1.setCell ⟨gc, i, none⟩ (.slice (some ⟨ga, 0, none⟩) ((cacheOf D i).length + 1) cap2)).cell? ⟨b, 5, none⟩ = some (.int .i64 (i : Int)) ∧
        w1.cell? ⟨gc, i, none⟩ = some (.slice a (cacheOf D i).length c) ∧ w1.frozen? ⟨gc, i, none⟩ = false ∧
        Hid (ActorAt (w1.setCell ⟨gc, i, none⟩ (.slice (some ⟨ga, 0, none⟩) ((cacheOf D i).length + 1) cap2)) B b (putD D i (s : Int) t) (i : Int) ∧ Below B w (w1.setCell ⟨gc, i, none⟩ (.slice (some ⟨ga, 0, none⟩) ((cacheOf D i).length + 1) cap2)))) := by
      intro ga cap2 w1 hown1 hgrow hat
      rw [← hfi] at hgrow hat
      have hA2 := hA.swapC (l := cacheOf D i ++ [((s : Int), t)]) rfl hi rfl hgrow (u := .slice (some ⟨ga, 0, none⟩) ((cacheOf D i).length + 1) cap2) (by rw [List.length_append, celV_append]; exact hown1) (by
        rcases hat with h2 | h2
        · exact .inl (by rw [h2]; rfl)
        · exact .inr fun x hx => by simp [Value.ownBlock] at hx; omega)
      have hba : ∀ o u, WA.cell? ⟨b, o, none⟩ = some u → w1.cell? ⟨b, o, none⟩ = some u := fun o u hu => hgrow.cell (a := ⟨b, o, none⟩) hu (fun e => (hapart b e.symm).2 rfl)
      refine ⟨hba _ _ hA.box.c1, hba _ _ hA.box.c5, hA2.box.c1, hA2.box.c5, hgrow.cell (a := ⟨gc, i, none⟩) zcc0 (fun e => (hapart gc e.symm).1 rfl), (hgrow.frozen_far ⟨gc, i, none⟩ (Nat.lt_of_lt_of_le hgl hbA.size) (fun e => (hapart gc e.symm).1 rfl)).trans ((hbA.frozen (p := ⟨gc, i, none⟩) hgl).trans hff), ?_, ?_⟩
      · rw [HF.out]
        exact ⟨_, _, _, _, _, hA2⟩
      · refine Below.setCell ?_ (by simpa using hgc.1) _
        refine HBw.out.trans ((hbA.mono hBw).trans ?_)
        exact below_grown_by hgrow (Nat.le_trans hBw hbA.size) (fun k hk => ((h1.d.cs i hi).lt k hk).1)
    have c1 := hbx.c1
    have c5 := hbx.c5
    have z1 : WA.cell? ⟨b, 1, none⟩ = some (.slice (some ⟨gc, 0, none⟩) D.C.length cap) := hA.box.c1
    have z5 : WA.cell? ⟨b, 5, none⟩ = some (.int .i64 (i : Int)) := hA.box.c5
    have zcc := zcc0
    rw [hWA] at z1 z5 zcc
    have j0 : (0 : Int) ≤ (i : Int) := by omega
    have j1 : (i : Int) < (D.C.length : Int) := by omega
    clear hbx h1 hA hla hfi hapart hS HBw hBw hbA zcc0
    subst hWA
    have zc2 : (wn.alloc (.cells #[.int .i64 (s : Int), .string t] 59)).cell? ⟨gc, i, none⟩ = some (.slice a (cacheOf D i).length c) := zcc
    clear zcc
    generalize D.C.length = nC at *
    generalize cacheOf D i = l at *
    obtain ⟨nl, hnl⟩ : ∃ n, l.length = n := ⟨_, rfl⟩
    rw [hnl] at HSTEP HOWN HB1 HB2 hcc zc2 hlc hl63
    clear hnl HF
    go_wp2_with fail
    refine wp_region_held_drew (S := (fun w' => w'.cell? ⟨b, 1, none⟩ = some (.slice (some ⟨gc, 0, none⟩) nC cap) ∧ w'.cell? ⟨b, 5, none⟩ = some (.int .i64 (i : Int)))) (by kernel_rfl) ?_ (fun hHeld => ?_)
    focus (exact ⟨c1, c5⟩)
    refine wpAnyH_take (i := 0) (oi := ⟨some 28, _, _, _, _, _⟩) (v := ?_) rfl (by kernel_rfl) (by kernel_rfl) (by kernel_rfl) (fun _ _ _ h => h) (Or.inl ⟨by rfl, ?_⟩) (by assumption) ?_
    rotate_left
    focus (intro wq hSq; (try dsimp only at hSq); go_simp; try with_reducible rfl)
    try simp only [Act.put, List.setIfInBounds_toArray, List.set_cons_zero, List.set_cons_succ]
    refine wpAnyH_take (i := 1) (oi := ⟨some 29, _, _, _, _, _⟩) (v := ?_) rfl (by kernel_rfl) (by kernel_rfl) (by kernel_rfl) (fun _ _ _ h => h) (Or.inl ⟨by rfl, ?_⟩) (by assumption) ?_
    rotate_left
    focus (intro wq hSq; (try dsimp only at hSq); go_simp; try with_reducible rfl)
    try simp only [Act.put, List.setIfInBounds_toArray, List.set_cons_zero, List.set_cons_succ]
    refine wpAnyH_take (i := 2) (oi := ⟨some 30, _, _, _, _, _⟩) (v := ?_) rfl (by kernel_rfl) (by kernel_rfl) (by kernel_rfl) (fun _ _ _ h => h) (Or.inl ⟨by rfl, ?_⟩) (by assumption) ?_
    rotate_left
    focus (intro wq hSq; (try dsimp only at hSq); go_simp; try with_reducible rfl)
    try simp only [Act.put, List.setIfInBounds_toArray, List.set_cons_zero, List.set_cons_succ]
    refine wpAnyH_take (i := 3) (oi := ⟨some 31, _, _, _, _, _⟩) (v := ?_) rfl (by kernel_rfl) (by kernel_rfl) (by kernel_rfl) (fun _ _ _ h => h) (Or.inl ⟨by rfl, ?_⟩) (by assumption) ?_
    rotate_left
    focus (intro wq hSq; (try dsimp only at hSq); go_simp; try with_reducible rfl)
    try simp only [Act.put, List.setIfInBounds_toArray, List.set_cons_zero, List.set_cons_succ]
    refine wpAnyH_take (i := 4) (oi := ⟨some 32, _, _, _, _, _⟩) (v := ?_) rfl (by kernel_rfl) (by kernel_rfl) (by kernel_rfl) (fun _ _ _ h => h) (Or.inl ⟨by rfl, ?_⟩) (by assumption) ?_
    rotate_left
    focus (intro wq hSq; (try dsimp only at hSq); go_simp; try with_reducible rfl)
    try simp only [Act.put, List.setIfInBounds_toArray, List.set_cons_zero, List.set_cons_succ]
    refine wpAnyH_take (i := 5) (oi := ⟨some 33, _, _, _, _, _⟩) (v := ?_) rfl (by kernel_rfl) (by kernel_rfl) (by kernel_rfl) (fun _ _ _ h => h) (Or.inl ⟨by rfl, ?_⟩) (by assumption) ?_
    rotate_left
    focus (intro wq hSq; (try dsimp only at hSq); go_simp; try with_reducible rfl)
    try simp only [Act.put, List.setIfInBounds_toArray, List.set_cons_zero, List.set_cons_succ]
    refine wpAnyH_take (i := 6) (oi := ⟨some 34, _, _, _, _, _⟩) (v := ?_) rfl (by kernel_rfl) (by kernel_rfl) (by kernel_rfl) (fun _ _ _ h => h) (Or.inl ⟨by rfl, ?_⟩) (by assumption) ?_
    rotate_left
    focus (intro wq hSq; (try dsimp only at hSq); go_simp; try with_reducible rfl)
    try simp only [Act.put, List.setIfInBounds_toArray, List.set_cons_zero, List.set_cons_succ]
    refine wpAnyH_take (i := 7) (oi := ⟨some 35, _, _, _, _, _⟩) (v := ?_) rfl (by kernel_rfl) (by kernel_rfl) (by kernel_rfl) (fun _ _ _ h => h) (Or.inl ⟨by rfl, ?_⟩) (by assumption) ?_
    rotate_left
    focus (intro wq hSq; (try dsimp only at hSq); go_simp; try with_reducible rfl)
    try simp only [Act.put, List.setIfInBounds_toArray, List.set_cons_zero, List.set_cons_succ]
    refine wpAnyH_take (i := 8) (oi := ⟨some 36, _, _, _, _, _⟩) (v := ?_) rfl (by kernel_rfl) (by kernel_rfl) (by kernel_rfl) (fun _ _ _ h => h) (Or.inl ⟨by rfl, ?_⟩) (by assumption) ?_
    rotate_left
    focus (intro wq hSq; (try dsimp only at hSq); go_simp; try with_reducible rfl)
    try simp only [Act.put, List.setIfInBounds_toArray, List.set_cons_zero, List.set_cons_succ]
    refine wpAnyH_take (i := 9) (oi := ⟨some 37, _, _, _, _, _⟩) (v := ?_) rfl (by kernel_rfl) (by kernel_rfl) (by kernel_rfl) (fun _ _ _ h => h) (Or.inl ⟨by rfl, ?_⟩) (by assumption) ?_
    rotate_left
    focus (intro wq hSq; (try dsimp only at hSq); go_simp; try with_reducible rfl)
    try simp only [Act.put, List.setIfInBounds_toArray, List.set_cons_zero, List.set_cons_succ]
    refine wpAnyH_take (i := 10) (oi := ⟨some 38, _, _, _, _, _⟩) (v := ?_) rfl (by kernel_rfl) (by kernel_rfl) (by kernel_rfl) (fun _ _ _ h => h) (Or.inl ⟨by rfl, ?_⟩) (by assumption) ?_
    rotate_left
    focus (intro wq hSq; (try dsimp only at hSq); go_simp; try with_reducible rfl)
    try simp only [Act.put, List.setIfInBounds_toArray, List.set_cons_zero, List.set_cons_succ]
    refine wpAnyH_take (i := 11) (oi := ⟨some 39, _, _, _, _, _⟩) (v := ?_) rfl (by kernel_rfl) (by kernel_rfl) (by kernel_rfl) (fun _ _ _ h => h) (Or.inl ⟨by rfl, ?_⟩) (by assumption) ?_
    rotate_left
    focus (intro wq hSq; (try dsimp only at hSq); go_simp; try with_reducible rfl)
    try simp only [Act.put, List.setIfInBounds_toArray, List.set_cons_zero, List.set_cons_succ]
    refine wpAnyH_take (i := 12) (oi := ⟨some 40, _, _, _, _, _⟩) (v := ?_) rfl (by kernel_rfl) (by kernel_rfl) (by kernel_rfl) (fun _ _ _ h => h) (Or.inl ⟨by rfl, ?_⟩) (by assumption) ?_
    rotate_left
    focus (intro wq hSq; (try dsimp only at hSq); go_simp; try with_reducible rfl)
    try simp only [Act.put, List.setIfInBounds_toArray, List.set_cons_zero, List.set_cons_succ]
    refine wpAnyH_take (i := 13) (oi := ⟨some 41, _, _, _, _, _⟩) (v := ?_) rfl (by kernel_rfl) (by kernel_rfl) (by kernel_rfl) (fun _ _ _ h => h) (Or.inl ⟨by rfl, ?_⟩) (by assumption) ?_
    rotate_left
    focus (intro wq hSq; (try dsimp only at hSq); go_simp; try with_reducible rfl)
    try simp only [Act.put, List.setIfInBounds_toArray, List.set_cons_zero, List.set_cons_succ]
    refine wpAnyH_take (i := 14) (oi := ⟨some 42, _, _, _, _, _⟩) (v := ?_) rfl (by kernel_rfl) (by kernel_rfl) (by kernel_rfl) (fun _ _ _ h => h) (Or.inl ⟨by rfl, ?_⟩) (by assumption) ?_
    rotate_left
    focus (intro wq hSq; (try dsimp only at hSq); go_simp; try with_reducible rfl)
    try simp only [Act.put, List.setIfInBounds_toArray, List.set_cons_zero, List.set_cons_succ]
    refine wpAnyH_take (i := 15) (oi := ⟨some 43, _, _, _, _, _⟩) (v := ?_) rfl (by kernel_rfl) (by kernel_rfl) (by kernel_rfl) (fun _ _ _ h => h) (Or.inl ⟨by rfl, ?_⟩) (by assumption) ?_
    rotate_left
    focus (intro wq hSq; (try dsimp only at hSq); go_simp; try with_reducible rfl)
    try simp only [Act.put, List.setIfInBounds_toArray, List.set_cons_zero, List.set_cons_succ]
    refine wpAnyH_take (i := 16) (oi := ⟨some 44, _, _, _, _, _⟩) (v := ?_) rfl (by kernel_rfl) (by kernel_rfl) (by kernel_rfl) (fun _ _ _ h => h) (Or.inl ⟨by rfl, ?_⟩) (by assumption) ?_
    rotate_left
    focus (intro wq hSq; (try dsimp only at hSq); go_simp; try with_reducible rfl)
    try simp only [Act.put, List.setIfInBounds_toArray, List.set_cons_zero, List.set_cons_succ]
    refine wpAnyH_take (i := 17) (oi := ⟨some 45, _, _, _, _, _⟩) (v := ?_) rfl (by kernel_rfl) (by kernel_rfl) (by kernel_rfl) (fun _ _ _ h => h) (Or.inl ⟨by rfl, ?_⟩) (by assumption) ?_
    rotate_left
    focus (intro wq hSq; (try dsimp only at hSq); go_simp; try with_reducible rfl)
    try simp only [Act.put, List.setIfInBounds_toArray, List.set_cons_zero, List.set_cons_succ]
    refine wpAnyH_take (i := 18) (oi := ⟨some 46, _, _, _, _, _⟩) (v := ?_) rfl (by kernel_rfl) (by kernel_rfl) (by kernel_rfl) (fun _ _ _ h => h) (Or.inl ⟨by rfl, ?_⟩) (by assumption) ?_
    rotate_left
    focus (intro wq hSq; (try dsimp only at hSq); go_simp; try with_reducible rfl)
    try simp only [Act.put, List.setIfInBounds_toArray, List.set_cons_zero, List.set_cons_succ]
    refine wpAnyH_take (i := 19) (oi := ⟨some 47, _, _, _, _, _⟩) (v := ?_) rfl (by kernel_rfl) (by kernel_rfl) (by kernel_rfl) (fun _ _ _ h => h) (Or.inl ⟨by rfl, ?_⟩) (by assumption) ?_
    rotate_left
    focus (intro wq hSq; (try dsimp only at hSq); go_simp; try with_reducible rfl)
    try simp only [Act.put, List.setIfInBounds_toArray, List.set_cons_zero, List.set_cons_succ]
    refine wpAnyH_take (i := 20) (oi := ⟨some 48, _, _, _, _, _⟩) (v := ?_) rfl (by kernel_rfl) (by kernel_rfl) (by kernel_rfl) (fun _ _ _ h => h) (Or.inl ⟨by rfl, ?_⟩) (by assumption) ?_
    rotate_left
    focus (intro wq hSq; (try dsimp only at hSq); go_simp; try with_reducible rfl)
    try simp only [Act.put, List.setIfInBounds_toArray, List.set_cons_zero, List.set_cons_succ]
    refine wpAnyH_take (i := 22) (oi := ⟨some 50, _, _, _, _, _⟩) (v := ?_) rfl (by kernel_rfl) (by kernel_rfl) (by kernel_rfl) (fun _ _ _ h => h) (Or.inl ⟨by rfl, ?_⟩) (by assumption) ?_
    rotate_left
    focus (intro wq hSq; (try dsimp only at hSq); go_simp; try with_reducible rfl)
    try simp only [Act.put, List.setIfInBounds_toArray, List.set_cons_zero, List.set_cons_succ]
    refine wpAnyH_take (i := 23) (oi := ⟨some 51, _, _, _, _, _⟩) (v := ?_) rfl (by kernel_rfl) (by kernel_rfl) (by kernel_rfl) (fun _ _ _ h => h) (Or.inl ⟨by rfl, ?_⟩) (by assumption) ?_
    rotate_left
    focus (intro wq hSq; (try dsimp only at hSq); go_simp; try with_reducible rfl)
    try simp only [Act.put, List.setIfInBounds_toArray, List.set_cons_zero, List.set_cons_succ]
    refine wpAnyH_take (i := 24) (oi := ⟨some 52, _, _, _, _, _⟩) (v := ?_) rfl (by kernel_rfl) (by kernel_rfl) (by kernel_rfl) (fun _ _ _ h => h) (Or.inl ⟨by rfl, ?_⟩) (by assumption) ?_
    rotate_left
    focus (intro wq hSq; (try dsimp only at hSq); go_simp; try with_reducible rfl)
    try simp only [Act.put, List.setIfInBounds_toArray, List.set_cons_zero, List.set_cons_succ]
    refine wpAnyH_ready (rs := [21, 25]) (by kernel_rfl) (by simp) ?_
    refine AllReadyH.cons (o := ⟨some 49, _, _, _, _, _⟩) rfl (fun K hK => ?_) (AllReadyH.cons (o := ⟨some 53, _, _, _, _, _⟩) rfl (fun K hK => ?_) AllReadyH.nil)
    · go_simp
      refine hK.out _ _ ?_ (fun hHeld => ?_)
      focus (assumption)
      clear hK K
      try simp only [Act.put, List.setIfInBounds_toArray, List.set_cons_zero, List.set_cons_succ]
      refine wpAnyH_ready (rs := [25]) (by kernel_rfl) (by simp) ?_
      refine AllReadyH.cons (o := ⟨some 53, _, _, _, _, _⟩) rfl (fun K hK => ?_) AllReadyH.nil
      go_simp
      refine hK.out _ _ ?_ (fun hHeld => ?_)
      focus (exact ⟨z1, z5⟩)
      clear hK K
      try simp only [Act.put, List.setIfInBounds_toArray, List.set_cons_zero, List.set_cons_succ]
      refine wpAnyH_ready (rs := [26]) (by kernel_rfl) (by simp) ?_
      refine AllReadyH.cons (o := ⟨some 54, _, _, _, _, _⟩) rfl (fun K hK => ?_) AllReadyH.nil
      refine step_append_lies _ rfl (.tmp 49) (.tmp 53) 57 rfl B 59 i0 _ 2 24 Try.underlying57 hi' hz0 hz1 hz2 rfl (by omega) (.slice a nl c) nl (celV l) (by simp [Act.eval, Act.put]) HOWN.out ⟨wn.heap.size, 0, none⟩ 1 1 (celV [((s : Int), t)]) (by simp [Act.eval, Act.put]) rfl HNEW.out (celV_one _) (by omega) HB1.out HB2.out HB3.out _ rfl ?_
      intro ga cap2 w1 hown1 hgrow hat hlt
      obtain ⟨k0, k1, k2, k3, k4, k5, HK⟩ := HSTEP.out ga cap2 w1 hown1 hgrow hat
      clear hown1 hgrow hat hlt
      refine hK.out _ _ ?_ (fun hHeld => ?_)
      focus (exact ⟨k0, k1⟩)
      clear hK K
      try simp only [Act.put, List.setIfInBounds_toArray, List.set_cons_zero, List.set_cons_succ]
      refine wpAnyH_take (i := 27) (oi := ⟨some 55, _, _, _, _, _⟩) (v := ?_) rfl (by kernel_rfl) (by kernel_rfl) (by kernel_rfl) (fun _ _ _ h => h) (Or.inl ⟨by rfl, ?_⟩) (by assumption) ?_
      rotate_left
      focus (intro wq hSq; (try dsimp only at hSq); go_simp; try with_reducible rfl)
      try simp only [Act.put, List.setIfInBounds_toArray, List.set_cons_zero, List.set_cons_succ]
      refine wpAnyH_ready (rs := [28]) (by kernel_rfl) (by simp) ?_
      refine AllReadyH.cons (o := ⟨none, _, _, _, _, _⟩) rfl (fun K hK => ?_) AllReadyH.nil
      go_simp
      refine hK.out _ _ ?_ (fun hHeld => ?_)
      focus (exact ⟨k2, k3⟩)
      clear hK K
      try simp only [Act.put, List.setIfInBounds_toArray, List.set_cons_zero, List.set_cons_succ]
      refine wpAnyH_done (by kernel_rfl) ?_ _
      go_wp2_with fail
      go_end0
      exact ⟨rfl, HK.out.1, HK.out.2⟩
    · go_simp
      refine hK.out _ _ ?_ (fun hHeld => ?_)
      focus (exact ⟨z1, z5⟩)
      clear hK K
      try simp only [Act.put, List.setIfInBounds_toArray, List.set_cons_zero, List.set_cons_succ]
      refine wpAnyH_ready (rs := [21]) (by kernel_rfl) (by simp) ?_
      refine AllReadyH.cons (o := ⟨some 49, _, _, _, _, _⟩) rfl (fun K hK => ?_) AllReadyH.nil
      go_simp
      refine hK.out _ _ ?_ (fun hHeld => ?_)
      focus (assumption)
      clear hK K
      try simp only [Act.put, List.setIfInBounds_toArray, List.set_cons_zero, List.set_cons_succ]
      refine wpAnyH_ready (rs := [26]) (by kernel_rfl) (by simp) ?_
      refine AllReadyH.cons (o := ⟨some 54, _, _, _, _, _⟩) rfl (fun K hK => ?_) AllReadyH.nil
      refine step_append_lies _ rfl (.tmp 49) (.tmp 53) 57 rfl B 59 i0 _ 2 24 Try.underlying57 hi' hz0 hz1 hz2 rfl (by omega) (.slice a nl c) nl (celV l) (by simp [Act.eval, Act.put]) HOWN.out ⟨wn.heap.size, 0, none⟩ 1 1 (celV [((s : Int), t)]) (by simp [Act.eval, Act.put]) rfl HNEW.out (celV_one _) (by omega) HB1.out HB2.out HB3.out _ rfl ?_
      intro ga cap2 w1 hown1 hgrow hat hlt
      obtain ⟨k0, k1, k2, k3, k4, k5, HK⟩ := HSTEP.out ga cap2 w1 hown1 hgrow hat
      clear hown1 hgrow hat hlt
      refine hK.out _ _ ?_ (fun hHeld => ?_)
      focus (exact ⟨k0, k1⟩)
      clear hK K
      try simp only [Act.put, List.setIfInBounds_toArray, List.set_cons_zero, List.set_cons_succ]
      refine wpAnyH_take (i := 27) (oi := ⟨some 55, _, _, _, _, _⟩) (v := ?_) rfl (by kernel_rfl) (by kernel_rfl) (by kernel_rfl) (fun _ _ _ h => h) (Or.inl ⟨by rfl, ?_⟩) (by assumption) ?_
      rotate_left
      focus (intro wq hSq; (try dsimp only at hSq); go_simp; try with_reducible rfl)
      try simp only [Act.put, List.setIfInBounds_toArray, List.set_cons_zero, List.set_cons_succ]
      refine wpAnyH_ready (rs := [28]) (by kernel_rfl) (by simp) ?_
      refine AllReadyH.cons (o := ⟨none, _, _, _, _, _⟩) rfl (fun K hK => ?_) AllReadyH.nil
      go_simp
      refine hK.out _ _ ?_ (fun hHeld => ?_)
      focus (exact ⟨k2, k3⟩)
      clear hK K
      try simp only [Act.put, List.setIfInBounds_toArray, List.set_cons_zero, List.set_cons_succ]
      refine wpAnyH_done (by kernel_rfl) ?_ _
      go_wp2_with fail
      go_end0
      exact ⟨rfl, HK.out.1, HK.out.2⟩

end Go.Proofs.Yteighdlhonegpaa
