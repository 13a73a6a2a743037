/-
  The program's actor: what it reads; forgetting, dropping, forcing, flushing: by contract.
-/
import Derived.Test.YteighdlhonegpaaDevActD
import Derived.Test.YteighdlhonegpaaDevDelete
import Derived.Deep.RegionHeld3
namespace Go.Proofs.Yteighdlhonegpaa
open Go.RowKit
set_option linter.unusedVariables false
set_option linter.unusedSimpArgs false

section
variable {w w' : World} {B b : Nat} {vS vC vK vF : Value} {f : Nat → Value} {D : Dev} {node : Int}
theorem ActAt.drew (h : ActAt w B b vS vC vK vF f D node) : ActAt w.drew B b vS vC vK vF f D node := h.up ((Below.refl _ _).drew)
theorem ActAt.setS (h : ActAt w B b vS vC vK vF f D node) {g cap : Nat} (e : vS = .slice (some ⟨g, 0, none⟩) D.S.length cap) (i : Nat) (t : ByteArray) :
    ActAt (w.setCell ⟨g, i, none⟩ (.string t)) B b vS vC vK vF f { D with S := D.S.set i t } node :=
  ⟨h.d.setS e i t, h.a.other (own_blk h.d.s h.a (by decide) (by rw [e]; rfl)) _ _, h.hb⟩
theorem ActAt.setK (h : ActAt w B b vS vC vK vF f D node) {g cap : Nat} (e : vK = .slice (some ⟨g, 0, none⟩) D.K.length cap) (i : Nat) (x : Int) :
    ActAt (w.setCell ⟨g, i, none⟩ (.int .i64 x)) B b vS vC vK vF f { D with K := D.K.set i x } node :=
  ⟨h.d.setK e i x, h.a.other (own_blk h.d.k h.a (by decide) (by rw [e]; rfl)) _ _, h.hb⟩
theorem ActAt.setC (h : ActAt w B b vS vC vK vF f D node) {g cap : Nat} (e : vC = .slice (some ⟨g, 0, none⟩) D.C.length cap) {i : Nat} (hi : i < D.C.length) {u : Value} {l : List Cel}
    (hu : w.ownsRow B 59 2 u l.length (celV l)) (ha : ∀ j x, j < D.C.length → j ≠ i → u.ownBlock = some x → (f j).ownBlock ≠ some x) :
    ActAt (w.setCell ⟨g, i, none⟩ u) B b vS vC vK vF (fun j => if j = i then u else f j) { D with C := D.C.set i l } node :=
  ⟨h.d.setC e hi hu ha, h.a.other (own_blk h.d.c h.a (by decide) (by rw [e]; rfl)) _ _, h.hb⟩
theorem ActAt.turnC (h : ActAt w B b vS vC vK vF f D node) {i : Nat} (hi : i < D.C.length) {row : Option Nat} (hr : row = (f i).ownBlock) (hg : w.grownBy w' row) {l : List Cel} (hu : w'.ownsRow B 59 2 (f i) l.length (celV l)) :
    ActAt w' B b vS vC vK vF f { D with C := D.C.set i l } node := by
  refine ⟨h.d.turnC hi hr hg hu, ?_, h.hb⟩
  refine (hg.block b h.a.lt ?_).trans h.a
  rw [hr]
  intro e
  exact own_blk (h.d.cs i hi) h.a (by decide) e.symm rfl
/-- A cache is another, and is written in its place. -/
theorem OwnD.swapC {w1 : World} (h : OwnD w B vS vC vK vF f D) {g cap : Nat} (e : vC = .slice (some ⟨g, 0, none⟩) D.C.length cap) {i : Nat} (hi : i < D.C.length) {row : Option Nat} (hr : row = (f i).ownBlock) (hg : w.grownBy w1 row) {u : Value} {l : List Cel}
    (hu : w1.ownsRow B 59 2 u l.length (celV l)) (hub : u.ownBlock = (f i).ownBlock ∨ ∀ x, u.ownBlock = some x → w.heap.size ≤ x) :
    OwnD (w1.setCell ⟨g, i, none⟩ u) B vS vC vK vF (fun j => if j = i then u else f j) { D with C := D.C.set i l } := by
  subst hr
  have key : ∀ {e : TypeId} {v : Value} {n : Nat} {xs : List Value}, w.ownsRow B e 1 v n xs → e ≠ 59 → v.ownBlock = none ∨ v.ownBlock ≠ (f i).ownBlock := by
    intro e v n xs hv hne
    cases e1 : (f i).ownBlock with
    | none => cases e2 : v.ownBlock <;> simp
    | some g => exact own_apart hv (h.cs i hi) hne e1
  have s1 := h.s.kept hg (key h.s (by decide))
  have c1 := h.c.kept hg (key h.c (by decide))
  have k1 := h.k.kept hg (key h.k (by decide))
  have f1 := h.ff.kept hg (key h.ff (by decide))
  have cs1 : ∀ j, j < D.C.length → j ≠ i → w1.ownsRow B 59 2 (f j) (D.C.getD j []).length (celV (D.C.getD j [])) := fun j hj hji => by
    refine (h.cs j hj).kept hg ?_
    cases e1 : (f j).ownBlock with
    | none => exact .inl rfl
    | some x =>
      right
      intro e2
      exact hji (h.cc j i x hj hi e1 e2.symm)
  have hgb : vC.ownBlock = some g := by rw [e]; rfl
  have hst := (e ▸ c1).stored i u
  refine ⟨s1.kept hst.2 (own_apart s1 c1 (by decide) hgb), ?_, k1.kept hst.2 (own_apart k1 c1 (by decide) hgb), f1.kept hst.2 (own_apart f1 c1 (by decide) hgb), fun j hj => ?_, h.kf, fun j m x hj hm h1 h2 => ?_⟩
  · show World.ownsRow _ B _ 1 vC (D.C.set i l).length ((List.range (D.C.set i l).length).map fun j => if j = i then u else f j)
    rw [List.length_set]
    have e2 : ((List.range D.C.length).map fun j => if j = i then u else f j) = ((List.range D.C.length).map f).set i u := by
      apply List.ext_getElem
      · simp
      · intro j h1 h2
        simp only [List.getElem_map, List.getElem_range, List.getElem_set]
        by_cases e : j = i
        · rw [if_pos e, if_pos e.symm]
        · rw [if_neg e, if_neg (fun h => e h.symm)]
    rw [e2, e]
    exact hst.1
  · have hj' : j < D.C.length := by have : j < (D.C.set i l).length := hj; rwa [List.length_set] at this
    show World.ownsRow _ B _ 2 (if j = i then u else f j) ((D.C.set i l).getD j []).length (celV ((D.C.set i l).getD j []))
    rw [getD_set_c l hi]
    by_cases e : j = i
    · rw [if_pos e, if_pos e.symm]
      exact hu.kept hst.2 (own_apart hu c1 (by decide) hgb)
    · rw [if_neg e, if_neg (fun h => e h.symm)]
      exact (cs1 j hj' e).kept hst.2 (own_apart (cs1 j hj' e) c1 (by decide) hgb)
  · have hj' : j < D.C.length := by have : j < (D.C.set i l).length := hj; rwa [List.length_set] at this
    have hm' : m < D.C.length := by have : m < (D.C.set i l).length := hm; rwa [List.length_set] at this
    have no : ∀ q, q < D.C.length → q ≠ i → u.ownBlock = some x → (f q).ownBlock = some x → False := by
      intro q hq hqi hx hy
      rcases hub with h3 | h3
      · exact hqi (h.cc q i x hq hi hy (h3.symm.trans hx))
      · have a1 := h3 x hx
        have a2 := ((h.cs q hq).lt x hy).2
        omega
    by_cases e1 : j = i <;> by_cases e2 : m = i
    · omega
    · rw [if_pos e1] at h1
      rw [if_neg e2] at h2
      exact (no m hm' e2 h1 h2).elim
    · rw [if_neg e1] at h1
      rw [if_pos e2] at h2
      exact (no j hj' e1 h2 h1).elim
    · rw [if_neg e1] at h1
      rw [if_neg e2] at h2
      exact h.cc j m x hj' hm' h1 h2
theorem ActAt.swapC {w1 : World} (h : ActAt w B b vS vC vK vF f D node) {g cap : Nat} (e : vC = .slice (some ⟨g, 0, none⟩) D.C.length cap) {i : Nat} (hi : i < D.C.length) {row : Option Nat} (hr : row = (f i).ownBlock) (hg : w.grownBy w1 row) {u : Value} {l : List Cel}
    (hu : w1.ownsRow B 59 2 u l.length (celV l)) (hub : u.ownBlock = (f i).ownBlock ∨ ∀ x, u.ownBlock = some x → w.heap.size ≤ x) :
    ActAt (w1.setCell ⟨g, i, none⟩ u) B b vS vC vK vF (fun j => if j = i then u else f j) { D with C := D.C.set i l } node := by
  have hne : b ≠ g := own_blk h.d.c h.a (by decide) (by rw [e]; rfl)
  have hb1 : Blk w1 b #[vS, vC, vK, .int .i64 D.n, vF, .int .i64 node] 73 := by
    refine (hg.block b h.a.lt ?_).trans h.a
    rw [hr]
    intro e
    exact own_blk (h.d.cs i hi) h.a (by decide) e.symm rfl
  exact ⟨h.d.swapC e hi hr hg hu hub, hb1.other hne _ _, h.hb⟩
end
theorem cacheOf_getElem {D : Dev} {i : Nat} (hi : i < D.C.length) : D.C.getD i [] = cacheOf D i := rfl

set_option maxRecDepth 100000 in
set_option maxHeartbeats 2000000 in
theorem forget_any (B b : Nat) (D : Dev) (i : Nat) (w : World) (h : ActorAt w B b D (i : Int)) (hi : i < D.C.length) :
    Calls Try.prog 62 #[.pointer (some ⟨b, 0, none⟩)] w fun e w' => e = .returned (.tuple #[]) ∧ ActorAt w' B b { D with C := D.C.set i [] } (i : Int) ∧ Below B w w' := by
  obtain ⟨vS, vC, vK, vF, f, h⟩ := h
  have hbx := h.box
  obtain ⟨gc, cap, a, c, rfl, hgl, hcc, hff, _, _, _, _⟩ := act_cache h hi
  have hB := h.d.c.lt gc rfl
  have HE : Hid (ActAt (w.setCell ⟨gc, i, none⟩ (.slice none 0 0)) B b vS (.slice (some ⟨gc, 0, none⟩) D.C.length cap) vK vF _ { D with C := D.C.set i [] } (i : Int)) := h.setC rfl hi (World.ownsRow_nil _ _ _ _) (by intro j x _ _ hx; simp [Value.ownBlock] at hx)
  have HB : Hid (Below B w (w.setCell ⟨gc, i, none⟩ (.slice none 0 0))) := (Below.refl B w).setCell hB.1 _
  have c1 := hbx.c1
  have c5 := hbx.c5
  have i0 : (0 : Int) ≤ (i : Int) := by omega
  have i1 : (i : Int) < (D.C.length : Int) := by omega
  have hne : b ≠ gc := own_blk h.d.c h.a (by decide) rfl
  have hne2 : gc ≠ b := fun e => hne e.symm
  generalize D.C.length = nC at *
  generalize (cacheOf D i).length = nl at *
  clear h hbx
  go_enter Try.func62, Try.ntmps62
  go_wp2_with fail
  go_region_held3 (fun w' => w'.cell? ⟨b, 1, none⟩ = some (.slice (some ⟨gc, 0, none⟩) nC cap) ∧ w'.cell? ⟨b, 5, none⟩ = some (.int .i64 (i : Int))) (go_keep) (fail)
  go_wp2_with fail
  go_end0
  exact ⟨rfl, ⟨_, _, _, _, _, HE.out.drew⟩, HB.out.drew⟩

theorem below_grown_by {B : Nat} {w w' : World} {row : Option Nat} (hg : w.grownBy w' row) (hB : B ≤ w.heap.size) (hr : ∀ k, row = some k → B ≤ k) : Below B w w' := (Below.refl B w).grown hg hB hr

set_option maxRecDepth 100000 in
set_option maxHeartbeats 8000000 in
theorem drop_any (B b : Nat) (D : Dev) (i k : Nat) (w : World) (h : ActorAt w B b D (i : Int)) (hi : i < D.C.length) (hk : k < (cacheOf D i).length) (hS : Small D 1099511627776) :
    Calls Try.prog 70 #[.pointer (some ⟨b, 0, none⟩), .int .i64 (k : Int)] w fun e w' => e = .returned (.tuple #[]) ∧ ActorAt w' B b { D with C := D.C.set i ((cacheOf D i).eraseIdx k) } (i : Int) ∧ Below B w w' := by
  obtain ⟨vS, vC, vK, vF, f, h⟩ := h
  have hbx := h.box
  obtain ⟨gc, cap, a, c, rfl, hgl, hcc, hff, hfi, _, _, _⟩ := act_cache h hi
  have hB := h.d.c.lt gc rfl
  have hown := h.d.cs i hi
  obtain ⟨gi, c', hfi2, hgB, hgl2⟩ := hown.form (by show 0 < (cacheOf D i).length; omega)
  rw [hfi2] at hown
  obtain ⟨rfl, rfl⟩ : a = some ⟨gi, 0, none⟩ ∧ c = c' := by
    rw [hfi] at hfi2
    injection hfi2 with e1 _ e2
    exact ⟨e1, e2⟩
  have hne : b ≠ gc := own_blk h.d.c h.a (by decide) rfl
  have hgib : b ≠ gi := own_blk hown h.a (by decide) rfl
  have hgig : gc ≠ gi := by
    rintro rfl
    rcases own_apart h.d.c hown (by decide) (g := gc) rfl with h1 | h1
    · cases h1
    · exact h1 rfl
  have hle : (cacheOf D i).length ≤ 1099511627776 := hS.cs _ (by unfold cacheOf; rw [List.getD, List.getElem?_eq_getElem hi]; exact List.getElem_mem hi)
  have hfb : (f i).ownBlock = some gi := by rw [hfi2]; rfl
  have hgf := h.d.c.frozenAt i
  have hc := (delete_any B gi (cacheOf D i).length c k (k + 1) (cacheOf D i) w.drew hown rfl rfl hk hle).mono (R' := fun e w' => e = .returned (.slice (some ⟨gi, 0, none⟩) ((cacheOf D i).length - 1) c) ∧ w'.cell? ⟨b, 1, none⟩ = some (.slice (some ⟨gc, 0, none⟩) D.C.length cap) ∧ w'.cell? ⟨b, 5, none⟩ = some (.int .i64 (i : Int)) ∧ w'.cell? ⟨gc, i, none⟩ = some (.slice (some ⟨gi, 0, none⟩) (cacheOf D i).length c) ∧ w'.frozen? ⟨gc, i, none⟩ = false ∧
      (w'.setCell ⟨gc, i, none⟩ (.slice (some ⟨gi, 0, none⟩) ((cacheOf D i).length - 1) c)).cell? ⟨b, 1, none⟩ = some (.slice (some ⟨gc, 0, none⟩) D.C.length cap) ∧ (w'.setCell ⟨gc, i, none⟩ (.slice (some ⟨gi, 0, none⟩) ((cacheOf D i).length - 1) c)).cell? ⟨b, 5, none⟩ = some (.int .i64 (i : Int)) ∧
      Hid (ActorAt (w'.setCell ⟨gc, i, none⟩ (.slice (some ⟨gi, 0, none⟩) ((cacheOf D i).length - 1) c)) B b { D with C := D.C.set i ((cacheOf D i).eraseIdx k) } (i : Int) ∧ Below B w (w'.setCell ⟨gc, i, none⟩ (.slice (some ⟨gi, 0, none⟩) ((cacheOf D i).length - 1) c)))) (by
    rintro e w' ⟨rfl, hu, hg⟩
    have hl : ((cacheOf D i).eraseIdx k).length = (cacheOf D i).length - 1 := by rw [List.length_eraseIdx, if_pos hk]
    have hg : w.grownBy w' (some gi) := ⟨hg.os, hg.tape, hg.output, hg.size, hg.block⟩
    have hA := h.swapC rfl hi hfb.symm hg (u := .slice (some ⟨gi, 0, none⟩) ((cacheOf D i).length - 1) c) (by rw [hl]; exact hu) (.inl hfb.symm)
    refine ⟨rfl, (hg.cell (a := ⟨b, 1, none⟩) hbx.c1 (by simpa using hgib)), (hg.cell (a := ⟨b, 5, none⟩) hbx.c5 (by simpa using hgib)), (hg.cell (a := ⟨gc, i, none⟩) hcc (by simpa using hgig)), (hg.frozen_far ⟨gc, i, none⟩ hgl (by simpa using hgig)).trans hgf, hA.box.c1, hA.box.c5, ⟨⟨_, _, _, _, _, hA⟩, ?_⟩⟩
    exact (below_grown_by hg (by omega) (by intro k hk; injection hk with hk; omega)).setCell hB.1 _)
  have c1 := hbx.c1
  have c5 := hbx.c5
  have i0 : (0 : Int) ≤ (i : Int) := by omega
  have i1 : (i : Int) < (D.C.length : Int) := by omega
  have hne2 : gc ≠ b := fun e => hne e.symm
  have e1 : (((k + 1 : Nat) : Int)) = (k : Int) + 1 := by omega
  rw [e1] at hc
  have hk1 : (k : Int) + 1 ≤ 1099511627776 := by omega
  have hk0 : (0 : Int) ≤ (k : Int) := by omega
  have hkw : IntKind.i64.wrap ((k : Int) + 1) = (k : Int) + 1 := IntWalk.i64_in _ (by omega)
  generalize D.C.length = nC at *
  generalize (cacheOf D i).length = nl at *
  clear h hbx hown hfi hfi2 hfb e1
  go_enter Try.func70, Try.ntmps70
  go_wp2_with fail
  refine wp_region_held_drew (S := (fun w' => w'.cell? ⟨b, 1, none⟩ = some (.slice (some ⟨gc, 0, none⟩) nC cap) ∧ w'.cell? ⟨b, 5, none⟩ = some (.int .i64 (i : Int)))) (by kernel_rfl) ?_ (fun hHeld => ?_)
  focus (exact ⟨c1, c5⟩)
  refine wpAnyH_take (i := 0) (oi := ⟨some 4, _, _, _, _, _⟩) (v := ?_) rfl (by kernel_rfl) (by kernel_rfl) (by kernel_rfl) (fun _ _ _ h => h) (Or.inl ⟨by rfl, ?_⟩) (by assumption) ?_
  rotate_left
  focus (intro wq hSq; (try dsimp only at hSq); go_simp; try with_reducible rfl)
  try simp only [Act.put, List.setIfInBounds_toArray, List.set_cons_zero, List.set_cons_succ]
  refine wpAnyH_take (i := 1) (oi := ⟨some 5, _, _, _, _, _⟩) (v := ?_) rfl (by kernel_rfl) (by kernel_rfl) (by kernel_rfl) (fun _ _ _ h => h) (Or.inl ⟨by rfl, ?_⟩) (by assumption) ?_
  rotate_left
  focus (intro wq hSq; (try dsimp only at hSq); go_simp; try with_reducible rfl)
  try simp only [Act.put, List.setIfInBounds_toArray, List.set_cons_zero, List.set_cons_succ]
  refine wpAnyH_take (i := 2) (oi := ⟨some 6, _, _, _, _, _⟩) (v := ?_) rfl (by kernel_rfl) (by kernel_rfl) (by kernel_rfl) (fun _ _ _ h => h) (Or.inl ⟨by rfl, ?_⟩) (by assumption) ?_
  rotate_left
  focus (intro wq hSq; (try dsimp only at hSq); go_simp; try with_reducible rfl)
  try simp only [Act.put, List.setIfInBounds_toArray, List.set_cons_zero, List.set_cons_succ]
  refine wpAnyH_take (i := 3) (oi := ⟨some 7, _, _, _, _, _⟩) (v := ?_) rfl (by kernel_rfl) (by kernel_rfl) (by kernel_rfl) (fun _ _ _ h => h) (Or.inl ⟨by rfl, ?_⟩) (by assumption) ?_
  rotate_left
  focus (intro wq hSq; (try dsimp only at hSq); go_simp; try with_reducible rfl)
  try simp only [Act.put, List.setIfInBounds_toArray, List.set_cons_zero, List.set_cons_succ]
  refine wpAnyH_take (i := 4) (oi := ⟨some 8, _, _, _, _, _⟩) (v := ?_) rfl (by kernel_rfl) (by kernel_rfl) (by kernel_rfl) (fun _ _ _ h => h) (Or.inl ⟨by rfl, ?_⟩) (by assumption) ?_
  rotate_left
  focus (intro wq hSq; (try dsimp only at hSq); go_simp; try with_reducible rfl)
  try simp only [Act.put, List.setIfInBounds_toArray, List.set_cons_zero, List.set_cons_succ]
  refine wpAnyH_take (i := 5) (oi := ⟨some 9, _, _, _, _, _⟩) (v := ?_) rfl (by kernel_rfl) (by kernel_rfl) (by kernel_rfl) (fun _ _ _ h => h) (Or.inl ⟨by rfl, ?_⟩) (by assumption) ?_
  rotate_left
  focus (intro wq hSq; (try dsimp only at hSq); go_simp; try with_reducible rfl)
  try simp only [Act.put, List.setIfInBounds_toArray, List.set_cons_zero, List.set_cons_succ]
  refine wpAnyH_take (i := 6) (oi := ⟨some 10, _, _, _, _, _⟩) (v := ?_) rfl (by kernel_rfl) (by kernel_rfl) (by kernel_rfl) (fun _ _ _ h => h) (Or.inl ⟨by rfl, ?_⟩) (by assumption) ?_
  rotate_left
  focus (intro wq hSq; (try dsimp only at hSq); go_simp; try with_reducible rfl)
  try simp only [Act.put, List.setIfInBounds_toArray, List.set_cons_zero, List.set_cons_succ]
  refine wpAnyH_take (i := 7) (oi := ⟨some 11, _, _, _, _, _⟩) (v := ?_) rfl (by kernel_rfl) (by kernel_rfl) (by kernel_rfl) (fun _ _ _ h => h) (Or.inl ⟨by rfl, ?_⟩) (by assumption) ?_
  rotate_left
  focus (intro wq hSq; (try dsimp only at hSq); go_simp; try with_reducible rfl)
  try simp only [Act.put, List.setIfInBounds_toArray, List.set_cons_zero, List.set_cons_succ]
  refine wpAnyH_take (i := 8) (oi := ⟨some 12, _, _, _, _, _⟩) (v := ?_) rfl (by kernel_rfl) (by kernel_rfl) (by kernel_rfl) (fun _ _ _ h => h) (Or.inl ⟨by rfl, ?_⟩) (by assumption) ?_
  rotate_left
  focus (intro wq hSq; (try dsimp only at hSq); go_simp; try with_reducible rfl)
  try simp only [Act.put, List.setIfInBounds_toArray, List.set_cons_zero, List.set_cons_succ]
  refine wpAnyH_take (i := 9) (oi := ⟨some 13, _, _, _, _, _⟩) (v := ?_) rfl (by kernel_rfl) (by kernel_rfl) (by kernel_rfl) (fun _ _ _ h => h) (Or.inl ⟨by rfl, ?_⟩) (by assumption) ?_
  rotate_left
  focus (intro wq hSq; (try dsimp only at hSq); go_simp; try with_reducible rfl)
  try simp only [Act.put, List.setIfInBounds_toArray, List.set_cons_zero, List.set_cons_succ]
  refine wpAnyH_take (i := 10) (oi := ⟨some 14, _, _, _, _, _⟩) (v := ?_) rfl (by kernel_rfl) (by kernel_rfl) (by kernel_rfl) (fun _ _ _ h => h) (Or.inl ⟨by rfl, ?_⟩) (by assumption) ?_
  rotate_left
  focus (intro wq hSq; (try dsimp only at hSq); go_simp; try with_reducible rfl)
  try simp only [Act.put, List.setIfInBounds_toArray, List.set_cons_zero, List.set_cons_succ]
  refine wpAnyH_take (i := 11) (oi := ⟨some 15, _, _, _, _, _⟩) (v := ?_) rfl (by kernel_rfl) (by kernel_rfl) (by kernel_rfl) (fun _ _ _ h => h) (Or.inl ⟨by rfl, ?_⟩) (by assumption) ?_
  rotate_left
  focus (intro wq hSq; (try dsimp only at hSq); go_simp; try with_reducible rfl)
  try simp only [Act.put, List.setIfInBounds_toArray, List.set_cons_zero, List.set_cons_succ]
  refine wpAnyH_take (i := 12) (oi := ⟨some 16, _, _, _, _, _⟩) (v := ?_) rfl (by kernel_rfl) (by kernel_rfl) (by kernel_rfl) (fun _ _ _ h => h) (Or.inl ⟨by rfl, ?_⟩) (by assumption) ?_
  rotate_left
  focus (intro wq hSq; (try dsimp only at hSq); go_simp; try with_reducible rfl)
  try simp only [Act.put, List.setIfInBounds_toArray, List.set_cons_zero, List.set_cons_succ]
  refine wpAnyH_take (i := 13) (oi := ⟨some 17, _, _, _, _, _⟩) (v := ?_) rfl (by kernel_rfl) (by kernel_rfl) (by kernel_rfl) (fun _ _ _ h => h) (Or.inl ⟨by rfl, ?_⟩) (by assumption) ?_
  rotate_left
  focus (intro wq hSq; (try dsimp only at hSq); go_simp; try with_reducible rfl)
  try simp only [Act.put, List.setIfInBounds_toArray, List.set_cons_zero, List.set_cons_succ]
  refine wpAnyH_take (i := 14) (oi := ⟨some 18, _, _, _, _, _⟩) (v := ?_) rfl (by kernel_rfl) (by kernel_rfl) (by kernel_rfl) (fun _ _ _ h => h) (Or.inl ⟨by rfl, ?_⟩) (by assumption) ?_
  rotate_left
  focus (intro wq hSq; (try dsimp only at hSq); go_simp; try with_reducible rfl)
  try simp only [Act.put, List.setIfInBounds_toArray, List.set_cons_zero, List.set_cons_succ]
  refine wpAnyH_take (i := 15) (oi := ⟨some 19, _, _, _, _, _⟩) (v := ?_) rfl (by kernel_rfl) (by kernel_rfl) (by kernel_rfl) (fun _ _ _ h => h) (Or.inl ⟨by rfl, ?_⟩) (by assumption) ?_
  rotate_left
  focus (intro wq hSq; (try dsimp only at hSq); go_simp; try with_reducible rfl)
  try simp only [Act.put, List.setIfInBounds_toArray, List.set_cons_zero, List.set_cons_succ]
  refine wpAnyH_take (i := 16) (oi := ⟨some 20, _, _, _, _, _⟩) (v := ?_) rfl (by kernel_rfl) (by kernel_rfl) (by kernel_rfl) (fun _ _ _ h => h) (Or.inl ⟨by rfl, ?_⟩) (by assumption) ?_
  rotate_left
  focus (intro wq hSq; (try dsimp only at hSq); go_simp; try with_reducible rfl)
  try simp only [Act.put, List.setIfInBounds_toArray, List.set_cons_zero, List.set_cons_succ]
  refine wpAnyH_take (i := 17) (oi := ⟨some 21, _, _, _, _, _⟩) (v := ?_) rfl (by kernel_rfl) (by kernel_rfl) (by kernel_rfl) (fun _ _ _ h => h) (Or.inl ⟨by rfl, ?_⟩) (by assumption) ?_
  rotate_left
  focus (intro wq hSq; (try dsimp only at hSq); go_simp; try with_reducible rfl)
  try simp only [Act.put, List.setIfInBounds_toArray, List.set_cons_zero, List.set_cons_succ]
  refine wpAnyH_take (i := 18) (oi := ⟨some 22, _, _, _, _, _⟩) (v := ?_) rfl (by kernel_rfl) (by kernel_rfl) (by kernel_rfl) (fun _ _ _ h => h) (Or.inl ⟨by rfl, ?_⟩) (by assumption) ?_
  rotate_left
  focus (intro wq hSq; (try dsimp only at hSq); go_simp; try with_reducible rfl)
  try simp only [Act.put, List.setIfInBounds_toArray, List.set_cons_zero, List.set_cons_succ]
  refine wpAnyH_take (i := 19) (oi := ⟨some 23, _, _, _, _, _⟩) (v := ?_) rfl (by kernel_rfl) (by kernel_rfl) (by kernel_rfl) (fun _ _ _ h => h) (Or.inl ⟨by rfl, ?_⟩) (by assumption) ?_
  rotate_left
  focus (intro wq hSq; (try dsimp only at hSq); go_simp; try with_reducible rfl)
  try simp only [Act.put, List.setIfInBounds_toArray, List.set_cons_zero, List.set_cons_succ]
  refine wpAnyH_take (i := 20) (oi := ⟨some 24, _, _, _, _, _⟩) (v := ?_) rfl (by kernel_rfl) (by kernel_rfl) (by kernel_rfl) (fun _ _ _ h => h) (Or.inl ⟨by rfl, ?_⟩) (by assumption) ?_
  rotate_left
  focus (intro wq hSq; (try dsimp only at hSq); go_simp; try with_reducible rfl)
  try simp only [Act.put, List.setIfInBounds_toArray, List.set_cons_zero, List.set_cons_succ]
  refine wpAnyH_take (i := 22) (oi := ⟨some 26, _, _, _, _, _⟩) (v := ?_) rfl (by kernel_rfl) (by kernel_rfl) (by kernel_rfl) (fun _ _ _ h => h) (Or.inl ⟨by rfl, ?_⟩) (by assumption) ?_
  rotate_left
  focus (intro wq hSq; (try dsimp only at hSq); go_simp; try with_reducible rfl)
  try simp only [Act.put, List.setIfInBounds_toArray, List.set_cons_zero, List.set_cons_succ]
  refine wpAnyH_take (i := 23) (oi := ⟨some 27, _, _, _, _, _⟩) (v := ?_) rfl (by kernel_rfl) (by kernel_rfl) (by kernel_rfl) (fun _ _ _ h => h) (Or.inl ⟨by rfl, ?_⟩) (by assumption) ?_
  rotate_left
  focus (intro wq hSq; (try dsimp only at hSq); go_simp; try with_reducible rfl)
  try simp only [Act.put, List.setIfInBounds_toArray, List.set_cons_zero, List.set_cons_succ]
  refine wpAnyH_take (i := 24) (oi := ⟨some 28, _, _, _, _, _⟩) (v := ?_) rfl (by kernel_rfl) (by kernel_rfl) (by kernel_rfl) (fun _ _ _ h => h) (Or.inl ⟨by rfl, ?_⟩) (by assumption) ?_
  rotate_left
  focus (intro wq hSq; (try dsimp only at hSq); go_simp; try with_reducible rfl)
  try simp only [Act.put, List.setIfInBounds_toArray, List.set_cons_zero, List.set_cons_succ]
  refine wpAnyH_ready (rs := [21]) (by kernel_rfl) (by simp) ?_
  refine AllReadyH.cons (o := ⟨some 25, _, _, _, _, _⟩) rfl (fun K hK => ?_) AllReadyH.nil
  go_simp
  refine hK.out _ _ ?_ (fun hHeld => ?_)
  focus (assumption)
  clear hK K
  try simp only [Act.put, List.setIfInBounds_toArray, List.set_cons_zero, List.set_cons_succ]
  refine wpAnyH_ready (rs := [25]) (by kernel_rfl) (by simp) ?_
  refine AllReadyH.cons (o := ⟨some 29, _, _, _, _, _⟩) rfl (fun K hK => ?_) AllReadyH.nil
  go_simp
  refine hc.mono ?_
  rintro e w1 ⟨rfl, k0, k1, k2, k3, k4, k5, HK⟩
  go_wp2_with fail
  refine hK.out _ _ ?_ (fun hHeld => ?_)
  focus (exact ⟨k0, k1⟩)
  clear hK K
  try simp only [Act.put, List.setIfInBounds_toArray, List.set_cons_zero, List.set_cons_succ]
  refine wpAnyH_take (i := 26) (oi := ⟨some 30, _, _, _, _, _⟩) (v := ?_) rfl (by kernel_rfl) (by kernel_rfl) (by kernel_rfl) (fun _ _ _ h => h) (Or.inl ⟨by rfl, ?_⟩) (by assumption) ?_
  rotate_left
  focus (intro wq hSq; (try dsimp only at hSq); go_simp; try with_reducible rfl)
  try simp only [Act.put, List.setIfInBounds_toArray, List.set_cons_zero, List.set_cons_succ]
  refine wpAnyH_ready (rs := [27]) (by kernel_rfl) (by simp) ?_
  refine AllReadyH.cons (o := ⟨none, _, _, _, _, _⟩) rfl (fun K hK => ?_) AllReadyH.nil
  go_simp
  refine hK.out _ _ ?_ (fun hHeld => ?_)
  focus (exact ⟨k4, k5⟩)
  clear hK K
  try simp only [Act.put, List.setIfInBounds_toArray, List.set_cons_zero, List.set_cons_succ]
  refine wpAnyH_done (by kernel_rfl) ?_ _
  go_wp2_with fail
  go_end0
  exact ⟨rfl, HK.out.1, HK.out.2⟩

end Go.Proofs.Yteighdlhonegpaa
