/- Joined: DevActE, DevActF, DevActG, DevActI, DevActL, DevActH, DevActJ. -/
import Derived.Test.YtleemgjbihdbgaaJoinDevActC
import Derived.Test.YtleemgjbihdbgaaDevDelete
import Derived.Deep.RegionHeld3
import Derived.Test.YtleemgjbihdbgaaJoinNumRefPut
import Derived.Test.YtleemgjbihdbgaaMem
/-
  The program's actor: what it reads; forgetting, dropping, forcing, flushing: by contract.
-/
namespace Go.Proofs.Ytleemgjbihdbgaa
open Go.RowKit
set_option linter.unusedVariables false
set_option linter.unusedSimpArgs false

section
variable {w w' : World} {B b : Nat} {vS vC vK vF : Value} {f : Nat → Value} {D : Dev} {node : Int}
theorem ActAt.drew (h : ActAt w B b vS vC vK vF f D node) : ActAt w.drew B b vS vC vK vF f D node := h.up ((Below.refl _ _).drew)
theorem ActAt.setS (h : ActAt w B b vS vC vK vF f D node) {g cap : Nat} (e : vS = .slice (some ⟨g, 0, none⟩) D.S.length cap) (i : Nat) (t : ByteArray) :
    ActAt (w.setCell ⟨g, i, none⟩ (.string t)) B b vS vC vK vF f { D with S := D.S.set i t } node :=
  ⟨h.d.setS e i t, h.a.other (own_blk h.d.s h.a (by decide) (by rw [e]; rfl)) _ _, h.hb⟩
theorem ActAt.setK (h : ActAt w B b vS vC vK vF f D node) {g cap : Nat} (e : vK = .slice (some ⟨g, 0, none⟩) D.K.length cap) (i : Nat) (x : Int) :
    ActAt (w.setCell ⟨g, i, none⟩ (.int .i64 x)) B b vS vC vK vF f { D with K := D.K.set i x } node :=
  ⟨h.d.setK e i x, h.a.other (own_blk h.d.k h.a (by decide) (by rw [e]; rfl)) _ _, h.hb⟩
theorem ActAt.setC (h : ActAt w B b vS vC vK vF f D node) {g cap : Nat} (e : vC = .slice (some ⟨g, 0, none⟩) D.C.length cap) {i : Nat} (hi : i < D.C.length) {u : Value} {l : List Cel}
    (hu : w.ownsRow B 59 2 u l.length (celV l)) (ha : ∀ j x, j < D.C.length → j ≠ i → u.ownBlock = some x → (f j).ownBlock ≠ some x) :
    ActAt (w.setCell ⟨g, i, none⟩ u) B b vS vC vK vF (fun j => if j = i then u else f j) { D with C := D.C.set i l } node :=
  ⟨h.d.setC e hi hu ha, h.a.other (own_blk h.d.c h.a (by decide) (by rw [e]; rfl)) _ _, h.hb⟩
theorem ActAt.turnC (h : ActAt w B b vS vC vK vF f D node) {i : Nat} (hi : i < D.C.length) {row : Option Nat} (hr : row = (f i).ownBlock) (hg : w.grownBy w' row) {l : List Cel} (hu : w'.ownsRow B 59 2 (f i) l.length (celV l)) :
    ActAt w' B b vS vC vK vF f { D with C := D.C.set i l } node := by
  refine ⟨h.d.turnC hi hr hg hu, ?_, h.hb⟩
  refine (hg.block b h.a.lt ?_).trans h.a
  rw [hr]
  intro e
  exact own_blk (h.d.cs i hi) h.a (by decide) e.symm rfl
/-- A cache is another, and is written in its place. -/
theorem OwnD.swapC {w1 : World} (h : OwnD w B vS vC vK vF f D) {g cap : Nat} (e : vC = .slice (some ⟨g, 0, none⟩) D.C.length cap) {i : Nat} (hi : i < D.C.length) {row : Option Nat} (hr : row = (f i).ownBlock) (hg : w.grownBy w1 row) {u : Value} {l : List Cel}
    (hu : w1.ownsRow B 59 2 u l.length (celV l)) (hub : u.ownBlock = (f i).ownBlock ∨ ∀ x, u.ownBlock = some x → w.heap.size ≤ x) :
    OwnD (w1.setCell ⟨g, i, none⟩ u) B vS vC vK vF (fun j => if j = i then u else f j) { D with C := D.C.set i l } := by
  subst hr
  have key : ∀ {e : TypeId} {v : Value} {n : Nat} {xs : List Value}, w.ownsRow B e 1 v n xs → e ≠ 59 → v.ownBlock = none ∨ v.ownBlock ≠ (f i).ownBlock := by
    intro e v n xs hv hne
    cases e1 : (f i).ownBlock with
    | none => cases e2 : v.ownBlock <;> simp
    | some g => exact own_apart hv (h.cs i hi) hne e1
  have s1 := h.s.kept hg (key h.s (by decide))
  have c1 := h.c.kept hg (key h.c (by decide))
  have k1 := h.k.kept hg (key h.k (by decide))
  have f1 := h.ff.kept hg (key h.ff (by decide))
  have cs1 : ∀ j, j < D.C.length → j ≠ i → w1.ownsRow B 59 2 (f j) (D.C.getD j []).length (celV (D.C.getD j [])) := fun j hj hji => by
    refine (h.cs j hj).kept hg ?_
    cases e1 : (f j).ownBlock with
    | none => exact .inl rfl
    | some x =>
      right
      intro e2
      exact hji (h.cc j i x hj hi e1 e2.symm)
  have hgb : vC.ownBlock = some g := by rw [e]; rfl
  have hst := (e ▸ c1).stored i u
  refine ⟨s1.kept hst.2 (own_apart s1 c1 (by decide) hgb), ?_, k1.kept hst.2 (own_apart k1 c1 (by decide) hgb), f1.kept hst.2 (own_apart f1 c1 (by decide) hgb), fun j hj => ?_, h.kf, fun j m x hj hm h1 h2 => ?_⟩
  · show World.ownsRow _ B _ 1 vC (D.C.set i l).length ((List.range (D.C.set i l).length).map fun j => if j = i then u else f j)
    rw [List.length_set]
    have e2 : ((List.range D.C.length).map fun j => if j = i then u else f j) = ((List.range D.C.length).map f).set i u := by
      apply List.ext_getElem
      · simp
      · intro j h1 h2
        simp only [List.getElem_map, List.getElem_range, List.getElem_set]
        by_cases e : j = i
        · rw [if_pos e, if_pos e.symm]
        · rw [if_neg e, if_neg (fun h => e h.symm)]
    rw [e2, e]
    exact hst.1
  · have hj' : j < D.C.length := by have : j < (D.C.set i l).length := hj; rwa [List.length_set] at this
    show World.ownsRow _ B _ 2 (if j = i then u else f j) ((D.C.set i l).getD j []).length (celV ((D.C.set i l).getD j []))
    rw [getD_set_c l hi]
    by_cases e : j = i
    · rw [if_pos e, if_pos e.symm]
      exact hu.kept hst.2 (own_apart hu c1 (by decide) hgb)
    · rw [if_neg e, if_neg (fun h => e h.symm)]
      exact (cs1 j hj' e).kept hst.2 (own_apart (cs1 j hj' e) c1 (by decide) hgb)
  · have hj' : j < D.C.length := by have : j < (D.C.set i l).length := hj; rwa [List.length_set] at this
    have hm' : m < D.C.length := by have : m < (D.C.set i l).length := hm; rwa [List.length_set] at this
    have no : ∀ q, q < D.C.length → q ≠ i → u.ownBlock = some x → (f q).ownBlock = some x → False := by
      intro q hq hqi hx hy
      rcases hub with h3 | h3
      · exact hqi (h.cc q i x hq hi hy (h3.symm.trans hx))
      · have a1 := h3 x hx
        have a2 := ((h.cs q hq).lt x hy).2
        omega
    by_cases e1 : j = i <;> by_cases e2 : m = i
    · omega
    · rw [if_pos e1] at h1
      rw [if_neg e2] at h2
      exact (no m hm' e2 h1 h2).elim
    · rw [if_neg e1] at h1
      rw [if_pos e2] at h2
      exact (no j hj' e1 h2 h1).elim
    · rw [if_neg e1] at h1
      rw [if_neg e2] at h2
      exact h.cc j m x hj' hm' h1 h2
theorem ActAt.swapC {w1 : World} (h : ActAt w B b vS vC vK vF f D node) {g cap : Nat} (e : vC = .slice (some ⟨g, 0, none⟩) D.C.length cap) {i : Nat} (hi : i < D.C.length) {row : Option Nat} (hr : row = (f i).ownBlock) (hg : w.grownBy w1 row) {u : Value} {l : List Cel}
    (hu : w1.ownsRow B 59 2 u l.length (celV l)) (hub : u.ownBlock = (f i).ownBlock ∨ ∀ x, u.ownBlock = some x → w.heap.size ≤ x) :
    ActAt (w1.setCell ⟨g, i, none⟩ u) B b vS vC vK vF (fun j => if j = i then u else f j) { D with C := D.C.set i l } node := by
  have hne : b ≠ g := own_blk h.d.c h.a (by decide) (by rw [e]; rfl)
  have hb1 : Blk w1 b #[vS, vC, vK, .int .i64 D.n, vF, .int .i64 node] 73 := by
    refine (hg.block b h.a.lt ?_).trans h.a
    rw [hr]
    intro e
    exact own_blk (h.d.cs i hi) h.a (by decide) e.symm rfl
  exact ⟨h.d.swapC e hi hr hg hu hub, hb1.other hne _ _, h.hb⟩
end
theorem cacheOf_getElem {D : Dev} {i : Nat} (hi : i < D.C.length) : D.C.getD i [] = cacheOf D i := rfl

set_option maxRecDepth 100000 in
set_option maxHeartbeats 2000000 in
theorem forget_any (B b : Nat) (D : Dev) (i : Nat) (w : World) (h : ActorAt w B b D (i : Int)) (hi : i < D.C.length) :
    Calls Try.prog 62 #[.pointer (some ⟨b, 0, none⟩)] w fun e w' => e = .returned (.tuple #[]) ∧ ActorAt w' B b { D with C := D.C.set i [] } (i : Int) ∧ Below B w w' := by
  obtain ⟨vS, vC, vK, vF, f, h⟩ := h
  have hbx := h.box
  obtain ⟨gc, cap, a, c, rfl, hgl, hcc, hff, _, _, _, _⟩ := act_cache h hi
  have hB := h.d.c.lt gc rfl
  have HE : Hid (ActAt (w.setCell ⟨gc, i, none⟩ (.slice none 0 0)) B b vS (.slice (some ⟨gc, 0, none⟩) D.C.length cap) vK vF _ { D with C := D.C.set i [] } (i : Int)) := h.setC rfl hi (World.ownsRow_nil _ _ _ _) (by intro j x _ _ hx; simp [Value.ownBlock] at hx)
  have HB : Hid (Below B w (w.setCell ⟨gc, i, none⟩ (.slice none 0 0))) := (Below.refl B w).setCell hB.1 _
  have c1 := hbx.c1
  have c5 := hbx.c5
  have i0 : (0 : Int) ≤ (i : Int) := by omega
  have i1 : (i : Int) < (D.C.length : Int) := by omega
  have hne : b ≠ gc := own_blk h.d.c h.a (by decide) rfl
  have hne2 : gc ≠ b := fun e => hne e.symm
  generalize D.C.length = nC at *
  generalize (cacheOf D i).length = nl at *
  clear h hbx
  go_enter Try.func62, Try.ntmps62
  go_wp2_with fail
  go_region_held3 (fun w' => w'.cell? ⟨b, 1, none⟩ = some (.slice (some ⟨gc, 0, none⟩) nC cap) ∧ w'.cell? ⟨b, 5, none⟩ = some (.int .i64 (i : Int))) (go_keep) (fail)
  go_wp2_with fail
  go_end0
  exact ⟨rfl, ⟨_, _, _, _, _, HE.out.drew⟩, HB.out.drew⟩

theorem below_grown_by {B : Nat} {w w' : World} {row : Option Nat} (hg : w.grownBy w' row) (hB : B ≤ w.heap.size) (hr : ∀ k, row = some k → B ≤ k) : Below B w w' := (Below.refl B w).grown hg hB hr

set_option maxRecDepth 100000 in
set_option maxHeartbeats 8000000 in
theorem drop_any (B b : Nat) (D : Dev) (i k : Nat) (w : World) (h : ActorAt w B b D (i : Int)) (hi : i < D.C.length) (hk : k < (cacheOf D i).length) (hS : Small D 1099511627776) :
    Calls Try.prog 70 #[.pointer (some ⟨b, 0, none⟩), .int .i64 (k : Int)] w fun e w' => e = .returned (.tuple #[]) ∧ ActorAt w' B b { D with C := D.C.set i ((cacheOf D i).eraseIdx k) } (i : Int) ∧ Below B w w' := by
  obtain ⟨vS, vC, vK, vF, f, h⟩ := h
  have hbx := h.box
  obtain ⟨gc, cap, a, c, rfl, hgl, hcc, hff, hfi, _, _, _⟩ := act_cache h hi
  have hB := h.d.c.lt gc rfl
  have hown := h.d.cs i hi
  obtain ⟨gi, c', hfi2, hgB, hgl2⟩ := hown.form (by show 0 < (cacheOf D i).length; omega)
  rw [hfi2] at hown
  obtain ⟨rfl, rfl⟩ : a = some ⟨gi, 0, none⟩ ∧ c = c' := by
    rw [hfi] at hfi2
    injection hfi2 with e1 _ e2
    exact ⟨e1, e2⟩
  have hne : b ≠ gc := own_blk h.d.c h.a (by decide) rfl
  have hgib : b ≠ gi := own_blk hown h.a (by decide) rfl
  have hgig : gc ≠ gi := by
    rintro rfl
    rcases own_apart h.d.c hown (by decide) (g := gc) rfl with h1 | h1
    · cases h1
    · exact h1 rfl
  have hle : (cacheOf D i).length ≤ 1099511627776 := hS.cs _ (by unfold cacheOf; rw [List.getD, List.getElem?_eq_getElem hi]; exact List.getElem_mem hi)
  have hfb : (f i).ownBlock = some gi := by rw [hfi2]; rfl
  have hgf := h.d.c.frozenAt i
  have hc := (delete_any B gi (cacheOf D i).length c k (k + 1) (cacheOf D i) w.drew hown rfl rfl hk hle).mono (R' := fun e w' => e = .returned (.slice (some ⟨gi, 0, none⟩) ((cacheOf D i).length - 1) c) ∧ w'.cell? ⟨b, 1, none⟩ = some (.slice (some ⟨gc, 0, none⟩) D.C.length cap) ∧ w'.cell? ⟨b, 5, none⟩ = some (.int .i64 (i : Int)) ∧ w'.cell? ⟨gc, i, none⟩ = some (.slice (some ⟨gi, 0, none⟩) (cacheOf D i).length c) ∧ w'.frozen? ⟨gc, i, none⟩ = false ∧
      (w'.setCell ⟨gc, i, none⟩ (.slice (some ⟨gi, 0, none⟩) ((cacheOf D i).length - 1) c)).cell? ⟨b, 1, none⟩ = some (.slice (some ⟨gc, 0, none⟩) D.C.length cap) ∧ (w'.setCell ⟨gc, i, none⟩ (.slice (some ⟨gi, 0, none⟩) ((cacheOf D i).length - 1) c)).cell? ⟨b, 5, none⟩ = some (.int .i64 (i : Int)) ∧
      Hid (ActorAt (w'.setCell ⟨gc, i, none⟩ (.slice (some ⟨gi, 0, none⟩) ((cacheOf D i).length - 1) c)) B b { D with C := D.C.set i ((cacheOf D i).eraseIdx k) } (i : Int) ∧ Below B w (w'.setCell ⟨gc, i, none⟩ (.slice (some ⟨gi, 0, none⟩) ((cacheOf D i).length - 1) c)))) (by
    rintro e w' ⟨rfl, hu, hg⟩
    have hl : ((cacheOf D i).eraseIdx k).length = (cacheOf D i).length - 1 := by rw [List.length_eraseIdx, if_pos hk]
    have hg : w.grownBy w' (some gi) := ⟨hg.os, hg.tape, hg.output, hg.size, hg.block⟩
    have hA := h.swapC rfl hi hfb.symm hg (u := .slice (some ⟨gi, 0, none⟩) ((cacheOf D i).length - 1) c) (by rw [hl]; exact hu) (.inl hfb.symm)
    refine ⟨rfl, (hg.cell (a := ⟨b, 1, none⟩) hbx.c1 (by simpa using hgib)), (hg.cell (a := ⟨b, 5, none⟩) hbx.c5 (by simpa using hgib)), (hg.cell (a := ⟨gc, i, none⟩) hcc (by simpa using hgig)), (hg.frozen_far ⟨gc, i, none⟩ hgl (by simpa using hgig)).trans hgf, hA.box.c1, hA.box.c5, ⟨⟨_, _, _, _, _, hA⟩, ?_⟩⟩
    exact (below_grown_by hg (by omega) (by intro k hk; injection hk with hk; omega)).setCell hB.1 _)
  have c1 := hbx.c1
  have c5 := hbx.c5
  have i0 : (0 : Int) ≤ (i : Int) := by omega
  have i1 : (i : Int) < (D.C.length : Int) := by omega
  have hne2 : gc ≠ b := fun e => hne e.symm
  have e1 : (((k + 1 : Nat) : Int)) = (k : Int) + 1 := by omega
  rw [e1] at hc
  have hk1 : (k : Int) + 1 ≤ 1099511627776 := by omega
  have hk0 : (0 : Int) ≤ (k : Int) := by omega
  have hkw : IntKind.i64.wrap ((k : Int) + 1) = (k : Int) + 1 := IntWalk.i64_in _ (by omega)
  generalize D.C.length = nC at *
  generalize (cacheOf D i).length = nl at *
  clear h hbx hown hfi hfi2 hfb e1
  go_enter Try.func70, Try.ntmps70
  go_wp2_with fail
  refine wp_region_held_drew (S := (fun w' => w'.cell? ⟨b, 1, none⟩ = some (.slice (some ⟨gc, 0, none⟩) nC cap) ∧ w'.cell? ⟨b, 5, none⟩ = some (.int .i64 (i : Int)))) (by kernel_rfl) ?_ (fun hHeld => ?_)
  focus (exact ⟨c1, c5⟩)
  refine wpAnyH_take (i := 0) (oi := ⟨some 4, _, _, _, _, _⟩) (v := ?_) rfl (by kernel_rfl) (by kernel_rfl) (by kernel_rfl) (fun _ _ _ h => h) (Or.inl ⟨by rfl, ?_⟩) (by assumption) ?_
  rotate_left
  focus (intro wq hSq; (try dsimp only at hSq); go_simp; try with_reducible rfl)
  try simp only [Act.put, List.setIfInBounds_toArray, List.set_cons_zero, List.set_cons_succ]
  refine wpAnyH_take (i := 1) (oi := ⟨some 5, _, _, _, _, _⟩) (v := ?_) rfl (by kernel_rfl) (by kernel_rfl) (by kernel_rfl) (fun _ _ _ h => h) (Or.inl ⟨by rfl, ?_⟩) (by assumption) ?_
  rotate_left
  focus (intro wq hSq; (try dsimp only at hSq); go_simp; try with_reducible rfl)
  try simp only [Act.put, List.setIfInBounds_toArray, List.set_cons_zero, List.set_cons_succ]
  refine wpAnyH_take (i := 2) (oi := ⟨some 6, _, _, _, _, _⟩) (v := ?_) rfl (by kernel_rfl) (by kernel_rfl) (by kernel_rfl) (fun _ _ _ h => h) (Or.inl ⟨by rfl, ?_⟩) (by assumption) ?_
  rotate_left
  focus (intro wq hSq; (try dsimp only at hSq); go_simp; try with_reducible rfl)
  try simp only [Act.put, List.setIfInBounds_toArray, List.set_cons_zero, List.set_cons_succ]
  refine wpAnyH_take (i := 3) (oi := ⟨some 7, _, _, _, _, _⟩) (v := ?_) rfl (by kernel_rfl) (by kernel_rfl) (by kernel_rfl) (fun _ _ _ h => h) (Or.inl ⟨by rfl, ?_⟩) (by assumption) ?_
  rotate_left
  focus (intro wq hSq; (try dsimp only at hSq); go_simp; try with_reducible rfl)
  try simp only [Act.put, List.setIfInBounds_toArray, List.set_cons_zero, List.set_cons_succ]
  refine wpAnyH_take (i := 4) (oi := ⟨some 8, _, _, _, _, _⟩) (v := ?_) rfl (by kernel_rfl) (by kernel_rfl) (by kernel_rfl) (fun _ _ _ h => h) (Or.inl ⟨by rfl, ?_⟩) (by assumption) ?_
  rotate_left
  focus (intro wq hSq; (try dsimp only at hSq); go_simp; try with_reducible rfl)
  try simp only [Act.put, List.setIfInBounds_toArray, List.set_cons_zero, List.set_cons_succ]
  refine wpAnyH_take (i := 5) (oi := ⟨some 9, _, _, _, _, _⟩) (v := ?_) rfl (by kernel_rfl) (by kernel_rfl) (by kernel_rfl) (fun _ _ _ h => h) (Or.inl ⟨by rfl, ?_⟩) (by assumption) ?_
  rotate_left
  focus (intro wq hSq; (try dsimp only at hSq); go_simp; try with_reducible rfl)
  try simp only [Act.put, List.setIfInBounds_toArray, List.set_cons_zero, List.set_cons_succ]
  refine wpAnyH_take (i := 6) (oi := ⟨some 10, _, _, _, _, _⟩) (v := ?_) rfl (by kernel_rfl) (by kernel_rfl) (by kernel_rfl) (fun _ _ _ h => h) (Or.inl ⟨by rfl, ?_⟩) (by assumption) ?_
  rotate_left
  focus (intro wq hSq; (try dsimp only at hSq); go_simp; try with_reducible rfl)
  try simp only [Act.put, List.setIfInBounds_toArray, List.set_cons_zero, List.set_cons_succ]
  refine wpAnyH_take (i := 7) (oi := ⟨some 11, _, _, _, _, _⟩) (v := ?_) rfl (by kernel_rfl) (by kernel_rfl) (by kernel_rfl) (fun _ _ _ h => h) (Or.inl ⟨by rfl, ?_⟩) (by assumption) ?_
  rotate_left
  focus (intro wq hSq; (try dsimp only at hSq); go_simp; try with_reducible rfl)
  try simp only [Act.put, List.setIfInBounds_toArray, List.set_cons_zero, List.set_cons_succ]
  refine wpAnyH_take (i := 8) (oi := ⟨some 12, _, _, _, _, _⟩) (v := ?_) rfl (by kernel_rfl) (by kernel_rfl) (by kernel_rfl) (fun _ _ _ h => h) (Or.inl ⟨by rfl, ?_⟩) (by assumption) ?_
  rotate_left
  focus (intro wq hSq; (try dsimp only at hSq); go_simp; try with_reducible rfl)
  try simp only [Act.put, List.setIfInBounds_toArray, List.set_cons_zero, List.set_cons_succ]
  refine wpAnyH_take (i := 9) (oi := ⟨some 13, _, _, _, _, _⟩) (v := ?_) rfl (by kernel_rfl) (by kernel_rfl) (by kernel_rfl) (fun _ _ _ h => h) (Or.inl ⟨by rfl, ?_⟩) (by assumption) ?_
  rotate_left
  focus (intro wq hSq; (try dsimp only at hSq); go_simp; try with_reducible rfl)
  try simp only [Act.put, List.setIfInBounds_toArray, List.set_cons_zero, List.set_cons_succ]
  refine wpAnyH_take (i := 10) (oi := ⟨some 14, _, _, _, _, _⟩) (v := ?_) rfl (by kernel_rfl) (by kernel_rfl) (by kernel_rfl) (fun _ _ _ h => h) (Or.inl ⟨by rfl, ?_⟩) (by assumption) ?_
  rotate_left
  focus (intro wq hSq; (try dsimp only at hSq); go_simp; try with_reducible rfl)
  try simp only [Act.put, List.setIfInBounds_toArray, List.set_cons_zero, List.set_cons_succ]
  refine wpAnyH_take (i := 11) (oi := ⟨some 15, _, _, _, _, _⟩) (v := ?_) rfl (by kernel_rfl) (by kernel_rfl) (by kernel_rfl) (fun _ _ _ h => h) (Or.inl ⟨by rfl, ?_⟩) (by assumption) ?_
  rotate_left
  focus (intro wq hSq; (try dsimp only at hSq); go_simp; try with_reducible rfl)
  try simp only [Act.put, List.setIfInBounds_toArray, List.set_cons_zero, List.set_cons_succ]
  refine wpAnyH_take (i := 12) (oi := ⟨some 16, _, _, _, _, _⟩) (v := ?_) rfl (by kernel_rfl) (by kernel_rfl) (by kernel_rfl) (fun _ _ _ h => h) (Or.inl ⟨by rfl, ?_⟩) (by assumption) ?_
  rotate_left
  focus (intro wq hSq; (try dsimp only at hSq); go_simp; try with_reducible rfl)
  try simp only [Act.put, List.setIfInBounds_toArray, List.set_cons_zero, List.set_cons_succ]
  refine wpAnyH_take (i := 13) (oi := ⟨some 17, _, _, _, _, _⟩) (v := ?_) rfl (by kernel_rfl) (by kernel_rfl) (by kernel_rfl) (fun _ _ _ h => h) (Or.inl ⟨by rfl, ?_⟩) (by assumption) ?_
  rotate_left
  focus (intro wq hSq; (try dsimp only at hSq); go_simp; try with_reducible rfl)
  try simp only [Act.put, List.setIfInBounds_toArray, List.set_cons_zero, List.set_cons_succ]
  refine wpAnyH_take (i := 14) (oi := ⟨some 18, _, _, _, _, _⟩) (v := ?_) rfl (by kernel_rfl) (by kernel_rfl) (by kernel_rfl) (fun _ _ _ h => h) (Or.inl ⟨by rfl, ?_⟩) (by assumption) ?_
  rotate_left
  focus (intro wq hSq; (try dsimp only at hSq); go_simp; try with_reducible rfl)
  try simp only [Act.put, List.setIfInBounds_toArray, List.set_cons_zero, List.set_cons_succ]
  refine wpAnyH_take (i := 15) (oi := ⟨some 19, _, _, _, _, _⟩) (v := ?_) rfl (by kernel_rfl) (by kernel_rfl) (by kernel_rfl) (fun _ _ _ h => h) (Or.inl ⟨by rfl, ?_⟩) (by assumption) ?_
  rotate_left
  focus (intro wq hSq; (try dsimp only at hSq); go_simp; try with_reducible rfl)
  try simp only [Act.put, List.setIfInBounds_toArray, List.set_cons_zero, List.set_cons_succ]
  refine wpAnyH_take (i := 16) (oi := ⟨some 20, _, _, _, _, _⟩) (v := ?_) rfl (by kernel_rfl) (by kernel_rfl) (by kernel_rfl) (fun _ _ _ h => h) (Or.inl ⟨by rfl, ?_⟩) (by assumption) ?_
  rotate_left
  focus (intro wq hSq; (try dsimp only at hSq); go_simp; try with_reducible rfl)
  try simp only [Act.put, List.setIfInBounds_toArray, List.set_cons_zero, List.set_cons_succ]
  refine wpAnyH_take (i := 17) (oi := ⟨some 21, _, _, _, _, _⟩) (v := ?_) rfl (by kernel_rfl) (by kernel_rfl) (by kernel_rfl) (fun _ _ _ h => h) (Or.inl ⟨by rfl, ?_⟩) (by assumption) ?_
  rotate_left
  focus (intro wq hSq; (try dsimp only at hSq); go_simp; try with_reducible rfl)
  try simp only [Act.put, List.setIfInBounds_toArray, List.set_cons_zero, List.set_cons_succ]
  refine wpAnyH_take (i := 18) (oi := ⟨some 22, _, _, _, _, _⟩) (v := ?_) rfl (by kernel_rfl) (by kernel_rfl) (by kernel_rfl) (fun _ _ _ h => h) (Or.inl ⟨by rfl, ?_⟩) (by assumption) ?_
  rotate_left
  focus (intro wq hSq; (try dsimp only at hSq); go_simp; try with_reducible rfl)
  try simp only [Act.put, List.setIfInBounds_toArray, List.set_cons_zero, List.set_cons_succ]
  refine wpAnyH_take (i := 19) (oi := ⟨some 23, _, _, _, _, _⟩) (v := ?_) rfl (by kernel_rfl) (by kernel_rfl) (by kernel_rfl) (fun _ _ _ h => h) (Or.inl ⟨by rfl, ?_⟩) (by assumption) ?_
  rotate_left
  focus (intro wq hSq; (try dsimp only at hSq); go_simp; try with_reducible rfl)
  try simp only [Act.put, List.setIfInBounds_toArray, List.set_cons_zero, List.set_cons_succ]
  refine wpAnyH_take (i := 20) (oi := ⟨some 24, _, _, _, _, _⟩) (v := ?_) rfl (by kernel_rfl) (by kernel_rfl) (by kernel_rfl) (fun _ _ _ h => h) (Or.inl ⟨by rfl, ?_⟩) (by assumption) ?_
  rotate_left
  focus (intro wq hSq; (try dsimp only at hSq); go_simp; try with_reducible rfl)
  try simp only [Act.put, List.setIfInBounds_toArray, List.set_cons_zero, List.set_cons_succ]
  refine wpAnyH_take (i := 22) (oi := ⟨some 26, _, _, _, _, _⟩) (v := ?_) rfl (by kernel_rfl) (by kernel_rfl) (by kernel_rfl) (fun _ _ _ h => h) (Or.inl ⟨by rfl, ?_⟩) (by assumption) ?_
  rotate_left
  focus (intro wq hSq; (try dsimp only at hSq); go_simp; try with_reducible rfl)
  try simp only [Act.put, List.setIfInBounds_toArray, List.set_cons_zero, List.set_cons_succ]
  refine wpAnyH_take (i := 23) (oi := ⟨some 27, _, _, _, _, _⟩) (v := ?_) rfl (by kernel_rfl) (by kernel_rfl) (by kernel_rfl) (fun _ _ _ h => h) (Or.inl ⟨by rfl, ?_⟩) (by assumption) ?_
  rotate_left
  focus (intro wq hSq; (try dsimp only at hSq); go_simp; try with_reducible rfl)
  try simp only [Act.put, List.setIfInBounds_toArray, List.set_cons_zero, List.set_cons_succ]
  refine wpAnyH_take (i := 24) (oi := ⟨some 28, _, _, _, _, _⟩) (v := ?_) rfl (by kernel_rfl) (by kernel_rfl) (by kernel_rfl) (fun _ _ _ h => h) (Or.inl ⟨by rfl, ?_⟩) (by assumption) ?_
  rotate_left
  focus (intro wq hSq; (try dsimp only at hSq); go_simp; try with_reducible rfl)
  try simp only [Act.put, List.setIfInBounds_toArray, List.set_cons_zero, List.set_cons_succ]
  refine wpAnyH_ready (rs := [21]) (by kernel_rfl) (by simp) ?_
  refine AllReadyH.cons (o := ⟨some 25, _, _, _, _, _⟩) rfl (fun K hK => ?_) AllReadyH.nil
  go_simp
  refine hK.out _ _ ?_ (fun hHeld => ?_)
  focus (assumption)
  clear hK K
  try simp only [Act.put, List.setIfInBounds_toArray, List.set_cons_zero, List.set_cons_succ]
  refine wpAnyH_ready (rs := [25]) (by kernel_rfl) (by simp) ?_
  refine AllReadyH.cons (o := ⟨some 29, _, _, _, _, _⟩) rfl (fun K hK => ?_) AllReadyH.nil
  go_simp
  refine hc.mono ?_
  rintro e w1 ⟨rfl, k0, k1, k2, k3, k4, k5, HK⟩
  go_wp2_with fail
  refine hK.out _ _ ?_ (fun hHeld => ?_)
  focus (exact ⟨k0, k1⟩)
  clear hK K
  try simp only [Act.put, List.setIfInBounds_toArray, List.set_cons_zero, List.set_cons_succ]
  refine wpAnyH_take (i := 26) (oi := ⟨some 30, _, _, _, _, _⟩) (v := ?_) rfl (by kernel_rfl) (by kernel_rfl) (by kernel_rfl) (fun _ _ _ h => h) (Or.inl ⟨by rfl, ?_⟩) (by assumption) ?_
  rotate_left
  focus (intro wq hSq; (try dsimp only at hSq); go_simp; try with_reducible rfl)
  try simp only [Act.put, List.setIfInBounds_toArray, List.set_cons_zero, List.set_cons_succ]
  refine wpAnyH_ready (rs := [27]) (by kernel_rfl) (by simp) ?_
  refine AllReadyH.cons (o := ⟨none, _, _, _, _, _⟩) rfl (fun K hK => ?_) AllReadyH.nil
  go_simp
  refine hK.out _ _ ?_ (fun hHeld => ?_)
  focus (exact ⟨k4, k5⟩)
  clear hK K
  try simp only [Act.put, List.setIfInBounds_toArray, List.set_cons_zero, List.set_cons_succ]
  refine wpAnyH_done (by kernel_rfl) ?_ _
  go_wp2_with fail
  go_end0
  exact ⟨rfl, HK.out.1, HK.out.2⟩

end Go.Proofs.Ytleemgjbihdbgaa

/-
  The program's actor: what it reads, forces: by contract.
-/
namespace Go.Proofs.Ytleemgjbihdbgaa
open Go.RowKit
set_option linter.unusedVariables false
set_option linter.unusedSimpArgs false

section
variable {w : World} {B b : Nat} {vS vC vK vF : Value} {f : Nat → Value} {D : Dev} {node : Int}
theorem act_sector (h : ActAt w B b vS vC vK vF f D node) {s : Nat} (hs : s < D.S.length) :
    ∃ gs cap, vS = .slice (some ⟨gs, 0, none⟩) D.S.length cap ∧ B ≤ gs ∧ gs < w.heap.size ∧ b ≠ gs ∧ w.cell? ⟨gs, s, none⟩ = some (.string (D.S[s])) ∧ w.frozen? ⟨gs, s, none⟩ = false := by
  obtain ⟨gs, cap, e, h1, h2⟩ := h.d.s.form (by omega)
  have ho := h.d.s
  have hne : b ≠ gs := own_blk ho h.a (by decide) (by rw [e]; rfl)
  rw [e] at ho
  refine ⟨gs, cap, e, h1, h2, hne, ?_, ho.frozenAt s⟩
  rw [ho.cellAt s (by omega)]
  simp [strV, hs]
theorem act_cell (h : ActAt w B b vS vC vK vF f D node) {i : Nat} (hi : i < D.C.length) {k : Nat} (hk : k < (cacheOf D i).length) :
    ∃ ga c, f i = .slice (some ⟨ga, 0, none⟩) (cacheOf D i).length c ∧ B ≤ ga ∧ ga < w.heap.size ∧ b ≠ ga ∧ (∀ gc, vC.ownBlock = some gc → gc ≠ ga) ∧ (∀ gs, vS.ownBlock = some gs → gs ≠ ga) ∧
      w.cell? ⟨ga, k * 2, none⟩ = some (.int .i64 ((cacheOf D i)[k]).1) ∧ w.cell? ⟨ga, k * 2 + 1, none⟩ = some (.string ((cacheOf D i)[k]).2) ∧ w.frozen? ⟨ga, k * 2, none⟩ = false ∧ w.frozen? ⟨ga, k * 2 + 1, none⟩ = false := by
  have ho := h.d.cs i hi
  obtain ⟨ga, c, e, h1, h2⟩ := ho.form (by show 0 < (cacheOf D i).length; omega)
  have hb : (f i).ownBlock = some ga := by rw [e]; rfl
  have hne : b ≠ ga := own_blk ho h.a (by decide) hb
  have hx := celV_at (cacheOf D i) hk
  have ho2 := ho
  rw [e] at ho2
  refine ⟨ga, c, e, h1, h2, hne, fun gc hgc e2 => ?_, fun gs hgs e2 => ?_, ?_, ?_, ho2.frozenAt _, ho2.frozenAt _⟩
  · subst e2
    rcases own_apart h.d.c ho (by decide) hb with h3 | h3
    · rw [hgc] at h3; cases h3
    · exact h3 hgc
  · subst e2
    rcases own_apart h.d.s ho (by decide) hb with h3 | h3
    · rw [hgs] at h3; cases h3
    · exact h3 hgs
  · rw [ho2.cellAt _ (by show k * 2 < (cacheOf D i).length * 2; omega)]
    exact hx.1
  · rw [ho2.cellAt _ (by show k * 2 + 1 < (cacheOf D i).length * 2; omega)]
    exact hx.2
end
theorem placeI_some {l : List Cel} {s : Int} {k : Nat} (h : placeO l s = some k) : placeI l s = (k : Int) := by unfold placeI; rw [h]
theorem placeI_none {l : List Cel} {s : Int} (h : placeO l s = none) : placeI l s = -1 := by unfold placeI; rw [h]
theorem getD_some {l : List Cel} {k : Nat} (h : k < l.length) (c : Cel) : l.getD k c = l[k] := by rw [List.getD, List.getElem?_eq_getElem h]; rfl

set_option maxRecDepth 100000 in
set_option maxHeartbeats 2000000 in
theorem read_any (B b : Nat) (D : Dev) (i s : Nat) (w : World) (h : ActorAt w B b D (i : Int)) (hi : i < D.C.length) (hs : s < D.S.length) :
    Calls Try.prog 53 #[.pointer (some ⟨b, 0, none⟩), .int .i64 (s : Int)] w fun e w' => e = .returned (.string (readD D i (s : Int))) ∧ Below w.heap.size w w' := by
  have hc := actPlace_any B b D i (s : Int) w h hi
  cases hp : placeO (cacheOf D i) (s : Int) with
  | some k =>
    obtain ⟨hk, -⟩ := place_some hp
    rw [placeI_some hp] at hc
    have HR : Hid (readD D i (s : Int) = ((cacheOf D i)[k]).2) := by show readD D i (s : Int) = _; unfold readD; rw [hp]; simp only; rw [getD_some hk]
    have H := Lib.hid h
    clear h hp
    go_enter Try.func53, Try.ntmps53
    go_wp2_with fail
    refine hc.mono ?_
    rintro e w1 ⟨rfl, hb1⟩
    obtain ⟨vS, vC, vK, vF, f, h1⟩ := H.out.up hb1
    have hbx := h1.box
    obtain ⟨gc, cap, a, c, rfl, hgl, hcc, hff, hfi, hcm, hlc, hla⟩ := act_cache h1 hi
    obtain ⟨ga, c', e2, -, -, -, -, -, -, hd, -, -⟩ := act_cell h1 hi hk
    obtain ⟨rfl, rfl⟩ : a = some ⟨ga, 0, none⟩ ∧ c = c' := by rw [hfi] at e2; injection e2 with e1 _ e2; exact ⟨e1, e2⟩
    have c1 := hbx.c1
    have c5 := hbx.c5
    have i0 : (0 : Int) ≤ (i : Int) := by omega
    have i1 : (i : Int) < (D.C.length : Int) := by omega
    have k0 : (0 : Int) ≤ (k : Int) := by omega
    have k1 : (k : Int) < ((cacheOf D i).length : Int) := by omega
    generalize ((cacheOf D i)[k]).2 = t at *
    generalize D.C.length = nC at *
    generalize (cacheOf D i).length = nl at *
    clear h1 hbx hla hfi e2 hc H
    go_wp2_with fail
    go_region_held3 (fun w' => w'.cell? ⟨b, 1, none⟩ = some (.slice (some ⟨gc, 0, none⟩) nC cap) ∧ w'.cell? ⟨b, 5, none⟩ = some (.int .i64 (i : Int)) ∧ w'.cell? ⟨gc, i, none⟩ = some (.slice (some ⟨ga, 0, none⟩) nl c) ∧ w'.cell? ⟨ga, k * 2 + 1, none⟩ = some (.string t)) (go_keep) (fail)
    go_wp2_with fail
    go_ret
    exact ⟨by rw [HR.out]; rfl, hb1.drew⟩
  | none =>
    rw [placeI_none hp] at hc
    have HR : Hid (readD D i (s : Int) = D.S[s]) := by
      show readD D i (s : Int) = _
      unfold readD
      rw [hp]
      simp only [Int.toNat_natCast]
      rw [List.getD, List.getElem?_eq_getElem hs]
      rfl
    have H := Lib.hid h
    clear h hp
    go_enter Try.func53, Try.ntmps53
    go_wp2_with fail
    refine hc.mono ?_
    rintro e w1 ⟨rfl, hb1⟩
    obtain ⟨vS, vC, vK, vF, f, h1⟩ := H.out.up hb1
    have hbx := h1.box
    obtain ⟨gs, cap, rfl, -, -, -, hd, -⟩ := act_sector h1 hs
    have c0 := hbx.c0
    have s0 : (0 : Int) ≤ (s : Int) := by omega
    have s1 : (s : Int) < (D.S.length : Int) := by omega
    generalize D.S[s] = t at *
    generalize D.S.length = nS at *
    clear h1 hbx hc H
    go_wp2_with fail
    go_ret
    exact ⟨by rw [HR.out]; rfl, hb1⟩

theorem end_tup : Ending.returned (.tuple #[]) = .returned (.tuple #[]) := rfl
theorem set_same {l : List (List Cel)} {i : Nat} (h : i < l.length) : l.set i (l.getD i []) = l := by
  rw [List.getD, List.getElem?_eq_getElem h]
  exact List.set_getElem_self h

set_option maxRecDepth 100000 in
set_option maxHeartbeats 2000000 in
theorem force_any (B b : Nat) (D : Dev) (i s : Nat) (t : ByteArray) (w : World) (h : ActorAt w B b D (i : Int)) (hi : i < D.C.length) (hs : s < D.S.length) (hS : Small D 1099511627776) (hB : B ≤ w.heap.size) :
    Calls Try.prog 54 #[.pointer (some ⟨b, 0, none⟩), .int .i64 (s : Int), .string t] w fun e w' => e = .returned (.tuple #[]) ∧ ActorAt w' B b (forceD D i (s : Int) t) (i : Int) ∧ Below B w w' := by
  obtain ⟨vS, vC, vK, vF, f, h⟩ := h
  have hbx := h.box
  obtain ⟨gs, cap, rfl, hgB, hgl, hne, hd, hz⟩ := act_sector h hs
  have c0 := hbx.c0
  obtain ⟨W, hW⟩ : ∃ W, W = w.setCell ⟨gs, s, none⟩ (.string t) := ⟨_, rfl⟩
  have HA := Lib.hid (show ActorAt W B b { D with S := D.S.set s t } (i : Int) from ⟨_, _, _, _, _, hW ▸ h.setS rfl s t⟩)
  have hb : Below B w W := hW ▸ (Below.refl B w).setCell (by simpa using hgB) _
  have hc := actPlace_any B b { D with S := D.S.set s t } i (s : Int) W HA.out hi
  have hcc : cacheOf { D with S := D.S.set s t } i = cacheOf D i := rfl
  rw [hcc] at hc
  have s0 : (0 : Int) ≤ (s : Int) := by omega
  have s1 : (s : Int) < (D.S.length : Int) := by omega
  clear hbx h
  cases hp : placeO (cacheOf D i) (s : Int) with
  | some k =>
    obtain ⟨hk, _⟩ := place_some hp
    rw [placeI_some hp] at hc
    have HF : Hid (forceD D i (s : Int) t = { D with S := D.S.set s t, C := D.C.set i ((cacheOf D i).eraseIdx k) }) := by
      show forceD D i (s : Int) t = _
      unfold forceD forceC
      rw [hp, Int.toNat_natCast]
    have HS : Hid (Small { D with S := D.S.set s t } 1099511627776) := ⟨by simpa using hS.s, hS.f, hS.k, hS.c, hS.cs⟩
    clear hp hcc
    go_enter Try.func54, Try.ntmps54
    go_wp2_with fail
    rw [← hW]
    clear hW
    refine hc.mono ?_
    rintro e w1 ⟨rfl, hb1⟩
    have hdr := drop_any B b { D with S := D.S.set s t } i k w1 (HA.out.up hb1) hi hk HS.out
    clear hc HA
    go_wp2_with fail
    refine hdr.mono ?_
    rintro e w2 ⟨rfl, hA2, hb2⟩
    have HA2 := Lib.hid hA2
    clear hA2 hdr
    go_wp2_with fail
    go_end0
    refine ⟨rfl, ?_, hb.trans ((hb1.mono (Nat.le_trans hB hb.size)).trans hb2)⟩
    rw [HF.out]
    exact HA2.out
  | none =>
    rw [placeI_none hp] at hc
    have HF : Hid (forceD D i (s : Int) t = { D with S := D.S.set s t }) := by
      show forceD D i (s : Int) t = _
      unfold forceD forceC
      rw [hp, Int.toNat_natCast]
      simp only
      show ({ D with S := D.S.set s t, C := D.C.set i (D.C.getD i []) } : Dev) = _
      rw [set_same hi]
    clear hp hcc
    go_enter Try.func54, Try.ntmps54
    go_wp2_with fail
    rw [← hW]
    clear hW
    refine hc.mono ?_
    rintro e w1 ⟨rfl, hb1⟩
    clear hc
    go_wp2_with fail
    go_end0
    refine ⟨rfl, ?_, hb.trans (hb1.mono (Nat.le_trans hB hb.size))⟩
    rw [HF.out]
    exact HA.out.up hb1

end Go.Proofs.Ytleemgjbihdbgaa

/-
  The program's actor: what it puts: by contract.
-/
namespace Go.Proofs.Ytleemgjbihdbgaa
open Go.RowKit
set_option linter.unusedVariables false
set_option linter.unusedSimpArgs false

theorem celV_set (l : List Cel) {k : Nat} (s : Int) (t : ByteArray) (hk : k < l.length) (e : (l[k]).1 = s) : (celV l).set (k * 2 + 1) (.string t) = celV (l.set k (s, t)) := by
  induction l generalizing k with
  | nil => simp at hk
  | cons c r ih =>
    have e1 : celV (c :: r) = .int .i64 c.1 :: .string c.2 :: celV r := rfl
    rw [e1]
    cases k with
    | zero =>
      simp at e
      subst e
      rfl
    | succ k =>
      rw [show (k + 1) * 2 + 1 = (k * 2 + 1) + 1 + 1 by omega, List.set_cons_succ, List.set_cons_succ, ih (by simpa using hk) (by simpa using e), List.set_cons_succ]
      rfl

set_option maxRecDepth 100000 in
set_option maxHeartbeats 4000000 in
theorem put_any' (B b : Nat) (D : Dev) (i s : Nat) (t : ByteArray) (w : World) (h : ActorAt w B b D (i : Int)) (hi : i < D.C.length) (hS : Small D 1099511627776) (hB : B ≤ w.heap.size) :
    Calls Try.prog 55 #[.pointer (some ⟨b, 0, none⟩), .int .i64 (s : Int), .string t] w fun e w' => e = .returned (.tuple #[]) ∧ ActorAt w' B b (putD D i (s : Int) t) (i : Int) ∧ Below B w w' := by
  have hc := actPlace_any B b D i (s : Int) w h hi
  cases hp : placeO (cacheOf D i) (s : Int) with
  | some k =>
    obtain ⟨hk, hks⟩ := place_some hp
    rw [placeI_some hp] at hc
    have HF : Hid (putD D i (s : Int) t = { D with C := D.C.set i ((cacheOf D i).set k ((s : Int), t)) }) := by
      show putD D i (s : Int) t = _
      unfold putD putC setCache
      rw [hp]
    have H := Lib.hid h
    clear h hp
    go_enter Try.func55, Try.ntmps55
    go_wp2_with fail
    refine hc.mono ?_
    rintro e w1 ⟨rfl, hb1⟩
    have hsz := hb1.size
    have hbB : Below B w w1 := hb1.mono hB
    obtain ⟨vS, vC, vK, vF, f, h1⟩ := H.out.up hb1
    have hbx := h1.box
    obtain ⟨gc, cap, a, c, rfl, hgl, hcc, hff, hfi, hcm, hlc, hla⟩ := act_cache h1 hi
    obtain ⟨ga, c', e2, hBa, hal, hba, hca, -, -, hd, -, hz⟩ := act_cell h1 hi hk
    obtain ⟨rfl, rfl⟩ : a = some ⟨ga, 0, none⟩ ∧ c = c' := by rw [hfi] at e2; injection e2 with e1 _ e2; exact ⟨e1, e2⟩
    have hca := hca gc rfl
    have hst := (hfi ▸ h1.d.cs i hi).stored (k * 2 + 1) (.string t)
    have HE : Hid (ActAt (w1.setCell ⟨ga, k * 2 + 1, none⟩ (.string t)) B b vS (.slice (some ⟨gc, 0, none⟩) D.C.length cap) vK vF f { D with C := D.C.set i ((cacheOf D i).set k ((s : Int), t)) } (i : Int)) := by
      refine h1.turnC hi rfl (by rw [hfi]; exact hst.2) ?_
      rw [List.length_set, ← celV_set _ _ _ hk hks, hfi]
      exact hst.1
    have HB : Hid (Below B w (w1.setCell ⟨ga, k * 2 + 1, none⟩ (.string t))) := hbB.setCell (by simpa using hBa) _
    have c1 := hbx.c1
    have c5 := hbx.c5
    have i0 : (0 : Int) ≤ (i : Int) := by omega
    have i1 : (i : Int) < (D.C.length : Int) := by omega
    have k0 : (0 : Int) ≤ (k : Int) := by omega
    have k1 : (k : Int) < ((cacheOf D i).length : Int) := by omega
    have hba' : ga ≠ b := fun e => hba e.symm
    have hca' : ga ≠ gc := fun e => hca e.symm
    clear hks hst hla e2 h1 hfi hbx hc H
    generalize ((cacheOf D i)[k]).2 = t0 at *
    generalize D.C.length = nC at *
    generalize (cacheOf D i).length = nl at *
    go_wp2_with fail
    go_region_held3 (fun w' => w'.cell? ⟨b, 1, none⟩ = some (.slice (some ⟨gc, 0, none⟩) nC cap) ∧ w'.cell? ⟨b, 5, none⟩ = some (.int .i64 (i : Int)) ∧ w'.cell? ⟨gc, i, none⟩ = some (.slice (some ⟨ga, 0, none⟩) nl c)) (go_keep) (fail)
    go_wp2_with fail
    refine bodyPost_ret (results_none rfl _ _ _) rfl ?_
    refine ⟨rfl, ?_, HB.out.drew⟩
    rw [HF.out]
    exact ⟨_, _, _, _, _, HE.out.drew⟩
  | none =>
    rw [placeI_none hp] at hc
    have HF : Hid (putD D i (s : Int) t = { D with C := D.C.set i (cacheOf D i ++ [((s : Int), t)]) }) := by
      show putD D i (s : Int) t = _
      unfold putD putC setCache
      rw [hp]
    have H := Lib.hid h
    clear h hp
    obtain ⟨i0, hi', hz0, hz1, hz2⟩ := info_parts infoCell
    go_enter Try.func55, Try.ntmps55
    go_wp2_with fail
    refine hc.mono ?_
    rintro e wn ⟨rfl, hb1⟩
    have HBw := Lib.hid (hb1.mono hB)
    have hBw : B ≤ wn.heap.size := Nat.le_trans hB hb1.size
    obtain ⟨vS, vC, vK, vF, f, h1⟩ := H.out.up hb1
    clear hc H hb1 hB
    have hbx := h1.box
    obtain ⟨gc, cap, a, c, rfl, hgl, hcc, hff, hfi, hcm, hlc, hla⟩ := act_cache h1 hi
    have hl63 : (cacheOf D i).length ≤ 1099511627776 := hS.cs _ (by unfold cacheOf; rw [List.getD, List.getElem?_eq_getElem hi]; exact List.getElem_mem hi)
    have hgc := h1.d.c.lt gc rfl
    have hne : b ≠ gc := own_blk h1.d.c h1.a (by decide) rfl
    have hne' : gc ≠ b := fun e => hne e.symm
    have hbl := h1.a.lt
    have hapart : ∀ g, (f i).ownBlock = some g → gc ≠ g ∧ b ≠ g := fun g hg => ⟨fun e => by
      subst e
      rcases own_apart h1.d.c (h1.d.cs i hi) (by decide) hg with h2 | h2
      · cases h2
      · exact h2 rfl, own_blk (h1.d.cs i hi) h1.a (by decide) hg⟩
    obtain ⟨WA, hWA⟩ : ∃ WA, WA = (wn.alloc (.cells #[.int .i64 (s : Int), .string t] 59)).drew := ⟨_, rfl⟩
    have hbA : Below wn.heap.size wn WA := hWA ▸ ((Below.refl _ _).alloc (Nat.le_refl _) _).drew
    have hA := h1.up hbA
    have HOWN : Hid (WA.ownsRow B 59 2 (.slice a (cacheOf D i).length c) (cacheOf D i).length (celV (cacheOf D i))) := by
      have h2 := hA.d.cs i hi
      rw [hfi] at h2
      exact h2
    have HNEW : Hid (∀ j u, (celV [((s : Int), t)])[j]? = some u → WA.cell? ((⟨wn.heap.size, 0, none⟩ : Addr).add j) = some u) := fun j u hj => by
      rw [hWA, Addr.add_lit]
      show (wn.alloc _).cell? _ = some u
      rw [Nat.zero_add]
      refine (Blk.new wn _ _).cell j u ?_
      match j, hj with
      | 0, hj => exact hj
      | 1, hj => exact hj
      | j + 2, hj => simp [celV] at hj
    have HB1 : Hid ((cacheOf D i).length + 1 ≤ maxLen) := by show _ ≤ _; unfold maxLen; omega
    have HB2 : Hid (((cacheOf D i).length + 1) * 24 ≤ 140737488355328) := by show _ ≤ _; omega
    have HB3 : Hid (B ≤ WA.heap.size) := Nat.le_trans hBw hbA.size
    have zcc0 : WA.cell? ⟨gc, i, none⟩ = some (.slice a (cacheOf D i).length c) := (hbA.cell (p := ⟨gc, i, none⟩) hgl).trans hcc
    have HSTEP : Hid (∀ ga cap2 w1, w1.ownsRow B 59 2 (.slice (some ⟨ga, 0, none⟩) ((cacheOf D i).length + 1) cap2) ((cacheOf D i).length + 1) (celV (cacheOf D i) ++ celV [((s : Int), t)]) → WA.grownBy w1 (Value.slice a (cacheOf D i).length c).ownBlock → ((Value.slice a (cacheOf D i).length c).ownBlock = some ga ∨ ga = WA.heap.size) →
        w1.cell? ⟨b, 1, none⟩ = some (.slice (some ⟨gc, 0, none⟩) D.C.length cap) ∧ w1.cell? ⟨b, 5, none⟩ = some (.int .i64 (i : Int)) ∧
        (w1.setCell ⟨gc, i, none⟩ (.slice (some ⟨ga, 0, none⟩) ((cacheOf D i).length + 1) cap2)).cell? ⟨b, 1, none⟩ = some (.slice (some ⟨gc, 0, none⟩) D.C.length cap) ∧ (w1.setCell ⟨gc, i, none⟩ (.slice (some ⟨ga, 0, none⟩) ((cacheOf D i).length + 1) cap2)).cell? ⟨b, 5, none⟩ = some (.int .i64 (i : Int)) ∧
        w1.cell? ⟨gc, i, none⟩ = some (.slice a (cacheOf D i).length c) ∧ w1.frozen? ⟨gc, i, none⟩ = false ∧
        Hid (ActorAt (w1.setCell ⟨gc, i, none⟩ (.slice (some ⟨ga, 0, none⟩) ((cacheOf D i).length + 1) cap2)) B b (putD D i (s : Int) t) (i : Int) ∧ Below B w (w1.setCell ⟨gc, i, none⟩ (.slice (some ⟨ga, 0, none⟩) ((cacheOf D i).length + 1) cap2)))) := by
      intro ga cap2 w1 hown1 hgrow hat
      rw [← hfi] at hgrow hat
      have hA2 := hA.swapC (l := cacheOf D i ++ [((s : Int), t)]) rfl hi rfl hgrow (u := .slice (some ⟨ga, 0, none⟩) ((cacheOf D i).length + 1) cap2) (by rw [List.length_append, celV_append]; exact hown1) (by
        rcases hat with h2 | h2
        · exact .inl (by rw [h2]; rfl)
        · exact .inr fun x hx => by simp [Value.ownBlock] at hx; omega)
      have hba : ∀ o u, WA.cell? ⟨b, o, none⟩ = some u → w1.cell? ⟨b, o, none⟩ = some u := fun o u hu => hgrow.cell (a := ⟨b, o, none⟩) hu (fun e => (hapart b e.symm).2 rfl)
      refine ⟨hba _ _ hA.box.c1, hba _ _ hA.box.c5, hA2.box.c1, hA2.box.c5, hgrow.cell (a := ⟨gc, i, none⟩) zcc0 (fun e => (hapart gc e.symm).1 rfl), (hgrow.frozen_far ⟨gc, i, none⟩ (Nat.lt_of_lt_of_le hgl hbA.size) (fun e => (hapart gc e.symm).1 rfl)).trans ((hbA.frozen (p := ⟨gc, i, none⟩) hgl).trans hff), ?_, ?_⟩
      · rw [HF.out]
        exact ⟨_, _, _, _, _, hA2⟩
      · refine Below.setCell ?_ (by simpa using hgc.1) _
        refine HBw.out.trans ((hbA.mono hBw).trans ?_)
        exact below_grown_by hgrow (Nat.le_trans hBw hbA.size) (fun k hk => ((h1.d.cs i hi).lt k hk).1)
    have c1 := hbx.c1
    have c5 := hbx.c5
    have z1 : WA.cell? ⟨b, 1, none⟩ = some (.slice (some ⟨gc, 0, none⟩) D.C.length cap) := hA.box.c1
    have z5 : WA.cell? ⟨b, 5, none⟩ = some (.int .i64 (i : Int)) := hA.box.c5
    have zcc := zcc0
    rw [hWA] at z1 z5 zcc
    have j0 : (0 : Int) ≤ (i : Int) := by omega
    have j1 : (i : Int) < (D.C.length : Int) := by omega
    clear hbx h1 hA hla hfi hapart hS HBw hBw hbA zcc0
    subst hWA
    have zc2 : (wn.alloc (.cells #[.int .i64 (s : Int), .string t] 59)).cell? ⟨gc, i, none⟩ = some (.slice a (cacheOf D i).length c) := zcc
    clear zcc
    generalize D.C.length = nC at *
    generalize cacheOf D i = l at *
    obtain ⟨nl, hnl⟩ : ∃ n, l.length = n := ⟨_, rfl⟩
    rw [hnl] at HSTEP HOWN HB1 HB2 hcc zc2 hlc hl63
    clear hnl HF
    go_wp2_with fail
    refine wp_region_held_drew (S := (fun w' => w'.cell? ⟨b, 1, none⟩ = some (.slice (some ⟨gc, 0, none⟩) nC cap) ∧ w'.cell? ⟨b, 5, none⟩ = some (.int .i64 (i : Int)))) (by kernel_rfl) ?_ (fun hHeld => ?_)
    focus (exact ⟨c1, c5⟩)
    refine wpAnyH_take (i := 0) (oi := ⟨some 28, _, _, _, _, _⟩) (v := ?_) rfl (by kernel_rfl) (by kernel_rfl) (by kernel_rfl) (fun _ _ _ h => h) (Or.inl ⟨by rfl, ?_⟩) (by assumption) ?_
    rotate_left
    focus (intro wq hSq; (try dsimp only at hSq); go_simp; try with_reducible rfl)
    try simp only [Act.put, List.setIfInBounds_toArray, List.set_cons_zero, List.set_cons_succ]
    refine wpAnyH_take (i := 1) (oi := ⟨some 29, _, _, _, _, _⟩) (v := ?_) rfl (by kernel_rfl) (by kernel_rfl) (by kernel_rfl) (fun _ _ _ h => h) (Or.inl ⟨by rfl, ?_⟩) (by assumption) ?_
    rotate_left
    focus (intro wq hSq; (try dsimp only at hSq); go_simp; try with_reducible rfl)
    try simp only [Act.put, List.setIfInBounds_toArray, List.set_cons_zero, List.set_cons_succ]
    refine wpAnyH_take (i := 2) (oi := ⟨some 30, _, _, _, _, _⟩) (v := ?_) rfl (by kernel_rfl) (by kernel_rfl) (by kernel_rfl) (fun _ _ _ h => h) (Or.inl ⟨by rfl, ?_⟩) (by assumption) ?_
    rotate_left
    focus (intro wq hSq; (try dsimp only at hSq); go_simp; try with_reducible rfl)
    try simp only [Act.put, List.setIfInBounds_toArray, List.set_cons_zero, List.set_cons_succ]
    refine wpAnyH_take (i := 3) (oi := ⟨some 31, _, _, _, _, _⟩) (v := ?_) rfl (by kernel_rfl) (by kernel_rfl) (by kernel_rfl) (fun _ _ _ h => h) (Or.inl ⟨by rfl, ?_⟩) (by assumption) ?_
    rotate_left
    focus (intro wq hSq; (try dsimp only at hSq); go_simp; try with_reducible rfl)
    try simp only [Act.put, List.setIfInBounds_toArray, List.set_cons_zero, List.set_cons_succ]
    refine wpAnyH_take (i := 4) (oi := ⟨some 32, _, _, _, _, _⟩) (v := ?_) rfl (by kernel_rfl) (by kernel_rfl) (by kernel_rfl) (fun _ _ _ h => h) (Or.inl ⟨by rfl, ?_⟩) (by assumption) ?_
    rotate_left
    focus (intro wq hSq; (try dsimp only at hSq); go_simp; try with_reducible rfl)
    try simp only [Act.put, List.setIfInBounds_toArray, List.set_cons_zero, List.set_cons_succ]
    refine wpAnyH_take (i := 5) (oi := ⟨some 33, _, _, _, _, _⟩) (v := ?_) rfl (by kernel_rfl) (by kernel_rfl) (by kernel_rfl) (fun _ _ _ h => h) (Or.inl ⟨by rfl, ?_⟩) (by assumption) ?_
    rotate_left
    focus (intro wq hSq; (try dsimp only at hSq); go_simp; try with_reducible rfl)
    try simp only [Act.put, List.setIfInBounds_toArray, List.set_cons_zero, List.set_cons_succ]
    refine wpAnyH_take (i := 6) (oi := ⟨some 34, _, _, _, _, _⟩) (v := ?_) rfl (by kernel_rfl) (by kernel_rfl) (by kernel_rfl) (fun _ _ _ h => h) (Or.inl ⟨by rfl, ?_⟩) (by assumption) ?_
    rotate_left
    focus (intro wq hSq; (try dsimp only at hSq); go_simp; try with_reducible rfl)
    try simp only [Act.put, List.setIfInBounds_toArray, List.set_cons_zero, List.set_cons_succ]
    refine wpAnyH_take (i := 7) (oi := ⟨some 35, _, _, _, _, _⟩) (v := ?_) rfl (by kernel_rfl) (by kernel_rfl) (by kernel_rfl) (fun _ _ _ h => h) (Or.inl ⟨by rfl, ?_⟩) (by assumption) ?_
    rotate_left
    focus (intro wq hSq; (try dsimp only at hSq); go_simp; try with_reducible rfl)
    try simp only [Act.put, List.setIfInBounds_toArray, List.set_cons_zero, List.set_cons_succ]
    refine wpAnyH_take (i := 8) (oi := ⟨some 36, _, _, _, _, _⟩) (v := ?_) rfl (by kernel_rfl) (by kernel_rfl) (by kernel_rfl) (fun _ _ _ h => h) (Or.inl ⟨by rfl, ?_⟩) (by assumption) ?_
    rotate_left
    focus (intro wq hSq; (try dsimp only at hSq); go_simp; try with_reducible rfl)
    try simp only [Act.put, List.setIfInBounds_toArray, List.set_cons_zero, List.set_cons_succ]
    refine wpAnyH_take (i := 9) (oi := ⟨some 37, _, _, _, _, _⟩) (v := ?_) rfl (by kernel_rfl) (by kernel_rfl) (by kernel_rfl) (fun _ _ _ h => h) (Or.inl ⟨by rfl, ?_⟩) (by assumption) ?_
    rotate_left
    focus (intro wq hSq; (try dsimp only at hSq); go_simp; try with_reducible rfl)
    try simp only [Act.put, List.setIfInBounds_toArray, List.set_cons_zero, List.set_cons_succ]
    refine wpAnyH_take (i := 10) (oi := ⟨some 38, _, _, _, _, _⟩) (v := ?_) rfl (by kernel_rfl) (by kernel_rfl) (by kernel_rfl) (fun _ _ _ h => h) (Or.inl ⟨by rfl, ?_⟩) (by assumption) ?_
    rotate_left
    focus (intro wq hSq; (try dsimp only at hSq); go_simp; try with_reducible rfl)
    try simp only [Act.put, List.setIfInBounds_toArray, List.set_cons_zero, List.set_cons_succ]
    refine wpAnyH_take (i := 11) (oi := ⟨some 39, _, _, _, _, _⟩) (v := ?_) rfl (by kernel_rfl) (by kernel_rfl) (by kernel_rfl) (fun _ _ _ h => h) (Or.inl ⟨by rfl, ?_⟩) (by assumption) ?_
    rotate_left
    focus (intro wq hSq; (try dsimp only at hSq); go_simp; try with_reducible rfl)
    try simp only [Act.put, List.setIfInBounds_toArray, List.set_cons_zero, List.set_cons_succ]
    refine wpAnyH_take (i := 12) (oi := ⟨some 40, _, _, _, _, _⟩) (v := ?_) rfl (by kernel_rfl) (by kernel_rfl) (by kernel_rfl) (fun _ _ _ h => h) (Or.inl ⟨by rfl, ?_⟩) (by assumption) ?_
    rotate_left
    focus (intro wq hSq; (try dsimp only at hSq); go_simp; try with_reducible rfl)
    try simp only [Act.put, List.setIfInBounds_toArray, List.set_cons_zero, List.set_cons_succ]
    refine wpAnyH_take (i := 13) (oi := ⟨some 41, _, _, _, _, _⟩) (v := ?_) rfl (by kernel_rfl) (by kernel_rfl) (by kernel_rfl) (fun _ _ _ h => h) (Or.inl ⟨by rfl, ?_⟩) (by assumption) ?_
    rotate_left
    focus (intro wq hSq; (try dsimp only at hSq); go_simp; try with_reducible rfl)
    try simp only [Act.put, List.setIfInBounds_toArray, List.set_cons_zero, List.set_cons_succ]
    refine wpAnyH_take (i := 14) (oi := ⟨some 42, _, _, _, _, _⟩) (v := ?_) rfl (by kernel_rfl) (by kernel_rfl) (by kernel_rfl) (fun _ _ _ h => h) (Or.inl ⟨by rfl, ?_⟩) (by assumption) ?_
    rotate_left
    focus (intro wq hSq; (try dsimp only at hSq); go_simp; try with_reducible rfl)
    try simp only [Act.put, List.setIfInBounds_toArray, List.set_cons_zero, List.set_cons_succ]
    refine wpAnyH_take (i := 15) (oi := ⟨some 43, _, _, _, _, _⟩) (v := ?_) rfl (by kernel_rfl) (by kernel_rfl) (by kernel_rfl) (fun _ _ _ h => h) (Or.inl ⟨by rfl, ?_⟩) (by assumption) ?_
    rotate_left
    focus (intro wq hSq; (try dsimp only at hSq); go_simp; try with_reducible rfl)
    try simp only [Act.put, List.setIfInBounds_toArray, List.set_cons_zero, List.set_cons_succ]
    refine wpAnyH_take (i := 16) (oi := ⟨some 44, _, _, _, _, _⟩) (v := ?_) rfl (by kernel_rfl) (by kernel_rfl) (by kernel_rfl) (fun _ _ _ h => h) (Or.inl ⟨by rfl, ?_⟩) (by assumption) ?_
    rotate_left
    focus (intro wq hSq; (try dsimp only at hSq); go_simp; try with_reducible rfl)
    try simp only [Act.put, List.setIfInBounds_toArray, List.set_cons_zero, List.set_cons_succ]
    refine wpAnyH_take (i := 17) (oi := ⟨some 45, _, _, _, _, _⟩) (v := ?_) rfl (by kernel_rfl) (by kernel_rfl) (by kernel_rfl) (fun _ _ _ h => h) (Or.inl ⟨by rfl, ?_⟩) (by assumption) ?_
    rotate_left
    focus (intro wq hSq; (try dsimp only at hSq); go_simp; try with_reducible rfl)
    try simp only [Act.put, List.setIfInBounds_toArray, List.set_cons_zero, List.set_cons_succ]
    refine wpAnyH_take (i := 18) (oi := ⟨some 46, _, _, _, _, _⟩) (v := ?_) rfl (by kernel_rfl) (by kernel_rfl) (by kernel_rfl) (fun _ _ _ h => h) (Or.inl ⟨by rfl, ?_⟩) (by assumption) ?_
    rotate_left
    focus (intro wq hSq; (try dsimp only at hSq); go_simp; try with_reducible rfl)
    try simp only [Act.put, List.setIfInBounds_toArray, List.set_cons_zero, List.set_cons_succ]
    refine wpAnyH_take (i := 19) (oi := ⟨some 47, _, _, _, _, _⟩) (v := ?_) rfl (by kernel_rfl) (by kernel_rfl) (by kernel_rfl) (fun _ _ _ h => h) (Or.inl ⟨by rfl, ?_⟩) (by assumption) ?_
    rotate_left
    focus (intro wq hSq; (try dsimp only at hSq); go_simp; try with_reducible rfl)
    try simp only [Act.put, List.setIfInBounds_toArray, List.set_cons_zero, List.set_cons_succ]
    refine wpAnyH_take (i := 20) (oi := ⟨some 48, _, _, _, _, _⟩) (v := ?_) rfl (by kernel_rfl) (by kernel_rfl) (by kernel_rfl) (fun _ _ _ h => h) (Or.inl ⟨by rfl, ?_⟩) (by assumption) ?_
    rotate_left
    focus (intro wq hSq; (try dsimp only at hSq); go_simp; try with_reducible rfl)
    try simp only [Act.put, List.setIfInBounds_toArray, List.set_cons_zero, List.set_cons_succ]
    refine wpAnyH_take (i := 22) (oi := ⟨some 50, _, _, _, _, _⟩) (v := ?_) rfl (by kernel_rfl) (by kernel_rfl) (by kernel_rfl) (fun _ _ _ h => h) (Or.inl ⟨by rfl, ?_⟩) (by assumption) ?_
    rotate_left
    focus (intro wq hSq; (try dsimp only at hSq); go_simp; try with_reducible rfl)
    try simp only [Act.put, List.setIfInBounds_toArray, List.set_cons_zero, List.set_cons_succ]
    refine wpAnyH_take (i := 23) (oi := ⟨some 51, _, _, _, _, _⟩) (v := ?_) rfl (by kernel_rfl) (by kernel_rfl) (by kernel_rfl) (fun _ _ _ h => h) (Or.inl ⟨by rfl, ?_⟩) (by assumption) ?_
    rotate_left
    focus (intro wq hSq; (try dsimp only at hSq); go_simp; try with_reducible rfl)
    try simp only [Act.put, List.setIfInBounds_toArray, List.set_cons_zero, List.set_cons_succ]
    refine wpAnyH_take (i := 24) (oi := ⟨some 52, _, _, _, _, _⟩) (v := ?_) rfl (by kernel_rfl) (by kernel_rfl) (by kernel_rfl) (fun _ _ _ h => h) (Or.inl ⟨by rfl, ?_⟩) (by assumption) ?_
    rotate_left
    focus (intro wq hSq; (try dsimp only at hSq); go_simp; try with_reducible rfl)
    try simp only [Act.put, List.setIfInBounds_toArray, List.set_cons_zero, List.set_cons_succ]
    refine wpAnyH_ready (rs := [21, 25]) (by kernel_rfl) (by simp) ?_
    refine AllReadyH.cons (o := ⟨some 49, _, _, _, _, _⟩) rfl (fun K hK => ?_) (AllReadyH.cons (o := ⟨some 53, _, _, _, _, _⟩) rfl (fun K hK => ?_) AllReadyH.nil)
    · go_simp
      refine hK.out _ _ ?_ (fun hHeld => ?_)
      focus (assumption)
      clear hK K
      try simp only [Act.put, List.setIfInBounds_toArray, List.set_cons_zero, List.set_cons_succ]
      refine wpAnyH_ready (rs := [25]) (by kernel_rfl) (by simp) ?_
      refine AllReadyH.cons (o := ⟨some 53, _, _, _, _, _⟩) rfl (fun K hK => ?_) AllReadyH.nil
      go_simp
      refine hK.out _ _ ?_ (fun hHeld => ?_)
      focus (exact ⟨z1, z5⟩)
      clear hK K
      try simp only [Act.put, List.setIfInBounds_toArray, List.set_cons_zero, List.set_cons_succ]
      refine wpAnyH_ready (rs := [26]) (by kernel_rfl) (by simp) ?_
      refine AllReadyH.cons (o := ⟨some 54, _, _, _, _, _⟩) rfl (fun K hK => ?_) AllReadyH.nil
      refine step_append_lies _ rfl (.tmp 49) (.tmp 53) 57 rfl B 59 i0 _ 2 24 Try.underlying57 hi' hz0 hz1 hz2 rfl (by omega) (.slice a nl c) nl (celV l) (by simp [Act.eval, Act.put]) HOWN.out ⟨wn.heap.size, 0, none⟩ 1 1 (celV [((s : Int), t)]) (by simp [Act.eval, Act.put]) rfl HNEW.out (celV_one _) (by omega) HB1.out HB2.out HB3.out _ rfl ?_
      intro ga cap2 w1 hown1 hgrow hat hlt
      obtain ⟨k0, k1, k2, k3, k4, k5, HK⟩ := HSTEP.out ga cap2 w1 hown1 hgrow hat
      clear hown1 hgrow hat hlt
      refine hK.out _ _ ?_ (fun hHeld => ?_)
      focus (exact ⟨k0, k1⟩)
      clear hK K
      try simp only [Act.put, List.setIfInBounds_toArray, List.set_cons_zero, List.set_cons_succ]
      refine wpAnyH_take (i := 27) (oi := ⟨some 55, _, _, _, _, _⟩) (v := ?_) rfl (by kernel_rfl) (by kernel_rfl) (by kernel_rfl) (fun _ _ _ h => h) (Or.inl ⟨by rfl, ?_⟩) (by assumption) ?_
      rotate_left
      focus (intro wq hSq; (try dsimp only at hSq); go_simp; try with_reducible rfl)
      try simp only [Act.put, List.setIfInBounds_toArray, List.set_cons_zero, List.set_cons_succ]
      refine wpAnyH_ready (rs := [28]) (by kernel_rfl) (by simp) ?_
      refine AllReadyH.cons (o := ⟨none, _, _, _, _, _⟩) rfl (fun K hK => ?_) AllReadyH.nil
      go_simp
      refine hK.out _ _ ?_ (fun hHeld => ?_)
      focus (exact ⟨k2, k3⟩)
      clear hK K
      try simp only [Act.put, List.setIfInBounds_toArray, List.set_cons_zero, List.set_cons_succ]
      refine wpAnyH_done (by kernel_rfl) ?_ _
      go_wp2_with fail
      go_end0
      exact ⟨rfl, HK.out.1, HK.out.2⟩
    · go_simp
      refine hK.out _ _ ?_ (fun hHeld => ?_)
      focus (exact ⟨z1, z5⟩)
      clear hK K
      try simp only [Act.put, List.setIfInBounds_toArray, List.set_cons_zero, List.set_cons_succ]
      refine wpAnyH_ready (rs := [21]) (by kernel_rfl) (by simp) ?_
      refine AllReadyH.cons (o := ⟨some 49, _, _, _, _, _⟩) rfl (fun K hK => ?_) AllReadyH.nil
      go_simp
      refine hK.out _ _ ?_ (fun hHeld => ?_)
      focus (assumption)
      clear hK K
      try simp only [Act.put, List.setIfInBounds_toArray, List.set_cons_zero, List.set_cons_succ]
      refine wpAnyH_ready (rs := [26]) (by kernel_rfl) (by simp) ?_
      refine AllReadyH.cons (o := ⟨some 54, _, _, _, _, _⟩) rfl (fun K hK => ?_) AllReadyH.nil
      refine step_append_lies _ rfl (.tmp 49) (.tmp 53) 57 rfl B 59 i0 _ 2 24 Try.underlying57 hi' hz0 hz1 hz2 rfl (by omega) (.slice a nl c) nl (celV l) (by simp [Act.eval, Act.put]) HOWN.out ⟨wn.heap.size, 0, none⟩ 1 1 (celV [((s : Int), t)]) (by simp [Act.eval, Act.put]) rfl HNEW.out (celV_one _) (by omega) HB1.out HB2.out HB3.out _ rfl ?_
      intro ga cap2 w1 hown1 hgrow hat hlt
      obtain ⟨k0, k1, k2, k3, k4, k5, HK⟩ := HSTEP.out ga cap2 w1 hown1 hgrow hat
      clear hown1 hgrow hat hlt
      refine hK.out _ _ ?_ (fun hHeld => ?_)
      focus (exact ⟨k0, k1⟩)
      clear hK K
      try simp only [Act.put, List.setIfInBounds_toArray, List.set_cons_zero, List.set_cons_succ]
      refine wpAnyH_take (i := 27) (oi := ⟨some 55, _, _, _, _, _⟩) (v := ?_) rfl (by kernel_rfl) (by kernel_rfl) (by kernel_rfl) (fun _ _ _ h => h) (Or.inl ⟨by rfl, ?_⟩) (by assumption) ?_
      rotate_left
      focus (intro wq hSq; (try dsimp only at hSq); go_simp; try with_reducible rfl)
      try simp only [Act.put, List.setIfInBounds_toArray, List.set_cons_zero, List.set_cons_succ]
      refine wpAnyH_ready (rs := [28]) (by kernel_rfl) (by simp) ?_
      refine AllReadyH.cons (o := ⟨none, _, _, _, _, _⟩) rfl (fun K hK => ?_) AllReadyH.nil
      go_simp
      refine hK.out _ _ ?_ (fun hHeld => ?_)
      focus (exact ⟨k2, k3⟩)
      clear hK K
      try simp only [Act.put, List.setIfInBounds_toArray, List.set_cons_zero, List.set_cons_succ]
      refine wpAnyH_done (by kernel_rfl) ?_ _
      go_wp2_with fail
      go_end0
      exact ⟨rfl, HK.out.1, HK.out.2⟩

end Go.Proofs.Ytleemgjbihdbgaa

/-
  The program's actor: a start, a register: by contract.
-/
namespace Go.Proofs.Ytleemgjbihdbgaa
open Go.RowKit
set_option linter.unusedVariables false
set_option linter.unusedSimpArgs false

section
variable {w w' : World} {B b : Nat} {vS vC vK vF : Value} {f : Nat → Value} {D : Dev} {node : Int}
/-- A cell of the actor's own block is written: its rows are as they were. -/
theorem ActAt.rows (h : ActAt w B b vS vC vK vF f D node) (o : Nat) (u : Value) : OwnD (w.setCell ⟨b, o, none⟩ u) B vS vC vK vF f D := by
  have key : ∀ {e : TypeId} {size : Nat} {v : Value} {n : Nat} {xs : List Value}, w.ownsRow B e size v n xs → e ≠ 73 → (w.setCell ⟨b, o, none⟩ u).ownsRow B e size v n xs := by
    intro e size v n xs hv hne
    refine ownsRow_setCell_other hv (fun hb => ?_) u
    exact own_blk hv h.a hne hb rfl
  exact ⟨key h.d.s (by decide), key h.d.c (by decide), key h.d.k (by decide), key h.d.ff (by decide), fun i hi => key (h.d.cs i hi) (by decide), h.d.kf, h.d.cc⟩
/-- Next is written. -/
theorem ActAt.setN (h : ActAt w B b vS vC vK vF f D node) (x : Int) : ActAt (w.setCell ⟨b, 3, none⟩ (.int .i64 x)) B b vS vC vK vF f { D with n := x } node := by
  have h2 := h.rows 3 (.int .i64 x)
  exact ⟨⟨h2.s, h2.c, h2.k, h2.ff, h2.cs, h2.kf, h2.cc⟩, h.a.set 3 _, h.hb⟩
theorem act_key (h : ActAt w B b vS vC vK vF f D node) {i : Nat} (hi : i < D.K.length) :
    ∃ gk cap, vK = .slice (some ⟨gk, 0, none⟩) D.K.length cap ∧ B ≤ gk ∧ gk < w.heap.size ∧ b ≠ gk ∧ w.cell? ⟨gk, i, none⟩ = some (.int .i64 (D.K[i])) ∧ w.frozen? ⟨gk, i, none⟩ = false := by
  obtain ⟨gk, cap, e, h1, h2⟩ := h.d.k.form (by omega)
  have ho := h.d.k
  have hne : b ≠ gk := own_blk ho h.a (by decide) (by rw [e]; rfl)
  rw [e] at ho
  refine ⟨gk, cap, e, h1, h2, hne, ?_, ho.frozenAt i⟩
  rw [ho.cellAt i (by omega)]
  simp [hi]
end

set_option maxRecDepth 100000 in
set_option maxHeartbeats 2000000 in
theorem start_any (B b : Nat) (D : Dev) (i : Nat) (w : World) (h : ActorAt w B b D (i : Int)) (hi : i < D.C.length) (hk : i < D.K.length) (hB : B ≤ w.heap.size) :
    Calls Try.prog 46 #[.pointer (some ⟨b, 0, none⟩)] w fun e w' => e = .returned (.tuple #[]) ∧ ActorAt w' B b (startD D i) (i : Int) ∧ Below B w w' := by
  have hc := forget_any B b D i w h hi
  clear h
  go_enter Try.func46, Try.ntmps46
  go_wp2_with fail
  refine hc.mono ?_
  rintro e w1 ⟨rfl, ⟨vS, vC, vK, vF, f, h1⟩, hb1⟩
  have hbx := h1.box
  obtain ⟨gk, cap, rfl, hgB, hgl, hne, hd, hz⟩ := act_key h1 hk
  have HA : Hid (ActorAt (w1.setCell ⟨gk, i, none⟩ (.int .i64 0)) B b (startD D i) (i : Int)) := ⟨_, _, _, _, _, h1.setK rfl i 0⟩
  have HB : Hid (Below B w (w1.setCell ⟨gk, i, none⟩ (.int .i64 0))) := hb1.setCell (by simpa using hgB) _
  have c2 := hbx.c2
  have c5 := hbx.c5
  have i0 : (0 : Int) ≤ (i : Int) := by omega
  have i1 : (i : Int) < (D.K.length : Int) := by omega
  have hne2 : gk ≠ b := fun e => hne e.symm
  have hd' : w1.cell? ⟨gk, i, none⟩ = some (.int .i64 (D.K[i])) := hd
  clear hd
  generalize D.K[i] = kOld at *
  clear h1 hbx hc
  have HK := Lib.hid hk
  clear hk
  go_wp2_with fail
  go_region_held3 (fun w' => w'.cell? ⟨b, 2, none⟩ = some (.slice (some ⟨gk, 0, none⟩) D.K.length cap) ∧ w'.cell? ⟨b, 5, none⟩ = some (.int .i64 (i : Int))) (go_keep) (fail)
  go_wp2_with fail
  go_end0
  obtain ⟨aS, aC, aK, aF, g, hA⟩ := HA.out
  exact ⟨rfl, ⟨aS, aC, aK, aF, g, hA.drew⟩, HB.out.drew⟩

end Go.Proofs.Ytleemgjbihdbgaa

/-
  The program's actor: a crash: by contract.
-/
namespace Go.Proofs.Ytleemgjbihdbgaa
open Go.RowKit
set_option linter.unusedVariables false
set_option linter.unusedSimpArgs false

theorem shr_min {kept k : Nat} (h : kept < 18446744073709551616) : ((kept : Int) / 2 ^ min k 64) = ((kept / 2 ^ k : Nat) : Int) := by
  have e : kept / 2 ^ min k 64 = kept / 2 ^ k := by
    rcases Nat.le_total k 64 with h1 | h1
    · rw [Nat.min_eq_left h1]
    · rw [Nat.min_eq_right h1, Nat.div_eq_of_lt (by simpa using h), Nat.div_eq_of_lt (Nat.lt_of_lt_of_le (by simpa using h) (Nat.pow_le_pow_right (by omega) h1))]
  rw [← e]
  simp
theorem bit_one {x : Nat} (h : x < 18446744073709551616) : bits .and .u64 (x : Int) 1 = ((x % 2 : Nat) : Int) := by
  have := bits_and_u64_nat x 1 h (by omega)
  rw [Nat.and_one_is_mod] at this
  exact this
theorem kept_bit {kept k : Nat} (h : kept < 18446744073709551616) : bits .and .u64 ((kept : Int) / 2 ^ min k 64) 1 = ((kept / 2 ^ k % 2 : Nat) : Int) := by
  rw [shr_min h, bit_one (Nat.lt_of_le_of_lt (Nat.div_le_self _ _) h)]
theorem crash_nil (S : List ByteArray) (kept : Nat) : crashS S [] kept = S := rfl
theorem crash_step {S0 S : List ByteArray} {l : List Cel} {kept k s : Nat} {t : ByteArray} (h : crashS S0 l kept = crashS S (l.drop k) (kept / 2 ^ k)) (hk : k < l.length) (e : l[k] = ((s : Int), t)) :
    crashS S0 l kept = crashS (if kept / 2 ^ k % 2 = 1 then S.set s t else S) (l.drop (k + 1)) (kept / 2 ^ (k + 1)) := by
  rw [h, List.drop_eq_getElem_cons hk, crashS, e]
  simp only [Int.toNat_natCast]
  rw [Nat.pow_succ, ← Nat.div_div_eq_div_mul]

set_option maxRecDepth 100000 in
set_option maxHeartbeats 4000000 in
theorem crash_any (B b : Nat) (D : Dev) (i kept : Nat) (w : World) (h : ActorAt w B b D (i : Int)) (hi : i < D.C.length) (hk : i < D.K.length) (hm : MayD D) (hS : Small D 1099511627776) (hB : B ≤ w.heap.size) (hkept : kept < 18446744073709551616) :
    Calls Try.prog 39 #[.pointer (some ⟨b, 0, none⟩), .int .u64 (kept : Int)] w fun e w' => e = .returned (.tuple #[]) ∧ ActorAt w' B b (crashD D i kept) (i : Int) ∧ Below B w w' := by
  have hc := isOut_any B b D i w h hk hS.k
  cases ho : fencedK D (keyOf D i) with
  | true =>
    rw [ho] at hc
    have HF : Hid (crashD D i kept = { D with C := D.C.set i [] }) := by
      show crashD D i kept = _
      unfold crashD
      rw [ho]
      rfl
    have H := Lib.hid h
    clear h ho
    go_enter Try.func39, Try.ntmps39
    go_wp2_with fail
    refine hc.mono ?_
    rintro e w1 ⟨rfl, hb1⟩
    have hfg := forget_any B b D i w1 (H.out.up hb1) hi
    clear hc H
    go_wp2_with fail
    refine hfg.mono ?_
    rintro e w2 ⟨rfl, h2, hb2⟩
    have H2 := Lib.hid h2
    clear h2 hfg
    go_wp2_with fail
    go_end0
    refine ⟨rfl, ?_, (hb1.mono hB).trans hb2⟩
    rw [HF.out]
    exact H2.out
  | false =>
    rw [ho] at hc
    have HF : Hid (crashD D i kept = { D with S := crashS D.S (cacheOf D i) kept, C := D.C.set i [] }) := by
      show crashD D i kept = _
      unfold crashD
      rw [ho]
      rfl
    have H := Lib.hid h
    have HCK := Lib.hid (cache_ok hm i)
    clear h ho hm
    go_enter Try.func39, Try.ntmps39
    go_wp2_with fail
    refine hc.mono ?_
    rintro e w1 ⟨rfl, hb1⟩
    obtain ⟨vS, vC, vK, vF, f, h1⟩ := H.out.up hb1
    have HB1 := Lib.hid (hb1.mono hB)
    have hB1 : B ≤ w1.heap.size := Nat.le_trans hB hb1.size
    have hbx := h1.box
    obtain ⟨gc, cap, a, c, rfl, hgl, hcc, hff, hfi, hcm, hlc, hla⟩ := act_cache h1 hi
    unfold maxLen at hcm
    have c1 := hbx.c1
    have c5 := hbx.c5
    have i0 : (0 : Int) ≤ (i : Int) := by omega
    have i1 : (i : Int) < (D.C.length : Int) := by omega
    have HA := Lib.hid h1
    have HFI := Lib.hid hfi
    clear h1 hbx hla hfi hc H hb1 hB
    obtain ⟨l, hl⟩ : ∃ l, cacheOf D i = l := ⟨_, rfl⟩
    have HL := Lib.hid hl
    rw [hl] at hcc hlc HF HCK HFI
    obtain ⟨nl, hnl⟩ : ∃ n, l.length = n := ⟨_, rfl⟩
    have HN := Lib.hid hnl
    rw [hnl] at hcc hlc HFI
    clear hl hnl
    go_wp2_with fail
    go_region_held3 (fun w' => w'.cell? ⟨b, 1, none⟩ = some (.slice (some ⟨gc, 0, none⟩) D.C.length cap) ∧ w'.cell? ⟨b, 5, none⟩ = some (.int .i64 (i : Int)) ∧ w'.cell? ⟨gc, i, none⟩ = some (.slice a nl c)) (go_keep) (fail)
    go_wp2_with fail
    go_loopw [4, 5, 22] (fun _ _ j wr => ∃ k : Nat, ∃ S : List ByteArray, k ≤ nl ∧ j = .int .i64 (k : Int) ∧ Hid (ActAt wr B b vS (.slice (some ⟨gc, 0, none⟩) D.C.length cap) vK vF f { D with S := S } (i : Int)) ∧ Hid (crashS D.S l kept = crashS S (l.drop k) (kept / 2 ^ k)) ∧ Hid (S.length = D.S.length) ∧ Hid (Below B w wr) ∧ B ≤ wr.heap.size) (fun _ _ j _ => nl - (intOf j).toNat)
    case atStart => exact ⟨0, D.S, Nat.zero_le _, rfl, HA.out.drew, by simp [Hid], rfl, HB1.out.drew, hB1⟩
    case round =>
      clear HA HB1 hB1 c1 c5 hcc hff hgl
      obtain ⟨k, S, hk, rfl, HA, HS, HSL, HB, hBr⟩ := hrel
      by_cases hlk : k < nl
      · have hkl : k < l.length := by rw [HN.out]; exact hlk
        obtain ⟨x, hx⟩ : ∃ x, l[k] = x := ⟨_, rfl⟩
        have hxk := HCK.out.a _ (List.getElem_mem hkl)
        rw [hx] at hxk
        obtain ⟨x1, xt⟩ := x
        obtain ⟨hx0, hx1, -⟩ := hxk
        simp only at hx0 hx1
        obtain ⟨s, rfl⟩ := Int.eq_ofNat_of_zero_le hx0
        have hsl : s < S.length := by rw [HSL.out]; omega
        have hcD : cacheOf { D with S := S } i = l := HL.out
        obtain ⟨ga, c', e2, hBa, hal, hba, hca, hsa, hd1, hd2, hz1, hz2⟩ := act_cell HA.out hi (k := k) (by rw [hcD]; exact hkl)
        simp only [hcD] at e2 hd1 hd2
        rw [hx] at hd1 hd2
        rw [HN.out, HFI.out] at e2
        obtain ⟨rfl, rfl⟩ : a = some ⟨ga, 0, none⟩ ∧ c = c' := by injection e2 with e1 _ e2; exact ⟨e1, e2⟩
        obtain ⟨gs, caps, rfl, hgB, hgs, hbs, hds, hzs⟩ := act_sector HA.out (s := s) hsl
        have hsa := hsa gs rfl
        have HSLEN : Hid (S.length = D.S.length) := HSL
        have hbx := HA.out.box
        have c0 := hbx.c0
        simp only [HSL.out] at c0 hds
        have s0 : (0 : Int) ≤ (s : Int) := by omega
        have k0 : (0 : Int) ≤ (k : Int) := by omega
        have k1 : (k : Int) < (nl : Int) := by omega
        have HK1 := Lib.hid (show k + 1 ≤ nl by omega)
        have hd3 := hd2
        have m1 : (wr.alloc (.cells #[.int .i64 (s : Int), .string xt] 59)).cell? ⟨wr.heap.size, 0, none⟩ = some (.int .i64 (s : Int)) := (Blk.new wr _ _).cell 0 _ rfl
        have m2 : (wr.alloc (.cells #[.int .i64 (s : Int), .string xt] 59)).cell? ⟨wr.heap.size, 1, none⟩ = some (.string xt) := (Blk.new wr _ _).cell 1 _ rfl
        by_cases hbit : kept / 2 ^ k % 2 = 1
        · have hb1 : (bits .and .u64 ((kept : Int) / 2 ^ min k 64) 1 == 1) = true := by rw [kept_bit hkept, hbit]; rfl
          have HS2 : Hid (crashS D.S l kept = crashS (S.set s xt) (l.drop (k + 1)) (kept / 2 ^ (k + 1))) := by
            have := crash_step HS.out hkl hx
            rwa [if_pos hbit] at this
          have hA2 := HA.out.setS rfl s xt
          have HA2 : Hid (ActAt ((wr.setCell ⟨gs, s, none⟩ (.string xt)).alloc (.cells #[.int .i64 (s : Int), .string xt] 59)).drew B b _ (.slice (some ⟨gc, 0, none⟩) D.C.length cap) vK vF f { D with S := S.set s xt } (i : Int)) := (hA2.up (below_alloc _ _)).drew
          have m0 := Lib.cell?_alloc_some (.cells #[.int .i64 (s : Int), .string xt] 59) c0
          have m3 : ((wr.setCell ⟨gs, s, none⟩ (.string xt)).alloc (.cells #[.int .i64 (s : Int), .string xt] 59)).cell? ⟨b, 0, none⟩ = some (.slice (some ⟨gs, 0, none⟩) D.S.length caps) := by
            have := Lib.cell?_alloc_some (.cells #[.int .i64 (s : Int), .string xt] 59) hA2.box.c0
            simp only [HSL.out] at this
            exact this
          have pb := Blk.new (wr.setCell ⟨gs, s, none⟩ (.string xt)) #[.int .i64 (s : Int), .string xt] 59
          rw [show (wr.setCell ⟨gs, s, none⟩ (.string xt)).heap.size = wr.heap.size by simp] at pb
          have m4 := pb.cell 0 _ rfl
          have m5 := pb.cell 1 _ rfl
          have HB2 : Hid (Below B w ((wr.setCell ⟨gs, s, none⟩ (.string xt)).alloc (.cells #[.int .i64 (s : Int), .string xt] 59)).drew) := ((HB.out.setCell (by simpa using hgB) _).alloc (by simpa using hBr) _).drew
          have HBR2 : Hid (B ≤ ((wr.setCell ⟨gs, s, none⟩ (.string xt)).alloc (.cells #[.int .i64 (s : Int), .string xt] 59)).drew.heap.size) := by show _ ≤ _; simp; omega
          have q4 := World.new_ne wr _ hds
          clear hA2 pb hbx hbit HS HA HB hx hcD hca hkl
          generalize S[s] = tOld at *
          go_wp2_with fail
          go_region_held3 (fun w' => w'.cell? ⟨b, 0, none⟩ = some (.slice (some ⟨gs, 0, none⟩) D.S.length caps) ∧ w'.cell? ⟨wr.heap.size, 0, none⟩ = some (.int .i64 (s : Int)) ∧ w'.cell? ⟨wr.heap.size, 1, none⟩ = some (.string xt)) (first | exact ⟨m0, m1, m2⟩ | exact ⟨m3, m4, m5⟩) (fail)
          clear m0 m1 m2 m3 m4 m5
          go_wp2_with fail
          go_roundw
          case rel => exact ⟨k + 1, S.set s xt, HK1.out, by go_num, HA2, HS2, by show (S.set s xt).length = _; rw [List.length_set]; exact HSLEN.out, HB2, HBR2.out⟩
          case measure => have := HK1.out; simp [intOf]; omega
        · have hb1 : (bits .and .u64 ((kept : Int) / 2 ^ min k 64) 1 == 1) = false := by
            rw [kept_bit hkept]
            exact beq_no (by omega)
          have HS2 : Hid (crashS D.S l kept = crashS S (l.drop (k + 1)) (kept / 2 ^ (k + 1))) := by
            have := crash_step HS.out hkl hx
            rwa [if_neg hbit] at this
          have HA2 := Lib.hid (HA.out.up (below_alloc wr (.cells #[.int .i64 (s : Int), .string xt] 59)))
          have HB2 := Lib.hid (HB.out.alloc hBr (.cells #[.int .i64 (s : Int), .string xt] 59))
          have HBR2 : Hid (B ≤ (wr.alloc (.cells #[.int .i64 (s : Int), .string xt] 59)).heap.size) := by show _ ≤ _; simp; omega
          clear hbx hbit HS HA HB hx hcD hca hkl m1 m2 c0 hds
          go_wp2_with fail
          go_roundw
          case rel => exact ⟨k + 1, S, HK1.out, by go_num, HA2, HS2, HSLEN, HB2, HBR2.out⟩
          case measure => have := HK1.out; simp [intOf]; omega
      · have hkn : k = nl := by omega
        subst hkn
        have HS2 : Hid (crashS D.S l kept = S) := by
          show crashS D.S l kept = S
          rw [HS.out, List.drop_eq_nil_of_le (by rw [HN.out]; exact Nat.le_refl _)]
          rfl
        have hfg := forget_any B b { D with S := S } i wr ⟨_, _, _, _, _, HA.out⟩ hi
        clear HA HS
        go_wp2_with fail
        refine hfg.mono ?_
        rintro e w2 ⟨rfl, h2, hb2⟩
        have H2 := Lib.hid h2
        clear h2 hfg
        go_wp2_with fail
        go_end0
        refine ⟨rfl, ?_, HB.out.trans hb2⟩
        rw [HF.out, HS2.out]
        exact H2.out

end Go.Proofs.Ytleemgjbihdbgaa

/-
  The program's actor: what it flushes: by contract.
-/
namespace Go.Proofs.Ytleemgjbihdbgaa
open Go.RowKit
set_option linter.unusedVariables false
set_option linter.unusedSimpArgs false

theorem eraseIdx_zero (c : Cel) (r : List Cel) : (c :: r).eraseIdx 0 = r := rfl

set_option maxRecDepth 100000 in
set_option maxHeartbeats 4000000 in
theorem flush_any (B b : Nat) (D : Dev) (i : Nat) (w : World) (h : ActorAt w B b D (i : Int)) (hi : i < D.C.length) (hm : MayD D) (hS : Small D 1099511627776) (hB : B ≤ w.heap.size) :
    Calls Try.prog 56 #[.pointer (some ⟨b, 0, none⟩)] w fun e w' => e = .returned (.tuple #[]) ∧ ActorAt w' B b (flushD D i) (i : Int) ∧ Below B w w' := by
  obtain ⟨vS, vC, vK, vF, f, h⟩ := h
  have hbx := h.box
  have hck := cache_ok hm i
  obtain ⟨gc, cap, a, c, rfl, hgl, hcc, hff, hfi, hcm, hlc, hla⟩ := act_cache h hi
  have c1 := hbx.c1
  have c5 := hbx.c5
  have i0 : (0 : Int) ≤ (i : Int) := by omega
  have i1 : (i : Int) < (D.C.length : Int) := by omega
  cases hcs : cacheOf D i with
  | nil =>
    have HF : Hid (flushD D i = D) := by show flushD D i = D; unfold flushD; rw [hcs]
    have HA : Hid (ActorAt w.drew B b D (i : Int)) := ⟨_, _, _, _, _, h.drew⟩
    have hl0 : (cacheOf D i).length = 0 := by rw [hcs]; rfl
    rw [hl0] at hcc
    clear hck hm hcs hl0 hla hlc hfi h hbx
    generalize D.C.length = nC at *
    go_enter Try.func56, Try.ntmps56
    go_wp2_with fail
    go_region_held3 (fun w' => w'.cell? ⟨b, 1, none⟩ = some (.slice (some ⟨gc, 0, none⟩) nC cap) ∧ w'.cell? ⟨b, 5, none⟩ = some (.int .i64 (i : Int)) ∧ w'.cell? ⟨gc, i, none⟩ = some (.slice a 0 c)) (go_keep) (fail)
    go_wp2_with fail
    refine bodyPost_ret (results_none rfl _ _ _) rfl ?_
    refine ⟨rfl, ?_, (Below.refl _ _).drew⟩
    rw [HF.out]
    exact HA.out
  | cons x r =>
    have hlen : (cacheOf D i).length = r.length + 1 := by rw [hcs]; rfl
    have hx := hck.a x (by rw [hcs]; simp)
    obtain ⟨x1, xt⟩ := x
    obtain ⟨hx0, hx1, _⟩ := hx
    simp only at hx0 hx1
    obtain ⟨s, rfl⟩ := Int.eq_ofNat_of_zero_le hx0
    have hsl : s < D.S.length := by omega
    have HF : Hid (flushD D i = { D with S := D.S.set s xt, C := D.C.set i r }) := by
      show flushD D i = _
      unfold flushD
      rw [hcs]
      simp only [Int.toNat_natCast]
    obtain ⟨ga, c', e2, hBa, hal, hba, hca, hsa, hd1, hd2, hz1, hz2⟩ := act_cell h hi (k := 0) (by omega)
    obtain ⟨rfl, rfl⟩ : a = some ⟨ga, 0, none⟩ ∧ c = c' := by rw [hfi] at e2; injection e2 with e1 _ e2; exact ⟨e1, e2⟩
    have hca := hca gc rfl
    have hg0 : (cacheOf D i)[0]'(by omega) = ((s : Int), xt) := by simp [hcs]
    rw [hg0] at hd1 hd2
    simp only [Nat.zero_mul, Nat.zero_add] at hd1 hd2 hz1 hz2
    obtain ⟨gs, caps, rfl, hgB, hgs, hbs, hds, hzs⟩ := act_sector h hsl
    have hsa := hsa gs rfl
    have hHs : (w.alloc (.cells #[.int .i64 (s : Int), .string xt] 59)).heap.size = w.heap.size + 1 := by simp
    -- the world in which the first cell lies in a block of its own, and stands
    obtain ⟨W2, hW2⟩ : ∃ W2, W2 = (w.setCell ⟨gs, s, none⟩ (.string xt)).alloc (.cells #[.int .i64 (s : Int), .string xt] 59) := ⟨_, rfl⟩
    have hA2 := h.setS rfl s xt
    have m3 : ((w.setCell ⟨gs, s, none⟩ (.string xt)).alloc (.cells #[.int .i64 (s : Int), .string xt] 59)).cell? ⟨b, 0, none⟩ = some (.slice (some ⟨gs, 0, none⟩) D.S.length caps) := Lib.cell?_alloc_some _ hA2.box.c0
    have pb := Blk.new (w.setCell ⟨gs, s, none⟩ (.string xt)) #[.int .i64 (s : Int), .string xt] 59
    rw [show (w.setCell ⟨gs, s, none⟩ (.string xt)).heap.size = w.heap.size by simp] at pb
    have m4 := pb.cell 0 _ rfl
    have m5 := pb.cell 1 _ rfl
    clear pb
    have HA2 : Hid (ActorAt W2.drew.drew.drew B b { D with S := D.S.set s xt } (i : Int)) := ⟨_, _, _, _, _, hW2 ▸ (hA2.up (below_alloc _ _)).drew.drew.drew⟩
    have hb2 : Below B w W2.drew.drew.drew := by
      rw [hW2]
      exact (((Below.refl B w).setCell (by simpa using hgB) _).alloc (by simpa using hB) _).drew.drew.drew
    have HB2 := Lib.hid hb2
    have HS : Hid (Small { D with S := D.S.set s xt } 1099511627776) := ⟨by simpa using hS.s, hS.f, hS.k, hS.c, hS.cs⟩
    have HC : Hid (cacheOf { D with S := D.S.set s xt } i = ((s : Int), xt) :: r) := hcs
    have HDR := Lib.hid (drop_any B b { D with S := D.S.set s xt } i 0 W2.drew.drew.drew HA2.out hi (by rw [HC.out]; simp) HS.out)
    have c0 := hbx.c0
    have n1 : ((((cacheOf D i).length : Nat) : Int) == 0) = false := beq_no (by omega)
    have n2 : (0 : Int) < ((cacheOf D i).length : Int) := by omega
    have n3 : 0 < (cacheOf D i).length := by omega
    have s0 : (0 : Int) ≤ (s : Int) := by omega
    have s1 : (s : Int) < (D.S.length : Int) := by omega
    have q0 := World.new_ne w _ c0
    have q1 := World.new_ne w _ c1
    have q2 := World.new_ne w _ hcc
    have q3 := World.new_ne w _ hd1
    have q4 := World.new_ne w _ hds
    clear hck hm hcs hlen hla hlc hfi h hbx e2 hg0 hA2 hb2 hS
    have m0 := Lib.cell?_alloc_some (.cells #[.int .i64 (s : Int), .string xt] 59) c0
    have m1 : (w.alloc (.cells #[.int .i64 (s : Int), .string xt] 59)).cell? ⟨w.heap.size, 0, none⟩ = some (.int .i64 (s : Int)) := (Blk.new w _ _).cell 0 _ rfl
    have m2 : (w.alloc (.cells #[.int .i64 (s : Int), .string xt] 59)).cell? ⟨w.heap.size, 1, none⟩ = some (.string xt) := (Blk.new w _ _).cell 1 _ rfl
    generalize (cacheOf D i).length = nl at *
    generalize D.S[s] = tOld at *
    generalize D.C.length = nC at *
    generalize D.S.length = nS at *
    go_enter Try.func56, Try.ntmps56
    go_wp2_with fail
    go_region_held3 (fun w' => w'.cell? ⟨b, 1, none⟩ = some (.slice (some ⟨gc, 0, none⟩) nC cap) ∧ w'.cell? ⟨b, 5, none⟩ = some (.int .i64 (i : Int)) ∧ w'.cell? ⟨gc, i, none⟩ = some (.slice (some ⟨ga, 0, none⟩) nl c)) (go_keep) (fail)
    go_wp2_with fail
    go_region_held3 (fun w' => w'.cell? ⟨b, 1, none⟩ = some (.slice (some ⟨gc, 0, none⟩) nC cap) ∧ w'.cell? ⟨b, 5, none⟩ = some (.int .i64 (i : Int)) ∧ w'.cell? ⟨gc, i, none⟩ = some (.slice (some ⟨ga, 0, none⟩) nl c) ∧ w'.cell? ⟨ga, 0, none⟩ = some (.int .i64 (s : Int)) ∧ w'.cell? ⟨ga, 1, none⟩ = some (.string xt)) (go_keep) (fail)
    go_wp2_with fail
    go_region_held3 (fun w' => w'.cell? ⟨b, 0, none⟩ = some (.slice (some ⟨gs, 0, none⟩) nS caps) ∧ w'.cell? ⟨w.heap.size, 0, none⟩ = some (.int .i64 (s : Int)) ∧ w'.cell? ⟨w.heap.size, 1, none⟩ = some (.string xt)) (first | exact ⟨m0, m1, m2⟩ | exact ⟨m3, m4, m5⟩) (fail)
    clear m0 m1 m2 m3 m4 m5 q0 q1 q2 q3 q4
    rw [← hW2]
    clear hW2
    have hdr := HDR.out
    rw [HC.out, eraseIdx_zero] at hdr
    clear HA2 HDR
    go_wp2_with fail
    refine hdr.mono ?_
    rintro e w2 ⟨rfl, hA3, hb3⟩
    have HA3 := Lib.hid hA3
    clear hA3 hdr
    go_wp2_with fail
    go_end0
    refine ⟨rfl, ?_, HB2.out.trans hb3⟩
    rw [HF.out]
    exact HA3.out

end Go.Proofs.Ytleemgjbihdbgaa

/-
  The program's actor: a register: by contract.
-/
namespace Go.Proofs.Ytleemgjbihdbgaa
open Go.RowKit
set_option linter.unusedVariables false
set_option linter.unusedSimpArgs false

theorem key6_enc (x : Int) : strOfNums (enc 6 x) = key6 x := by
  unfold strOfNums key6
  have e1 : x / 256 / 256 = x / 65536 := by omega
  have e2 : x / 65536 / 256 = x / 16777216 := by omega
  have e3 : x / 16777216 / 256 = x / 4294967296 := by omega
  have e4 : x / 4294967296 / 256 = x / 1099511627776 := by omega
  simp only [enc, e1, e2, e3, e4, List.range, List.range.loop, List.map_cons, List.map_nil]
  simp

/-- The bytes of a key, of one number put. -/
theorem key_put {key : Int} (h0 : 0 ≤ key) (h1 : key ≤ 1099511627776) {w : World} {e : Ending} {w' : World} (h : PutPost 6 [] [key] w e w') :
    Below w.heap.size w w' ∧ ∃ A c, e = .returned (.tuple #[.slice A 6 c, .int .i64 0]) ∧ Lies w' w'.heap.size A 6 ((enc 6 key).map (Value.int .u8)) := by
  obtain ⟨hb, h2⟩ := h
  have hf : fitsB 6 key = true := fitsB_yes (by omega) (by omega) h0 (by simpa [mostOf] using h1)
  have hx : (mayB 6 && [key].all (fitsB 6)) = true := by simp [hf, mayB]
  rcases h2 with ⟨h3, _⟩ | ⟨_, v, e2, hown⟩
  · rw [hx] at h3; cases h3
  · have e3 : ([] : List Int) ++ encs (6 : Int).toNat [key] = enc 6 key := by simp [encs]
    rw [e3] at hown
    obtain ⟨A, c, rfl, _, _⟩ := own_shape2 hown
    exact ⟨hb, A, c, e2, Lies.of_own hown⟩

set_option maxRecDepth 100000 in
set_option maxHeartbeats 4000000 in
theorem register_any (B b : Nat) (D : Dev) (i : Nat) (w : World) (h : ActorAt w B b D (i : Int)) (hi : i < D.C.length) (hk : i < D.K.length) (h16 : D.K.length ≤ 16) (hn1 : 1 ≤ D.n) (hn2 : D.n < 68719476736) (hB : B ≤ w.heap.size) :
    Calls Try.prog 58 #[.pointer (some ⟨b, 0, none⟩)] w fun e w' => e = .returned (.string (key6 (16 * D.n + (i : Int)))) ∧ ActorAt w' B b (registerD D i) (i : Int) ∧ Below B w w' := by
  obtain ⟨vS, vC, vK, vF, f, h⟩ := h
  have hbx := h.box
  obtain ⟨gk, cap, rfl, hgB, hgl, hne, hd, hz⟩ := act_key h hk
  obtain ⟨key, hkey⟩ : ∃ key, 16 * D.n + (i : Int) = key := ⟨_, rfl⟩
  have hk0 : 0 ≤ key := by omega
  have hk1 : key ≤ 1099511627776 := by omega
  obtain ⟨W, hW⟩ : ∃ W, W = (w.setCell ⟨gk, i, none⟩ (.int .i64 key)).setCell ⟨b, 3, none⟩ (.int .i64 (D.n + 1)) := ⟨_, rfl⟩
  have hA := (h.setK rfl i key).setN (D.n + 1)
  have HB : Hid (Below B w W) := by show Below B w W; rw [hW]; exact ((Below.refl B w).setCell (by simpa using hgB) _).setCell (by simpa using h.hb) _
  have HFG : Hid (Calls Try.prog 62 #[.pointer (some ⟨b, 0, none⟩)] W.drew.drew fun e w' => e = .returned (.tuple #[]) ∧ ActorAt w' B b (registerD D i) (i : Int) ∧ Below B w w') := by
    have hl : Below W.heap.size W W.drew.drew := (Below.refl _ _).drew.drew
    have hA2 : ActorAt W.drew.drew B b { D with K := D.K.set i key, n := D.n + 1 } (i : Int) := ⟨_, _, _, _, _, (hW ▸ hA).up hl⟩
    refine (forget_any B b _ i _ hA2 hi).mono ?_
    rintro e w' ⟨rfl, h2, h3⟩
    refine ⟨rfl, ?_, HB.out.drew.drew.trans h3⟩
    unfold registerD
    rw [hkey]
    exact h2
  have HKEY : Hid (key6 (16 * D.n + (i : Int)) = strOfNums (enc 6 key)) := by show key6 _ = _; rw [hkey, key6_enc]
  have c2 := hbx.c2
  have c3 := hbx.c3
  have c5 := hbx.c5
  have f3 := h.a.free 3
  have i0 : (0 : Int) ≤ (i : Int) := by omega
  have i1 : (i : Int) < (D.K.length : Int) := by omega
  have hne2 : gk ≠ b := fun e => hne e.symm
  have w1 : IntKind.i64.wrap (16 * D.n) = 16 * D.n := IntWalk.i64_in _ (by omega)
  have w2 : IntKind.i64.wrap (16 * D.n + (i : Int)) = key := by rw [hkey]; exact IntWalk.i64_in _ (by omega)
  have n1 : 1 ≤ D.n + 1 := by omega
  have n2 : D.n + 1 ≤ 68719476736 := by omega
  generalize D.K[i] = kOld at *
  generalize D.K.length = nK at *
  rw [hkey]
  clear h hbx hA hkey
  generalize D.n = n at *
  go_enter Try.func58, Try.ntmps58
  go_wp2_with fail
  go_region_held3 (fun w' => w'.cell? ⟨b, 3, none⟩ = some (.int .i64 n) ∧ w'.cell? ⟨b, 5, none⟩ = some (.int .i64 (i : Int))) (go_keep) (fail)
  clear w1 w2
  go_wp2_with fail
  go_region_held3 (fun w' => w'.cell? ⟨b, 2, none⟩ = some (.slice (some ⟨gk, 0, none⟩) nK cap) ∧ w'.cell? ⟨b, 5, none⟩ = some (.int .i64 (i : Int))) (go_keep) (fail)
  go_wp2_with fail
  rw [← hW]
  refine HFG.out.mono ?_
  rintro e w3 ⟨rfl, hA3, hb3⟩
  have HA3 := Lib.hid hA3
  have HB3 := Lib.hid hb3
  clear hA3 hb3 HFG hW HB c2 c3 c5 f3 hd hz
  obtain ⟨WP, hWP⟩ : ∃ WP, WP = w3.alloc (.cells #[.int .i64 key] 3) := ⟨_, rfl⟩
  have hbP : Below w3.heap.size w3 WP := hWP ▸ below_alloc w3 _
  have hput := numPut_any 6 none (some ⟨w3.heap.size, 0, none⟩) 0 1 0 1 [] [key] WP ⟨rfl, fun h => by omega⟩ (by
    rw [hWP]
    exact lies_one w3 key _) (by omega) (by omega)
  go_wp2_with fail
  rw [← hWP]
  clear hWP
  refine hput.mono ?_
  intro e w4 hpost
  obtain ⟨hb4, A, c, rfl, hL⟩ := key_put hk0 hk1 hpost
  have HB4 := Lib.hid hb4
  have HL := Lib.hid hL
  have hcv : (convert 49 9 (.slice A 6 c)).run Try.prog w4 = .ok (.string (strOfNums (enc 6 key))) w4 :=
    conv_lies 49 9 5 Try.underlying49 Try.underlying5 Try.underlying9 hL
  clear hpost hb4 hL hput
  go_wp2_with fail
  go_ret
  have hb5 : Below w3.heap.size w3 w4 := hbP.trans (HB4.out.mono hbP.size)
  refine ⟨by rw [← key6_enc]; rfl, HA3.out.up hb5, HB3.out.trans (hb5.mono ?_)⟩
  exact Nat.le_trans hB HB3.out.size

end Go.Proofs.Ytleemgjbihdbgaa
