/- Joined: DevActA, DevActB, DevActD, DevActC. -/
import Derived.Test.YtleemgjbihdbgaaDevCopy
import Derived.Test.YtleemgjbihdbgaaJoinDevRefCheckNo
import Derived.Test.YtleemgjbihdbgaaDevPlay
import Derived.Deep.RegionWith
/-
  The program's actor: a node at a copy; whether it is there, is fenced, takes an act; why it refuses; where its cache has a sector: by contract.
-/
namespace Go.Proofs.Ytleemgjbihdbgaa
open Go.RowKit
set_option linter.unusedVariables false
set_option linter.unusedSimpArgs false

set_option maxRecDepth 100000 in
set_option maxHeartbeats 1000000 in
theorem at_any (v : Value) (D : Dev) (node : Int) (w : World) (hD : DevAt w w.heap.size v D) (hS : Small D 1099511627776) :
    Calls Try.prog 34 #[v, .int .i64 node] w fun e w' => ∃ b, e = .returned (.pointer (some ⟨b, 0, none⟩)) ∧ ActorAt w' w.heap.size b D node ∧ Below w.heap.size w w' := by
  obtain ⟨vS, vC, vK, vF, e1, _⟩ := id hD
  obtain ⟨W0, hW⟩ : ∃ W0, W0 = w.alloc (.cells #[vS, vC, vK, .int .i64 D.n, vF] 29) := ⟨_, rfl⟩
  have hb0 : Below w.heap.size w W0 := hW ▸ below_alloc w _
  have hsz : w.heap.size < W0.heap.size := by rw [hW]; simp
  have hc := copied_any _ D W0 (hD.up hb0) hS
  subst e1
  clear hD
  go_enter Try.func34, Try.ntmps34
  go_wp2_with fail
  rw [← hW]
  refine hc.mono ?_
  rintro e w1 ⟨uS, uC, uK, uF, f, rfl, hown, hb1⟩
  clear hc hW
  have HO := Lib.hid hown
  clear hown
  go_wp2_with fail
  go_ret
  have ha := below_alloc w1 (.cells #[uS, uC, uK, .int .i64 D.n, uF, .int .i64 node] 73)
  have h1 := hb1.size
  exact ⟨_, rfl, ⟨uS, uC, uK, uF, f, (HO.out.up ha).less (by omega), Blk.new w1 _ _, by omega⟩, (below_then hb0 hb1).trans (ha.mono (by omega))⟩

theorem ActorAt.dev {w : World} {B b : Nat} {vS vC vK vF : Value} {f : Nat → Value} {D : Dev} {node : Int} (h : ActAt w B b vS vC vK vF f D node) : DevAt w w.heap.size (.agg #[vS, vC, vK, .int .i64 D.n, vF]) D := h.d.dev
theorem Box6.below {w w' : World} {b B : Nat} {vS vC vK vF : Value} {n node : Int} (h : Box6 w b vS vC vK n vF node) (hb : Below B w w') (hB : b < B) : Box6 w' b vS vC vK n vF node := by
  have key : ∀ o, w'.cell? ⟨b, o, none⟩ = w.cell? ⟨b, o, none⟩ := fun o => hb.cell (p := ⟨b, o, none⟩) hB
  exact ⟨(key _).trans h.c0, (key _).trans h.c1, (key _).trans h.c2, (key _).trans h.c3, (key _).trans h.c4, (key _).trans h.c5⟩

set_option maxRecDepth 100000 in
set_option maxHeartbeats 2000000 in
theorem isThere_any (B b : Nat) (D : Dev) (node : Int) (w : World) (h : ActorAt w B b D node) (hm : MayD D) (hS : Small D 1099511627776) (h0 : 0 ≤ node) :
    Calls Try.prog 38 #[.pointer (some ⟨b, 0, none⟩)] w fun e w' => e = .returned (.bool (decide (NodeOk D node))) ∧ Below w.heap.size w w' := by
  obtain ⟨vS, vC, vK, vF, f, h⟩ := h
  have hbx := h.box
  have hlt := h.a.lt
  have hdev := h.d.dev
  obtain ⟨aK, cK, rfl, _, _⟩ := own_shape2 h.d.k
  have hs : sMayB D.S = true := (sMay_iff _).2 ⟨hm.s1, hm.ss⟩
  have hc := (may_any _ D true w.drew (hdev.up ((Below.refl w.heap.size w).drew)) hS.s hs (fun _ => hm)).mono (R' := fun e w' => e = .returned (.bool true) ∧ Box6 w' b vS vC (.slice aK D.K.length cK) D.n vF node ∧ Below w.heap.size w w') (by
    rintro e w' ⟨rfl, hb⟩
    have hb' : Below w.heap.size w w' := ((Below.refl w.heap.size w).drew).trans hb
    exact ⟨rfl, hbx.below hb' hlt, hb'⟩)
  have HK := hm.k16
  clear hm hS hs hdev h
  generalize hn : D.K.length = nK at *
  have c0 := hbx.c0
  have c1 := hbx.c1
  have c2 := hbx.c2
  have c3 := hbx.c3
  have c4 := hbx.c4
  have c5 := hbx.c5
  by_cases h1 : node < (nK : Int)
  · have HO : Hid (decide (NodeOk D node) = true) := decide_eq_true ⟨h0, by rw [hn]; exact h1⟩
    go_enter Try.func38, Try.ntmps38
    go_wp2_with fail
    go_region_held3 (fun w' => w'.cell? ⟨b, 0, none⟩ = some vS ∧ w'.cell? ⟨b, 1, none⟩ = some vC ∧ w'.cell? ⟨b, 2, none⟩ = some (.slice aK nK cK) ∧ w'.cell? ⟨b, 3, none⟩ = some (.int .i64 D.n) ∧ w'.cell? ⟨b, 4, none⟩ = some vF ∧ w'.cell? ⟨b, 5, none⟩ = some (.int .i64 node)) (go_keep)
      (first | (go_at_call 21; refine hc.mono ?_; rintro e w1 ⟨rfl, ⟨k0, k1, k2, k3, k4, k5⟩, hb1⟩))
    go_wp2_with fail
    go_ret
    exact ⟨by rw [HO.out]; rfl, hb1⟩
  · have HO : Hid (decide (NodeOk D node) = false) := decide_eq_false fun h => h1 (by rw [← hn]; exact h.2)
    have hd : decide (node < (nK : Int)) = false := decide_eq_false h1
    go_enter Try.func38, Try.ntmps38
    go_wp2_with fail
    go_region_held3 (fun w' => w'.cell? ⟨b, 0, none⟩ = some vS ∧ w'.cell? ⟨b, 1, none⟩ = some vC ∧ w'.cell? ⟨b, 2, none⟩ = some (.slice aK nK cK) ∧ w'.cell? ⟨b, 3, none⟩ = some (.int .i64 D.n) ∧ w'.cell? ⟨b, 4, none⟩ = some vF ∧ w'.cell? ⟨b, 5, none⟩ = some (.int .i64 node)) (go_keep)
      (first | (go_at_call 21; refine hc.mono ?_; rintro e w1 ⟨rfl, ⟨k0, k1, k2, k3, k4, k5⟩, hb1⟩))
    go_wp2_with fail
    go_ret
    exact ⟨by rw [HO.out]; rfl, hb1⟩

theorem lies_one (w : World) (x : Int) (T : TypeId) : Lies ((w.alloc (.cells #[.int .i64 x] T)).drew) (w.alloc (.cells #[.int .i64 x] T)).heap.size (some ⟨w.heap.size, 0, none⟩) 1 ([x].map (Value.int .i64)) := by
  refine ⟨rfl, fun _ => ⟨_, rfl, by simp, fun j u hj => ?_⟩⟩
  exact cell_new w (.int .i64 x) T j u hj

set_option maxRecDepth 100000 in
set_option maxHeartbeats 2000000 in
theorem isOut_any (B b : Nat) (D : Dev) (i : Nat) (w : World) (h : ActorAt w B b D (i : Int)) (hi : i < D.K.length) (hk16 : D.K.length ≤ 1099511627776) :
    Calls Try.prog 51 #[.pointer (some ⟨b, 0, none⟩)] w fun e w' => e = .returned (.bool (fencedK D (keyOf D i))) ∧ Below w.heap.size w w' := by
  obtain ⟨vS, vC, vK, vF, f, h⟩ := h
  have hbx := h.box
  have hlt := h.a.lt
  obtain ⟨gk, cap, e1, _, _⟩ := h.d.k.form (by omega)
  subst e1
  obtain ⟨x, hx⟩ : ∃ x, D.K[i]'hi = x := ⟨_, rfl⟩
  have hkey : keyOf D i = x := by unfold keyOf; rw [List.getD, List.getElem?_eq_getElem hi, hx]; rfl
  have ck : w.cell? ⟨gk, i, none⟩ = some (.int .i64 x) := by rw [h.d.k.cellAt i (by omega), List.getElem?_map, List.getElem?_eq_getElem hi, hx]; rfl
  have hgl : gk < w.heap.size := (h.d.k.lt gk rfl).2
  have hba : Below w.heap.size w ((w.alloc (.cells #[.int .i64 x] 3)).drew) := ((Below.refl _ _).alloc (Nat.le_refl _) _).drew
  have hc := (isFenced_any _ D (some ⟨w.heap.size, 0, none⟩) 1 1 [x] ((w.alloc (.cells #[.int .i64 x] 3)).drew) (h.d.dev.up hba) (lies_one w x _) rfl (by unfold maxLen; omega)).mono (R' := fun e w' => e = .returned (.bool (fencedK D x)) ∧ Box6 w' b vS vC (.slice (some ⟨gk, 0, none⟩) D.K.length cap) D.n vF i ∧ w'.cell? ⟨gk, i, none⟩ = some (.int .i64 x) ∧ Below w.heap.size w w') (by
    rintro e w' ⟨rfl, hb⟩
    have hb' : Below w.heap.size w w' := below_then hba hb
    exact ⟨by rw [fencedAny_one], hbx.below hb' hlt, (hb'.cell (p := ⟨gk, i, none⟩) hgl).trans ck, hb'⟩)
  rw [hkey]
  generalize fencedK D x = q at *
  clear h hkey hx
  have c0 := hbx.c0
  have c1 := hbx.c1
  have c2 := hbx.c2
  have c3 := hbx.c3
  have c4 := hbx.c4
  have c5 := hbx.c5
  have a0 := World.new_ne w _ c0
  have a1 := World.new_ne w _ c1
  have a2 := World.new_ne w _ c2
  have a3 := World.new_ne w _ c3
  have a4 := World.new_ne w _ c4
  have a5 := World.new_ne w _ c5
  have a6 := World.new_ne w _ ck
  have i0 : (0 : Int) ≤ (i : Int) := by omega
  have i1 : (i : Int) < (D.K.length : Int) := by omega
  generalize D.K.length = nK at *
  go_enter Try.func51, Try.ntmps51
  go_wp2_with fail
  go_region_held3 (fun w' => w'.cell? ⟨b, 0, none⟩ = some vS ∧ w'.cell? ⟨b, 1, none⟩ = some vC ∧ w'.cell? ⟨b, 2, none⟩ = some (.slice (some ⟨gk, 0, none⟩) nK cap) ∧ w'.cell? ⟨b, 3, none⟩ = some (.int .i64 D.n) ∧ w'.cell? ⟨b, 4, none⟩ = some vF ∧ w'.cell? ⟨b, 5, none⟩ = some (.int .i64 (i : Int)) ∧ w'.cell? ⟨gk, i, none⟩ = some (.int .i64 x)) (go_keep)
    (first | (go_at_call 37; refine hc.mono ?_; rintro e w1 ⟨rfl, ⟨k0, k1, k2, k3, k4, k5⟩, k6, hb1⟩))
  go_wp2_with fail
  go_ret
  exact ⟨rfl, hb1⟩

end Go.Proofs.Ytleemgjbihdbgaa

/-
  The program's actor: whether it takes an act; why it refuses one: by contract.
-/
namespace Go.Proofs.Ytleemgjbihdbgaa
open Go.RowKit
set_option linter.unusedVariables false
set_option linter.unusedSimpArgs false

/-- An act as a value. -/
def actV (a : ActM) : Value := .agg #[.int .i8 a.k, .int .i64 a.s, .string a.b, .int .i64 a.key]
def takesB (D : Dev) (a : ActM) : Bool := decide (¬ (a.k < 1 ∨ 6 < a.k) ∧ ¬ (((a.k = 2 ∨ a.k = 3) ∧ 512 < a.b.size) ∨ (a.k = 5 ∧ ¬ Given D.K.length D.n a.key) ∨ (a.k = 6 ∧ 68719476736 ≤ D.n)))
theorem takes_no {D : Dev} {a : ActM} (i : Nat) (h : takesB D a = false) : actE D i a = 2 := by
  unfold takesB at h
  rw [decide_eq_false_iff_not] at h
  unfold actE
  by_cases h1 : a.k < 1 ∨ 6 < a.k
  · rw [if_pos h1]
  · rw [if_neg h1]
    by_cases h2 : ((a.k = 2 ∨ a.k = 3) ∧ 512 < a.b.size) ∨ (a.k = 5 ∧ ¬ Given D.K.length D.n a.key) ∨ (a.k = 6 ∧ 68719476736 ≤ D.n)
    · rw [if_pos h2]
    · exact absurd ⟨h1, h2⟩ h
theorem takes_yes {D : Dev} {a : ActM} (i : Nat) (h : takesB D a = true) : actE D i a = (if a.k ≠ 6 ∧ fencedK D (keyOf D i) = true then 61 else if (a.k = 1 ∨ a.k = 2 ∨ a.k = 3) ∧ ¬ (0 ≤ a.s ∧ a.s < (D.S.length : Int)) then 60 else 0) ∧ 1 ≤ a.k ∧ a.k ≤ 6 := by
  unfold takesB at h
  rw [decide_eq_true_eq] at h
  unfold actE
  rw [if_neg h.1, if_neg h.2]
  have := h.1
  exact ⟨rfl, by omega, by omega⟩

/-- Bounds of an act's numbers. -/
structure ActBd (a : ActM) : Prop where
  k0 : -128 ≤ a.k
  k1 : a.k ≤ 127
  s0 : -9223372036854775808 ≤ a.s
  s1 : a.s ≤ 9223372036854775807
  e0 : -9223372036854775808 ≤ a.key
  e1 : a.key ≤ 9223372036854775807

set_option maxRecDepth 100000 in
set_option maxHeartbeats 4000000 in
theorem takes_any (B b : Nat) (D : Dev) (node : Int) (a : ActM) (w : World) (h : ActorAt w B b D node) (ha : ActBd a) :
    Calls Try.prog 50 #[.pointer (some ⟨b, 0, none⟩), actV a] w fun e w' => e = .returned (.bool (takesB D a)) ∧ Below w.heap.size w w' := by
  obtain ⟨k, s, t, key⟩ := a
  obtain ⟨vS, vC, vK, vF, f, h⟩ := h
  obtain ⟨W0, hW⟩ : ∃ W0, W0 = w.alloc (.cells #[.int .i8 k, .int .i64 s, .string t, .int .i64 key] 38) := ⟨_, rfl⟩
  have hb0 : Below w.heap.size w W0 := hW ▸ below_alloc w _
  have p0 : Blk W0 w.heap.size #[.int .i8 k, .int .i64 s, .string t, .int .i64 key] 38 := hW ▸ Blk.new w _ _
  have h2 := h.up hb0
  have hbx := h2.box
  have hbo := h.box
  have hlt := h2.a.lt
  have e0 : -9223372036854775808 ≤ key := ha.e0
  have e1 : key ≤ 9223372036854775807 := ha.e1
  show Calls _ _ #[_, .agg #[.int .i8 k, .int .i64 s, .string t, .int .i64 key]] _ _
  by_cases k1 : k = 1 ∨ k = 4
  · have HO : Hid (takesB D ⟨k, s, t, key⟩ = true) := decide_eq_true (by simp only; rcases k1 with rfl | rfl <;> simp)
    rcases k1 with rfl | rfl
    all_goals go_enter Try.func50, Try.ntmps50
    all_goals go_wp2_with fail
    all_goals go_ret
    all_goals exact ⟨by rw [HO.out]; rfl, hW ▸ hb0⟩
  by_cases k2 : k = 2 ∨ k = 3
  · have HO : Hid (takesB D ⟨k, s, t, key⟩ = !(tooL t)) := by
      show takesB D ⟨k, s, t, key⟩ = _
      unfold takesB tooL
      rcases k2 with rfl | rfl <;> by_cases h5 : 512 < t.size <;> simp [h5] <;> omega
    have hc := tooLong_any t
    rcases k2 with rfl | rfl
    all_goals go_enter Try.func50, Try.ntmps50
    all_goals go_wp2_with fail
    all_goals refine (hc _).mono ?_
    all_goals rintro e w' ⟨rfl, rfl⟩
    all_goals go_wp2_with fail
    all_goals go_ret
    all_goals exact ⟨by rw [HO.out]; rfl, hW ▸ hb0⟩
  by_cases k5 : k = 5
  · subst k5
    have HO : Hid (takesB D ⟨5, s, t, key⟩ = decide (Given D.K.length D.n key)) := by
      show takesB D ⟨5, s, t, key⟩ = _
      unfold takesB
      simp
    have hc := (given_any _ D key _ W0.drew ((h2.d.dev).up ((Below.refl W0.heap.size W0).drew)) e0 e1).mono (R' := fun e w' => e = .returned (.bool (decide (Given D.K.length D.n key))) ∧ Box6 w' b vS vC vK D.n vF node ∧ w'.cell? ⟨w.heap.size, 3, none⟩ = some (.int .i64 key) ∧ Below w.heap.size w w') (by
      rintro e w' ⟨rfl, hb⟩
      have hb' : Below W0.heap.size W0 w' := ((Below.refl W0.heap.size W0).drew).trans hb
      exact ⟨rfl, hbx.below hb' hlt, (p0.below hb' p0.lt).cell 3 _ rfl, below_then hb0 hb'⟩)
    generalize decide (Given D.K.length D.n key) = q at *
    have c0 := hbx.c0
    have c1 := hbx.c1
    have c2 := hbx.c2
    have c3 := hbx.c3
    have c4 := hbx.c4
    have c5 := hbx.c5
    have c6 := p0.cell 3 _ rfl
    clear hbx hbo p0 h h2 hb0
    go_enter Try.func50, Try.ntmps50
    go_wp2_with fail
    rw [← hW]
    clear hW
    go_region_held3 (fun w' => w'.cell? ⟨b, 0, none⟩ = some vS ∧ w'.cell? ⟨b, 1, none⟩ = some vC ∧ w'.cell? ⟨b, 2, none⟩ = some vK ∧ w'.cell? ⟨b, 3, none⟩ = some (.int .i64 D.n) ∧ w'.cell? ⟨b, 4, none⟩ = some vF ∧ w'.cell? ⟨w.heap.size, 3, none⟩ = some (.int .i64 key)) (go_keep)
      (first | (go_at_call 65; refine hc.mono ?_; rintro e w1 ⟨rfl, ⟨k0, k1, k2, k3, k4, k5⟩, k6, hb1⟩))
    go_wp2_with fail
    go_ret
    exact ⟨by rw [HO.out]; rfl, hb1⟩
  by_cases k6 : k = 6
  · subst k6
    have HO : Hid (takesB D ⟨6, s, t, key⟩ = decide (D.n < 68719476736)) := by
      show takesB D ⟨6, s, t, key⟩ = _
      unfold takesB
      simp
    have c3 := hbx.c3
    rw [hW] at c3
    clear hbx hbo p0 h h2
    go_enter Try.func50, Try.ntmps50
    go_wp2_with fail

    go_ret
    exact ⟨by rw [HO.out]; rfl, hW ▸ hb0⟩
  · have HO : Hid (takesB D ⟨k, s, t, key⟩ = false) := decide_eq_false (by simp only; omega)
    have b1 : (k == 1) = false := beq_no (by omega)
    have b2 : (k == 2) = false := beq_no (by omega)
    have b3 : (k == 3) = false := beq_no (by omega)
    have b4 : (k == 4) = false := beq_no (by omega)
    have b5 : (k == 5) = false := beq_no (by omega)
    have b6 : (k == 6) = false := beq_no (by omega)
    clear k1 k2 k5 k6
    go_enter Try.func50, Try.ntmps50
    go_wp2_with fail
    go_ret
    exact ⟨by rw [HO.out]; rfl, hW ▸ hb0⟩

end Go.Proofs.Ytleemgjbihdbgaa

/-
  The program's actor: where its cache has a sector; what it reads: by contract.
-/
namespace Go.Proofs.Ytleemgjbihdbgaa
open Go.RowKit
set_option linter.unusedVariables false
set_option linter.unusedSimpArgs false

theorem place1_any (x : Int) (t : ByteArray) (q : Nat) (s : Int) (w : World) (hq : w.cell? ⟨q, 0, none⟩ = some (.int .i64 s)) :
    Calls Try.prog 78 #[.agg #[.int .i64 x, .string t], .pointer (some ⟨q, 0, none⟩)] w fun e w' => e = .returned (.bool (x == s)) ∧ Below w.heap.size w w' := by
  have h2 : (w.alloc (.cells #[.int .i64 x, .string t] 59)).cell? ⟨q, 0, none⟩ = some (.int .i64 s) := Lib.cell?_alloc_some _ hq
  have hb := below_alloc w (.cells #[.int .i64 x, .string t] 59)
  go_enter Try.func78, Try.ntmps78
  go_wp2_with fail
  go_ret
  exact ⟨rfl, hb⟩

set_option maxRecDepth 100000 in
set_option maxHeartbeats 1000000 in
theorem idxCell_any (A : Option Addr) (n c B : Nat) (l : List Cel) (q : Nat) (s : Int) (w : World) (hA : Lies w B A (n * 2) (celV l)) (hB : B ≤ w.heap.size) (hl : l.length = n) (hn : n ≤ maxLen) (hq : w.cell? ⟨q, 0, none⟩ = some (.int .i64 s)) (hql : q < w.heap.size) :
    Calls Try.prog 77 #[.slice A n c, .func (.func 78) #[] #[.pointer (some ⟨q, 0, none⟩)]] w fun e w' => e = .returned (.int .i64 (placeI l s)) ∧ Below w.heap.size w w' := by
  unfold maxLen at hn
  have HQ := Lib.hid hq
  clear hq
  go_enter Try.func77, Try.ntmps77
  go_wp2_with fail
  go_loopw [5, 8] (fun _ i wr => ∃ k : Nat, k ≤ n ∧ i = .int .i64 (k : Int) ∧ Below w.heap.size w wr ∧ Hid (∀ j : Nat, j < k → ∀ h : j < l.length, (l[j]).1 ≠ s)) (fun _ i _ => n - (intOf i).toNat)
  case atStart => exact ⟨0, Nat.zero_le _, rfl, Below.refl _ _, fun j hj => by omega⟩
  case round =>
    obtain ⟨k, hk, rfl, hbr, HP⟩ := hrel
    by_cases hlt : k < n
    · obtain ⟨ad, e1, hb, h1, h2⟩ := cel_at (hA.keep fun p hp => hbr.cell (by omega)) hl hlt
      subst e1
      have h3 := h2
      rw [← add_twice, add_one] at h3
      obtain ⟨x, hx⟩ : ∃ x, l[k]'(by omega) = x := ⟨_, rfl⟩
      rw [hx] at h1 h2 h3
      have hcall := place1_any x.1 x.2 q s wr ((hbr.cell (p := ⟨q, 0, none⟩) hql).trans HQ.out)
      cases hs : x.1 == s with
      | true =>
        rw [hs] at hcall
        have HF := Lib.hid (place_found (l := l) (s := s) (k := k) (by omega) (by rw [hx]; exact hs) HP.out)
        clear hx
        go_wp2_with fail
        refine hcall.mono ?_
        rintro e w' ⟨rfl, hb2⟩
        go_wp2_with fail
        go_ret
        exact ⟨by rw [HF.out]; rfl, below_then hbr hb2⟩
      | false =>
        rw [hs] at hcall
        have HP' : Hid (∀ j : Nat, j < k + 1 → ∀ h : j < l.length, (l[j]).1 ≠ s) := fun j hj h => by
          by_cases e : j = k
          · subst e; rw [hx]; simpa using hs
          · exact HP.out j (by omega) h
        clear HP hx
        go_wp2_with fail
        refine hcall.mono ?_
        rintro e w' ⟨rfl, hb2⟩
        go_wp2_with fail
        go_roundw
        case rel => exact ⟨k + 1, by omega, by go_num, below_then hbr hb2, HP'⟩
        case measure => simp [intOf]; omega
    · have hkn : k = n := by omega
      have HF := Lib.hid (place_missed (l := l) (s := s) (fun j hj h => HP.out j (by omega) h))
      go_wp2_with fail
      go_ret
      exact ⟨by rw [HF.out]; rfl, hbr⟩

/-- What is needed of an actor's own cache. -/
theorem act_cache {w : World} {B b : Nat} {vS vC vK vF : Value} {f : Nat → Value} {D : Dev} {node : Int} (h : ActAt w B b vS vC vK vF f D node) {i : Nat} (hi : i < D.C.length) :
    ∃ gc cap a c, vC = .slice (some ⟨gc, 0, none⟩) D.C.length cap ∧ gc < w.heap.size ∧ w.cell? ⟨gc, i, none⟩ = some (.slice a (cacheOf D i).length c) ∧ w.frozen? ⟨gc, i, none⟩ = false ∧ f i = .slice a (cacheOf D i).length c ∧ c ≤ maxLen ∧ (cacheOf D i).length ≤ c ∧ Lies w w.heap.size a ((cacheOf D i).length * 2) (celV (cacheOf D i)) := by
  obtain ⟨gc, cap, e, _, h2⟩ := h.d.c.form (by omega)
  obtain ⟨a, c, e2, h3, h4⟩ := own_shape2 (h.d.cs i hi)
  have hc := h.d.c
  have hcs := h.d.cs i hi
  rw [e] at hc
  rw [e2] at hcs
  refine ⟨gc, cap, a, c, e, h2, ?_, hc.frozenAt i, e2, h4, h3, lies_own2 hcs⟩
  rw [hc.cellAt i (by omega), List.getElem?_map, List.getElem?_range hi]
  show some (f i) = _
  rw [e2]
  rfl

set_option maxRecDepth 100000 in
set_option maxHeartbeats 2000000 in
theorem actPlace_any (B b : Nat) (D : Dev) (i : Nat) (s : Int) (w : World) (h : ActorAt w B b D (i : Int)) (hi : i < D.C.length) :
    Calls Try.prog 69 #[.pointer (some ⟨b, 0, none⟩), .int .i64 s] w fun e w' => e = .returned (.int .i64 (placeI (cacheOf D i) s)) ∧ Below w.heap.size w w' := by
  obtain ⟨vS, vC, vK, vF, f, h⟩ := h
  obtain ⟨W0, hW⟩ : ∃ W0, W0 = w.alloc (.cells #[.int .i64 s] 3) := ⟨_, rfl⟩
  have hb0 : Below w.heap.size w W0 := hW ▸ below_alloc w _
  have p0 : Blk W0 w.heap.size #[.int .i64 s] 3 := hW ▸ Blk.new w _ _
  have h0 := h.up hb0
  have hlt := h0.a.lt
  have hbx := h0.box
  obtain ⟨gc, cap, a, c, rfl, hgl, hcc, _, _, hcm, _, hla⟩ := act_cache h0 hi
  have hc := (idxCell_any a (cacheOf D i).length c W0.heap.size (cacheOf D i) w.heap.size s W0.drew hla (Nat.le_refl _) rfl (by omega) (p0.cell 0 _ rfl) p0.lt).mono (R' := fun e w' => e = .returned (.int .i64 (placeI (cacheOf D i) s)) ∧ w'.cell? ⟨b, 1, none⟩ = some (.slice (some ⟨gc, 0, none⟩) D.C.length cap) ∧ w'.cell? ⟨b, 5, none⟩ = some (.int .i64 (i : Int)) ∧ w'.cell? ⟨gc, i, none⟩ = some (.slice a (cacheOf D i).length c) ∧ Below w.heap.size w w') (by
    rintro e w' ⟨rfl, hb⟩
    have hb' : Below W0.heap.size W0 w' := ((Below.refl W0.heap.size W0).drew).trans hb
    exact ⟨rfl, (hbx.below hb' hlt).c1, (hbx.below hb' hlt).c5, (hb'.cell (p := ⟨gc, i, none⟩) hgl).trans hcc, below_then hb0 hb'⟩)
  generalize cacheOf D i = l at *
  generalize placeI l s = r at *
  have c1 := hbx.c1
  have c5 := hbx.c5
  have i0 : (0 : Int) ≤ (i : Int) := by omega
  have i1 : (i : Int) < (D.C.length : Int) := by omega
  generalize D.C.length = nC at *
  clear h h0 hbx hla p0
  go_enter Try.func69, Try.ntmps69
  go_wp2_with fail
  rw [← hW]
  clear hW
  go_region_held3 (fun w' => w'.cell? ⟨b, 1, none⟩ = some (.slice (some ⟨gc, 0, none⟩) nC cap) ∧ w'.cell? ⟨b, 5, none⟩ = some (.int .i64 (i : Int)) ∧ w'.cell? ⟨gc, i, none⟩ = some (.slice a l.length c)) (go_keep)
    (first | (go_at_call 77; refine hc.mono ?_; rintro e w1 ⟨rfl, k0, k1, k2, hb1⟩))
  go_wp2_with fail
  go_ret
  exact ⟨rfl, hb1⟩

end Go.Proofs.Ytleemgjbihdbgaa

/-
  The program's actor: why it refuses an act: by contract.
-/
namespace Go.Proofs.Ytleemgjbihdbgaa
open Go.RowKit
set_option linter.unusedVariables false
set_option linter.unusedSimpArgs false

def refE (D : Dev) (node : Int) (a : ActM) : Int := if NodeOk D node then actE D node.toNat a else 2
structure Box4 (w : World) (b : Nat) (k s : Int) (t : ByteArray) (key : Int) : Prop where
  c0 : w.cell? ⟨b, 0, none⟩ = some (.int .i8 k)
  c1 : w.cell? ⟨b, 1, none⟩ = some (.int .i64 s)
  c2 : w.cell? ⟨b, 2, none⟩ = some (.string t)
  c3 : w.cell? ⟨b, 3, none⟩ = some (.int .i64 key)
theorem Box4.below {w w' : World} {b B : Nat} {k s key : Int} {t : ByteArray} (h : Box4 w b k s t key) (hb : Below B w w') (hB : b < B) : Box4 w' b k s t key := by
  have key : ∀ o, w'.cell? ⟨b, o, none⟩ = w.cell? ⟨b, o, none⟩ := fun o => hb.cell (p := ⟨b, o, none⟩) hB
  exact ⟨(key _).trans h.c0, (key _).trans h.c1, (key _).trans h.c2, (key _).trans h.c3⟩
theorem Box4.new (w : World) (k s key : Int) (t : ByteArray) (T : TypeId) : Box4 (w.alloc (.cells #[.int .i8 k, .int .i64 s, .string t, .int .i64 key] T)) w.heap.size k s t key := by
  have p := Blk.new w #[.int .i8 k, .int .i64 s, .string t, .int .i64 key] T
  exact ⟨p.cell 0 _ rfl, p.cell 1 _ rfl, p.cell 2 _ rfl, p.cell 3 _ rfl⟩

set_option maxRecDepth 100000 in
set_option maxHeartbeats 8000000 in
theorem refuses_any (B b : Nat) (D : Dev) (node : Int) (a : ActM) (w : World) (h : ActorAt w B b D node) (hm : MayD D) (hS : Small D 1099511627776) (ha : ActBd a) (h0 : 0 ≤ node) :
    Calls Try.prog 35 #[.pointer (some ⟨b, 0, none⟩), actV a] w fun e w' => e = .returned (.int .i64 (refE D node a)) ∧ Below w.heap.size w w' := by
  obtain ⟨k, s, t, key⟩ := a
  obtain ⟨W0, hW⟩ : ∃ W0, W0 = w.alloc (.cells #[.int .i8 k, .int .i64 s, .string t, .int .i64 key] 38) := ⟨_, rfl⟩
  have hb0 : Below w.heap.size w W0 := hW ▸ below_alloc w _
  have x0 : Box4 W0 w.heap.size k s t key := hW ▸ Box4.new w _ _ _ _ _
  have hl0 : w.heap.size < W0.heap.size := by rw [hW]; simp
  have H0 := Lib.hid (h.up hb0)
  have hc1 := isThere_any B b D node W0 H0.out hm hS h0
  clear h
  have HE : Hid (refE D node ⟨k, s, t, key⟩ = if decide (NodeOk D node) = true then actE D node.toNat ⟨k, s, t, key⟩ else 2) := by
    show refE D node ⟨k, s, t, key⟩ = _
    unfold refE
    by_cases hh : NodeOk D node
    · rw [if_pos hh, if_pos (decide_eq_true hh)]
    · rw [if_neg hh, if_neg (by simpa using hh)]
  show Calls _ _ #[_, .agg #[.int .i8 k, .int .i64 s, .string t, .int .i64 key]] _ _
  cases hq : decide (NodeOk D node) with
  | false =>
    rw [hq] at hc1
    have HO : Hid (refE D node ⟨k, s, t, key⟩ = 2) := by show refE D node _ = 2; rw [HE.out, hq]; rfl
    clear HE
    go_enter Try.func35, Try.ntmps35
    go_wp2_with fail
    rw [← hW]
    clear hW
    refine hc1.mono ?_
    rintro e w1 ⟨rfl, hb1⟩
    go_wp2_with fail
    go_ret
    exact ⟨by rw [HO.out]; rfl, below_then hb0 hb1⟩
  | true =>
    rw [hq] at hc1
    have hno : NodeOk D node := of_decide_eq_true hq
    obtain ⟨i, rfl⟩ := Int.eq_ofNat_of_zero_le h0
    have hi : i < D.K.length := by have := hno.2; omega
    rw [hq, if_pos rfl, Int.toNat_natCast] at HE
    clear hq hno
    have hk16 := hm.k16
    go_enter Try.func35, Try.ntmps35
    go_wp2_with fail
    rw [← hW]
    clear hW
    refine hc1.mono ?_
    rintro e w1 ⟨rfl, hb1⟩
    clear hc1
    have x1 := x0.below hb1 hl0
    have H1 := Lib.hid (H0.out.up hb1)
    have hl1 := Nat.lt_of_lt_of_le hl0 hb1.size
    have hbA := below_then hb0 hb1
    clear x0 H0 hb0 hb1 hl0
    have hc2 := takes_any B b D (i : Int) ⟨k, s, t, key⟩ w1 H1.out ha
    have y0 := x1.c0
    have y1 := x1.c1
    have y2 := x1.c2
    have y3 := x1.c3
    cases hq : takesB D ⟨k, s, t, key⟩ with
    | false =>
      rw [hq] at hc2
      have HO : Hid (refE D (i : Int) ⟨k, s, t, key⟩ = 2) := by show refE D (i : Int) _ = 2; rw [HE.out, takes_no i hq]
      clear HE
      go_wp2_with fail
      refine hc2.mono ?_
      rintro e w2 ⟨rfl, hb2⟩
      go_wp2_with fail
      go_ret
      exact ⟨by rw [HO.out]; rfl, below_then hbA hb2⟩
    | true =>
      rw [hq] at hc2
      obtain ⟨e1, hk1, hk6⟩ := takes_yes i hq
      have hk1 : 1 ≤ k := hk1
      have hk6 : k ≤ 6 := hk6
      have HE2 : Hid (refE D (i : Int) ⟨k, s, t, key⟩ = _) := HE.out.trans e1
      clear HE e1 hq
      go_wp2_with fail
      refine hc2.mono ?_
      rintro e w2 ⟨rfl, hb2⟩
      clear hc2 y0 y1 y2 y3
      have x2 := x1.below hb2 hl1
      have H2 := Lib.hid (H1.out.up hb2)
      have hl2 := Nat.lt_of_lt_of_le hl1 hb2.size
      have hbB := below_then hbA hb2
      clear x1 H1 hbA hb2 hl1
      have y0 := x2.c0
      have y1 := x2.c1
      have hc3 := isOut_any B b D i w2 H2.out hi (by omega)
      obtain ⟨q, hq⟩ : ∃ q, fencedK D (keyOf D i) = q := ⟨_, rfl⟩
      rw [hq] at hc3
      obtain ⟨z, hz⟩ : ∃ z, hasB D.S.length s = z := ⟨_, rfl⟩
      have HE3 : Hid (refE D (i : Int) ⟨k, s, t, key⟩ = if k ≠ 6 ∧ q = true then 61 else if (k = 1 ∨ k = 2 ∨ k = 3) ∧ z = false then 60 else 0) := by
        show refE D (i : Int) ⟨k, s, t, key⟩ = _
        rw [HE2.out, hq]
        have e2 : (¬ (0 ≤ s ∧ s < (D.S.length : Int))) ↔ z = false := by rw [← hz]; unfold hasB; rw [decide_eq_false_iff_not]
        simp only [e2]
      clear HE2 hq
      have hkk : k = 1 ∨ k = 2 ∨ k = 3 ∨ k = 4 ∨ k = 5 ∨ k = 6 := by omega
      rcases hkk with rfl | rfl | rfl | rfl | rfl | rfl
      · cases q with
        | true =>
          have HO : Hid (refE D (i : Int) ⟨1, s, t, key⟩ = 61) := by show refE D (i : Int) _ = 61; rw [HE3.out]; simp
          clear HE3
          go_wp2_with fail
          refine hc3.mono ?_
          rintro e w3 ⟨rfl, hb3⟩
          go_wp2_with fail
          go_ret
          exact ⟨by rw [HO.out]; rfl, below_then hbB hb3⟩
        | false =>
          have HO : Hid (refE D (i : Int) ⟨1, s, t, key⟩ = if z = false then 60 else 0) := by show refE D (i : Int) _ = _; rw [HE3.out]; simp
          clear HE3
          go_wp2_with fail
          refine hc3.mono ?_
          rintro e w3 ⟨rfl, hb3⟩
          clear hc3 y0 y1
          have x3 := x2.below hb3 hl2
          obtain ⟨vS, vC, vK, vF, f, h3⟩ := H2.out.up hb3
          have hl3 := Nat.lt_of_lt_of_le hl2 hb3.size
          have hbC := below_then hbB hb3
          have y0 := x3.c0
          have y1 := x3.c1
          have hbx := h3.box
          have hlt := h3.a.lt
          have hc4 := (has_any _ D s _ w3.drew (h3.d.dev)).mono (R' := fun e w' => e = .returned (.bool (hasB D.S.length s)) ∧ Box6 w' b vS vC vK D.n vF (i : Int) ∧ w'.cell? ⟨w.heap.size, 1, none⟩ = some (.int .i64 s) ∧ Below w.heap.size w w') (by
            rintro e w' ⟨rfl, hb⟩
            have hb' : Below w3.heap.size w3 w' := ((Below.refl w3.heap.size w3).drew).trans hb
            exact ⟨rfl, hbx.below hb' hlt, (x3.below hb' hl3).c1, below_then hbC hb'⟩)
          rw [hz] at hc4
          have c0 := hbx.c0
          have c1 := hbx.c1
          have c2 := hbx.c2
          have c3 := hbx.c3
          have c4 := hbx.c4
          clear H2 h3 hb3 hbB x3 hbx
          go_wp2_with fail
          go_region_held3 (fun w' => w'.cell? ⟨b, 0, none⟩ = some vS ∧ w'.cell? ⟨b, 1, none⟩ = some vC ∧ w'.cell? ⟨b, 2, none⟩ = some vK ∧ w'.cell? ⟨b, 3, none⟩ = some (.int .i64 D.n) ∧ w'.cell? ⟨b, 4, none⟩ = some vF ∧ w'.cell? ⟨w.heap.size, 1, none⟩ = some (.int .i64 s)) (go_keep)
            (first | (go_at_call 52; refine hc4.mono ?_; rintro e w4 ⟨rfl, ⟨k0, k1, k2, k3, k4, k5⟩, k6, hb4⟩))
          cases z
          all_goals go_wp2_with fail
          all_goals go_ret
          all_goals exact ⟨by rw [HO.out]; rfl, hb4⟩
      · cases q with
        | true =>
          have HO : Hid (refE D (i : Int) ⟨2, s, t, key⟩ = 61) := by show refE D (i : Int) _ = 61; rw [HE3.out]; simp
          clear HE3
          go_wp2_with fail
          refine hc3.mono ?_
          rintro e w3 ⟨rfl, hb3⟩
          go_wp2_with fail
          go_ret
          exact ⟨by rw [HO.out]; rfl, below_then hbB hb3⟩
        | false =>
          have HO : Hid (refE D (i : Int) ⟨2, s, t, key⟩ = if z = false then 60 else 0) := by show refE D (i : Int) _ = _; rw [HE3.out]; simp
          clear HE3
          go_wp2_with fail
          refine hc3.mono ?_
          rintro e w3 ⟨rfl, hb3⟩
          clear hc3 y0 y1
          have x3 := x2.below hb3 hl2
          obtain ⟨vS, vC, vK, vF, f, h3⟩ := H2.out.up hb3
          have hl3 := Nat.lt_of_lt_of_le hl2 hb3.size
          have hbC := below_then hbB hb3
          have y0 := x3.c0
          have y1 := x3.c1
          have hbx := h3.box
          have hlt := h3.a.lt
          have hc4 := (has_any _ D s _ w3.drew (h3.d.dev)).mono (R' := fun e w' => e = .returned (.bool (hasB D.S.length s)) ∧ Box6 w' b vS vC vK D.n vF (i : Int) ∧ w'.cell? ⟨w.heap.size, 1, none⟩ = some (.int .i64 s) ∧ Below w.heap.size w w') (by
            rintro e w' ⟨rfl, hb⟩
            have hb' : Below w3.heap.size w3 w' := ((Below.refl w3.heap.size w3).drew).trans hb
            exact ⟨rfl, hbx.below hb' hlt, (x3.below hb' hl3).c1, below_then hbC hb'⟩)
          rw [hz] at hc4
          have c0 := hbx.c0
          have c1 := hbx.c1
          have c2 := hbx.c2
          have c3 := hbx.c3
          have c4 := hbx.c4
          clear H2 h3 hb3 hbB x3 hbx
          go_wp2_with fail
          go_region_held3 (fun w' => w'.cell? ⟨b, 0, none⟩ = some vS ∧ w'.cell? ⟨b, 1, none⟩ = some vC ∧ w'.cell? ⟨b, 2, none⟩ = some vK ∧ w'.cell? ⟨b, 3, none⟩ = some (.int .i64 D.n) ∧ w'.cell? ⟨b, 4, none⟩ = some vF ∧ w'.cell? ⟨w.heap.size, 1, none⟩ = some (.int .i64 s)) (go_keep)
            (first | (go_at_call 52; refine hc4.mono ?_; rintro e w4 ⟨rfl, ⟨k0, k1, k2, k3, k4, k5⟩, k6, hb4⟩))
          cases z
          all_goals go_wp2_with fail
          all_goals go_ret
          all_goals exact ⟨by rw [HO.out]; rfl, hb4⟩
      · cases q with
        | true =>
          have HO : Hid (refE D (i : Int) ⟨3, s, t, key⟩ = 61) := by show refE D (i : Int) _ = 61; rw [HE3.out]; simp
          clear HE3
          go_wp2_with fail
          refine hc3.mono ?_
          rintro e w3 ⟨rfl, hb3⟩
          go_wp2_with fail
          go_ret
          exact ⟨by rw [HO.out]; rfl, below_then hbB hb3⟩
        | false =>
          have HO : Hid (refE D (i : Int) ⟨3, s, t, key⟩ = if z = false then 60 else 0) := by show refE D (i : Int) _ = _; rw [HE3.out]; simp
          clear HE3
          go_wp2_with fail
          refine hc3.mono ?_
          rintro e w3 ⟨rfl, hb3⟩
          clear hc3 y0 y1
          have x3 := x2.below hb3 hl2
          obtain ⟨vS, vC, vK, vF, f, h3⟩ := H2.out.up hb3
          have hl3 := Nat.lt_of_lt_of_le hl2 hb3.size
          have hbC := below_then hbB hb3
          have y0 := x3.c0
          have y1 := x3.c1
          have hbx := h3.box
          have hlt := h3.a.lt
          have hc4 := (has_any _ D s _ w3.drew (h3.d.dev)).mono (R' := fun e w' => e = .returned (.bool (hasB D.S.length s)) ∧ Box6 w' b vS vC vK D.n vF (i : Int) ∧ w'.cell? ⟨w.heap.size, 1, none⟩ = some (.int .i64 s) ∧ Below w.heap.size w w') (by
            rintro e w' ⟨rfl, hb⟩
            have hb' : Below w3.heap.size w3 w' := ((Below.refl w3.heap.size w3).drew).trans hb
            exact ⟨rfl, hbx.below hb' hlt, (x3.below hb' hl3).c1, below_then hbC hb'⟩)
          rw [hz] at hc4
          have c0 := hbx.c0
          have c1 := hbx.c1
          have c2 := hbx.c2
          have c3 := hbx.c3
          have c4 := hbx.c4
          clear H2 h3 hb3 hbB x3 hbx
          go_wp2_with fail
          go_region_held3 (fun w' => w'.cell? ⟨b, 0, none⟩ = some vS ∧ w'.cell? ⟨b, 1, none⟩ = some vC ∧ w'.cell? ⟨b, 2, none⟩ = some vK ∧ w'.cell? ⟨b, 3, none⟩ = some (.int .i64 D.n) ∧ w'.cell? ⟨b, 4, none⟩ = some vF ∧ w'.cell? ⟨w.heap.size, 1, none⟩ = some (.int .i64 s)) (go_keep)
            (first | (go_at_call 52; refine hc4.mono ?_; rintro e w4 ⟨rfl, ⟨k0, k1, k2, k3, k4, k5⟩, k6, hb4⟩))
          cases z
          all_goals go_wp2_with fail
          all_goals go_ret
          all_goals exact ⟨by rw [HO.out]; rfl, hb4⟩
      · cases q
        · have HO : Hid (refE D (i : Int) ⟨4, s, t, key⟩ = 0) := by show refE D (i : Int) _ = 0; rw [HE3.out]; simp
          clear HE3
          go_wp2_with fail
          refine hc3.mono ?_
          rintro e w3 ⟨rfl, hb3⟩
          have y4 := (x2.below hb3 hl2).c0
          go_wp2_with fail
          go_ret
          exact ⟨by rw [HO.out]; rfl, below_then hbB hb3⟩
        · have HO : Hid (refE D (i : Int) ⟨4, s, t, key⟩ = 61) := by show refE D (i : Int) _ = 61; rw [HE3.out]; simp
          clear HE3
          go_wp2_with fail
          refine hc3.mono ?_
          rintro e w3 ⟨rfl, hb3⟩
          go_wp2_with fail
          go_ret
          exact ⟨by rw [HO.out]; rfl, below_then hbB hb3⟩
      · cases q
        · have HO : Hid (refE D (i : Int) ⟨5, s, t, key⟩ = 0) := by show refE D (i : Int) _ = 0; rw [HE3.out]; simp
          clear HE3
          go_wp2_with fail
          refine hc3.mono ?_
          rintro e w3 ⟨rfl, hb3⟩
          have y4 := (x2.below hb3 hl2).c0
          go_wp2_with fail
          go_ret
          exact ⟨by rw [HO.out]; rfl, below_then hbB hb3⟩
        · have HO : Hid (refE D (i : Int) ⟨5, s, t, key⟩ = 61) := by show refE D (i : Int) _ = 61; rw [HE3.out]; simp
          clear HE3
          go_wp2_with fail
          refine hc3.mono ?_
          rintro e w3 ⟨rfl, hb3⟩
          go_wp2_with fail
          go_ret
          exact ⟨by rw [HO.out]; rfl, below_then hbB hb3⟩
      · have HO : Hid (refE D (i : Int) ⟨6, s, t, key⟩ = 0) := by show refE D (i : Int) _ = 0; rw [HE3.out]; simp
        clear HE3 hc3
        go_wp2_with fail
        go_ret
        exact ⟨by rw [HO.out]; rfl, hbB⟩

end Go.Proofs.Ytleemgjbihdbgaa
