/-
  The program's actor: a node at a copy; whether it is there, is fenced, takes an act; why it refuses; where its cache has a sector: by contract.
-/
import Derived.Test.YteighdlhonegpaaDevCopy
import Derived.Test.YteighdlhonegpaaDevMayB
import Derived.Test.YteighdlhonegpaaDevPlay
import Derived.Deep.RegionWith
namespace Go.Proofs.Yteighdlhonegpaa
open Go.RowKit
set_option linter.unusedVariables false
set_option linter.unusedSimpArgs false

set_option maxRecDepth 100000 in
set_option maxHeartbeats 1000000 in
theorem at_any (v : Value) (D : Dev) (node : Int) (w : World) (hD : DevAt w w.heap.size v D) (hS : Small D 1099511627776) :
    Calls Try.prog 34 #[v, .int .i64 node] w fun e w' => ∃ b, e = .returned (.pointer (some ⟨b, 0, none⟩)) ∧ ActorAt w' w.heap.size b D node ∧ Below w.heap.size w w' := by
  obtain ⟨vS, vC, vK, vF, e1, _⟩ := id hD
  obtain ⟨W0, hW⟩ : ∃ W0, W0 = w.alloc (.cells #[vS, vC, vK, .int .i64 D.n, vF] 29) := ⟨_, rfl⟩
  have hb0 : Below w.heap.size w W0 := hW ▸ below_alloc w _
  have hsz : w.heap.size < W0.heap.size := by rw [hW]; simp
  have hc := copied_any _ D W0 (hD.up hb0) hS
  subst e1
  clear hD
  go_enter Try.func34, Try.ntmps34
  go_wp2_with fail
  rw [← hW]
  refine hc.mono ?_
  rintro e w1 ⟨uS, uC, uK, uF, f, rfl, hown, hb1⟩
  clear hc hW
  have HO := Lib.hid hown
  clear hown
  go_wp2_with fail
  go_ret
  have ha := below_alloc w1 (.cells #[uS, uC, uK, .int .i64 D.n, uF, .int .i64 node] 73)
  have h1 := hb1.size
  exact ⟨_, rfl, ⟨uS, uC, uK, uF, f, (HO.out.up ha).less (by omega), Blk.new w1 _ _, by omega⟩, (below_then hb0 hb1).trans (ha.mono (by omega))⟩

theorem ActorAt.dev {w : World} {B b : Nat} {vS vC vK vF : Value} {f : Nat → Value} {D : Dev} {node : Int} (h : ActAt w B b vS vC vK vF f D node) : DevAt w w.heap.size (.agg #[vS, vC, vK, .int .i64 D.n, vF]) D := h.d.dev
theorem Box6.below {w w' : World} {b B : Nat} {vS vC vK vF : Value} {n node : Int} (h : Box6 w b vS vC vK n vF node) (hb : Below B w w') (hB : b < B) : Box6 w' b vS vC vK n vF node := by
  have key : ∀ o, w'.cell? ⟨b, o, none⟩ = w.cell? ⟨b, o, none⟩ := fun o => hb.cell (p := ⟨b, o, none⟩) hB
  exact ⟨(key _).trans h.c0, (key _).trans h.c1, (key _).trans h.c2, (key _).trans h.c3, (key _).trans h.c4, (key _).trans h.c5⟩

set_option maxRecDepth 100000 in
set_option maxHeartbeats 2000000 in
theorem isThere_any (B b : Nat) (D : Dev) (node : Int) (w : World) (h : ActorAt w B b D node) (hm : MayD D) (hS : Small D 1099511627776) (h0 : 0 ≤ node) :
    Calls Try.prog 38 #[.pointer (some ⟨b, 0, none⟩)] w fun e w' => e = .returned (.bool (decide (NodeOk D node))) ∧ Below w.heap.size w w' := by
  obtain ⟨vS, vC, vK, vF, f, h⟩ := h
  have hbx := h.box
  have hlt := h.a.lt
  have hdev := h.d.dev
  obtain ⟨aK, cK, rfl, _, _⟩ := own_shape2 h.d.k
  have hs : sMayB D.S = true := (sMay_iff _).2 ⟨hm.s1, hm.ss⟩
  have hc := (may_any _ D true w.drew (hdev.up ((Below.refl w.heap.size w).drew)) hS.s hs (fun _ => hm)).mono (R' := fun e w' => e = .returned (.bool true) ∧ Box6 w' b vS vC (.slice aK D.K.length cK) D.n vF node ∧ Below w.heap.size w w') (by
    rintro e w' ⟨rfl, hb⟩
    have hb' : Below w.heap.size w w' := ((Below.refl w.heap.size w).drew).trans hb
    exact ⟨rfl, hbx.below hb' hlt, hb'⟩)
  have HK := hm.k16
  clear hm hS hs hdev h
  generalize hn : D.K.length = nK at *
  have c0 := hbx.c0
  have c1 := hbx.c1
  have c2 := hbx.c2
  have c3 := hbx.c3
  have c4 := hbx.c4
  have c5 := hbx.c5
  by_cases h1 : node < (nK : Int)
  · have HO : Hid (decide (NodeOk D node) = true) := decide_eq_true ⟨h0, by rw [hn]; exact h1⟩
    go_enter Try.func38, Try.ntmps38
    go_wp2_with fail
    go_region_held3 (fun w' => w'.cell? ⟨b, 0, none⟩ = some vS ∧ w'.cell? ⟨b, 1, none⟩ = some vC ∧ w'.cell? ⟨b, 2, none⟩ = some (.slice aK nK cK) ∧ w'.cell? ⟨b, 3, none⟩ = some (.int .i64 D.n) ∧ w'.cell? ⟨b, 4, none⟩ = some vF ∧ w'.cell? ⟨b, 5, none⟩ = some (.int .i64 node)) (go_keep)
      (first | (go_at_call 21; refine hc.mono ?_; rintro e w1 ⟨rfl, ⟨k0, k1, k2, k3, k4, k5⟩, hb1⟩))
    go_wp2_with fail
    go_ret
    exact ⟨by rw [HO.out]; rfl, hb1⟩
  · have HO : Hid (decide (NodeOk D node) = false) := decide_eq_false fun h => h1 (by rw [← hn]; exact h.2)
    have hd : decide (node < (nK : Int)) = false := decide_eq_false h1
    go_enter Try.func38, Try.ntmps38
    go_wp2_with fail
    go_region_held3 (fun w' => w'.cell? ⟨b, 0, none⟩ = some vS ∧ w'.cell? ⟨b, 1, none⟩ = some vC ∧ w'.cell? ⟨b, 2, none⟩ = some (.slice aK nK cK) ∧ w'.cell? ⟨b, 3, none⟩ = some (.int .i64 D.n) ∧ w'.cell? ⟨b, 4, none⟩ = some vF ∧ w'.cell? ⟨b, 5, none⟩ = some (.int .i64 node)) (go_keep)
      (first | (go_at_call 21; refine hc.mono ?_; rintro e w1 ⟨rfl, ⟨k0, k1, k2, k3, k4, k5⟩, hb1⟩))
    go_wp2_with fail
    go_ret
    exact ⟨by rw [HO.out]; rfl, hb1⟩

theorem lies_one (w : World) (x : Int) (T : TypeId) : Lies ((w.alloc (.cells #[.int .i64 x] T)).drew) (w.alloc (.cells #[.int .i64 x] T)).heap.size (some ⟨w.heap.size, 0, none⟩) 1 ([x].map (Value.int .i64)) := by
  refine ⟨rfl, fun _ => ⟨_, rfl, by simp, fun j u hj => ?_⟩⟩
  exact cell_new w (.int .i64 x) T j u hj

set_option maxRecDepth 100000 in
set_option maxHeartbeats 2000000 in
theorem isOut_any (B b : Nat) (D : Dev) (i : Nat) (w : World) (h : ActorAt w B b D (i : Int)) (hi : i < D.K.length) (hk16 : D.K.length ≤ 1099511627776) :
    Calls Try.prog 51 #[.pointer (some ⟨b, 0, none⟩)] w fun e w' => e = .returned (.bool (fencedK D (keyOf D i))) ∧ Below w.heap.size w w' := by
  obtain ⟨vS, vC, vK, vF, f, h⟩ := h
  have hbx := h.box
  have hlt := h.a.lt
  obtain ⟨gk, cap, e1, _, _⟩ := h.d.k.form (by omega)
  subst e1
  obtain ⟨x, hx⟩ : ∃ x, D.K[i]'hi = x := ⟨_, rfl⟩
  have hkey : keyOf D i = x := by unfold keyOf; rw [List.getD, List.getElem?_eq_getElem hi, hx]; rfl
  have ck : w.cell? ⟨gk, i, none⟩ = some (.int .i64 x) := by rw [h.d.k.cellAt i (by omega), List.getElem?_map, List.getElem?_eq_getElem hi, hx]; rfl
  have hgl : gk < w.heap.size := (h.d.k.lt gk rfl).2
  have hba : Below w.heap.size w ((w.alloc (.cells #[.int .i64 x] 3)).drew) := ((Below.refl _ _).alloc (Nat.le_refl _) _).drew
  have hc := (isFenced_any _ D (some ⟨w.heap.size, 0, none⟩) 1 1 [x] ((w.alloc (.cells #[.int .i64 x] 3)).drew) (h.d.dev.up hba) (lies_one w x _) rfl (by unfold maxLen; omega)).mono (R' := fun e w' => e = .returned (.bool (fencedK D x)) ∧ Box6 w' b vS vC (.slice (some ⟨gk, 0, none⟩) D.K.length cap) D.n vF i ∧ w'.cell? ⟨gk, i, none⟩ = some (.int .i64 x) ∧ Below w.heap.size w w') (by
    rintro e w' ⟨rfl, hb⟩
    have hb' : Below w.heap.size w w' := below_then hba hb
    exact ⟨by rw [fencedAny_one], hbx.below hb' hlt, (hb'.cell (p := ⟨gk, i, none⟩) hgl).trans ck, hb'⟩)
  rw [hkey]
  generalize fencedK D x = q at *
  clear h hkey hx
  have c0 := hbx.c0
  have c1 := hbx.c1
  have c2 := hbx.c2
  have c3 := hbx.c3
  have c4 := hbx.c4
  have c5 := hbx.c5
  have a0 := World.new_ne w _ c0
  have a1 := World.new_ne w _ c1
  have a2 := World.new_ne w _ c2
  have a3 := World.new_ne w _ c3
  have a4 := World.new_ne w _ c4
  have a5 := World.new_ne w _ c5
  have a6 := World.new_ne w _ ck
  have i0 : (0 : Int) ≤ (i : Int) := by omega
  have i1 : (i : Int) < (D.K.length : Int) := by omega
  generalize D.K.length = nK at *
  go_enter Try.func51, Try.ntmps51
  go_wp2_with fail
  go_region_held3 (fun w' => w'.cell? ⟨b, 0, none⟩ = some vS ∧ w'.cell? ⟨b, 1, none⟩ = some vC ∧ w'.cell? ⟨b, 2, none⟩ = some (.slice (some ⟨gk, 0, none⟩) nK cap) ∧ w'.cell? ⟨b, 3, none⟩ = some (.int .i64 D.n) ∧ w'.cell? ⟨b, 4, none⟩ = some vF ∧ w'.cell? ⟨b, 5, none⟩ = some (.int .i64 (i : Int)) ∧ w'.cell? ⟨gk, i, none⟩ = some (.int .i64 x)) (go_keep)
    (first | (go_at_call 37; refine hc.mono ?_; rintro e w1 ⟨rfl, ⟨k0, k1, k2, k3, k4, k5⟩, k6, hb1⟩))
  go_wp2_with fail
  go_ret
  exact ⟨rfl, hb1⟩

end Go.Proofs.Yteighdlhonegpaa
