/-
  The program's device: a new one: by contract.
-/
import Derived.Test.YtleemgjbihdbgaaJoinDevCS
import Derived.Test.YtleemgjbihdbgaaLast
namespace Go.Proofs.Ytleemgjbihdbgaa
open Go.RowKit
set_option linter.unusedVariables false
set_option linter.unusedSimpArgs false

def noD : Dev := ⟨[], [], [], 0, []⟩
instance (nodes : Int) (S : List ByteArray) : Decidable (NewOk nodes S) := inferInstanceAs (Decidable (_ ∧ _ ∧ _ ∧ _))
def nwD (nodes : Int) (S : List ByteArray) : Dev := if NewOk nodes S then newD nodes.toNat S else noD
def nwE (nodes : Int) (S : List ByteArray) : Int := if NewOk nodes S then 0 else 2
theorem noD_own (w : World) (B : Nat) : OwnD w B (.slice none 0 0) (.slice none 0 0) (.slice none 0 0) (.slice none 0 0) (fun _ => .slice none 0 0) noD :=
  ⟨World.ownsRow_nil _ _ _ _, World.ownsRow_nil _ _ _ _, World.ownsRow_nil _ _ _ _, World.ownsRow_nil _ _ _ _, fun i hi => by simp [noD] at hi, fun b h => (by cases h), fun i j b hi => by simp [noD] at hi⟩

theorem own_zeros {w : World} {B g n : Nat} {e : TypeId} {z : Value} (h : Blk w g (zeros n z).toArray e) (hB : B ≤ g) (hn : n ≤ maxLen) : w.ownsRow B e 1 (.slice (some ⟨g, 0, none⟩) n n) n (List.replicate n z) := by
  refine ⟨by simp, .inr ⟨g, n, _, rfl, hB, h, Nat.le_refl _, hn, by simp [zeros], by simp [zeros]⟩⟩
/-- A new device's parts. -/
def NewAgg (B : Nat) (S : List ByteArray) (N : Nat) (v : Value) (w : World) : Prop := ∃ A c gC gK, v = .agg #[.slice A S.length c, .slice (some ⟨gC, 0, none⟩) N N, .slice (some ⟨gK, 0, none⟩) N N, .int .i64 1, .slice none 0 0] ∧ w.ownsRow B 9 1 (.slice A S.length c) S.length (strV S) ∧
  B ≤ gC ∧ Blk w gC (zeros N (.slice none 0 0)).toArray 57 ∧ B ≤ gK ∧ Blk w gK (zeros N (.int .i64 0)).toArray 3
theorem NewAgg.below {B N : Nat} {S : List ByteArray} {v : Value} {w w' : World} (h : NewAgg B S N v w) (hb : Below w.heap.size w w') : NewAgg B S N v w' := by
  obtain ⟨A, c, gC, gK, e, h1, h2, h3, h4, h5⟩ := h
  exact ⟨A, c, gC, gK, e, own_up h1 hb, h2, h3.below hb h3.lt, h4, h5.below hb h5.lt⟩
theorem range_const (N : Nat) (x : Value) : (List.range N).map (fun _ => x) = List.replicate N x := by
  apply List.ext_getElem
  · simp
  · intro j h1 h2
    simp
theorem NewAgg.own {B N : Nat} {S : List ByteArray} {v : Value} {w : World} (h : NewAgg B S N v w) (hN : N ≤ maxLen) : ∃ A c gC gK, v = .agg #[.slice A S.length c, .slice (some ⟨gC, 0, none⟩) N N, .slice (some ⟨gK, 0, none⟩) N N, .int .i64 1, .slice none 0 0] ∧
    OwnD w B (.slice A S.length c) (.slice (some ⟨gC, 0, none⟩) N N) (.slice (some ⟨gK, 0, none⟩) N N) (.slice none 0 0) (fun _ => .slice none 0 0) (newD N S) := by
  obtain ⟨A, c, gC, gK, e, h1, h2, h3, h4, h5⟩ := h
  refine ⟨A, c, gC, gK, e, ⟨h1, ?_, ?_, World.ownsRow_nil _ _ _ _, fun i hi => ?_, ?_, ?_⟩⟩
  · have := own_zeros h3 h2 hN
    show w.ownsRow B _ 1 _ (List.replicate N []).length ((List.range (List.replicate N []).length).map _)
    rw [List.length_replicate, range_const]
    exact this
  · have := own_zeros h5 h4 hN
    show w.ownsRow B _ 1 _ (List.replicate N (0 : Int)).length ((List.replicate N (0 : Int)).map _)
    rw [List.length_replicate, List.map_replicate]
    exact this
  · have e0 : (newD N S).C.getD i [] = [] := by
      show (List.replicate N ([] : List Cel)).getD i [] = []
      rw [List.getD, List.getElem?_replicate]
      split <;> rfl
    rw [e0]
    exact World.ownsRow_nil _ _ _ _
  · intro b _ h
    cases h
  · intro i j b _ _ h
    cases h

theorem OwnD.other {w : World} {B r : Nat} {vS vC vK vF : Value} {f : Nat → Value} {D : Dev} {cs : Array Value} {T : TypeId} (h : OwnD w B vS vC vK vF f D) (k : Blk w r cs T) (h1 : 9 ≠ T) (h2 : 57 ≠ T) (h3 : 3 ≠ T) (h4 : 59 ≠ T) (o : Nat) (u : Value) : OwnD (w.setCell ⟨r, o, none⟩ u) B vS vC vK vF f D := by
  have key : ∀ {e : TypeId} {size : Nat} {v : Value} {n : Nat} {xs : List Value}, w.ownsRow B e size v n xs → e ≠ T → (w.setCell ⟨r, o, none⟩ u).ownsRow B e size v n xs := by
    intro e size v n xs hv hne
    refine ownsRow_setCell_other hv (fun hb => ?_) u
    exact own_blk hv k hne hb rfl
  exact ⟨key h.s h1, key h.c h2, key h.k h3, key h.ff h3, fun i hi => key (h.cs i hi) h4, h.kf, h.cc⟩
theorem into5_other {w : World} {r B : Nat} {uS uC uK uF : Value} {f : Nat → Value} {D : Dev} {cs : Array Value} {T : TypeId} (h : OwnD w B uS uC uK uF f D) (k : Blk w r cs T) (h1 : 9 ≠ T) (h2 : 57 ≠ T) (h3 : 3 ≠ T) (h4 : 59 ≠ T) (vS vC vK : Value) (n : Int) (vF : Value) : OwnD (into5 w r vS vC vK n vF) B uS uC uK uF f D := by
  have k1 := k.set 0 vS
  have k2 := k1.set 1 vC
  have k3 := k2.set 2 vK
  have k4 := k3.set 3 (.int .i64 n)
  exact ((((h.other k h1 h2 h3 h4 0 vS).other k1 h1 h2 h3 h4 1 vC).other k2 h1 h2 h3 h4 2 vK).other k3 h1 h2 h3 h4 3 (.int .i64 n)).other k4 h1 h2 h3 h4 4 vF
theorem blk_five {w : World} {r : Nat} {cs : Array Value} {T : TypeId} (h : Blk w r cs T) (hs : cs.size = 5) : (∃ u, w.cell? ⟨r, 0, none⟩ = some u) ∧ (∃ u, w.cell? ⟨r, 1, none⟩ = some u) ∧ (∃ u, w.cell? ⟨r, 2, none⟩ = some u) ∧ (∃ u, w.cell? ⟨r, 3, none⟩ = some u) ∧ (∃ u, w.cell? ⟨r, 4, none⟩ = some u) :=
  ⟨⟨_, h.cell 0 _ (Array.getElem?_eq_getElem (by omega))⟩, ⟨_, h.cell 1 _ (Array.getElem?_eq_getElem (by omega))⟩, ⟨_, h.cell 2 _ (Array.getElem?_eq_getElem (by omega))⟩, ⟨_, h.cell 3 _ (Array.getElem?_eq_getElem (by omega))⟩, ⟨_, h.cell 4 _ (Array.getElem?_eq_getElem (by omega))⟩⟩

/-- What each operation of the composite yields. -/
def NewR (B : Nat) (S : List ByteArray) (N : Nat) (sl : Value) : Nat → Value → World → Prop
  | 0, v, _ => v = sl
  | 1, v, w => ∃ A c, v = .slice A S.length c ∧ w.ownsRow B 9 1 v S.length (strV S)
  | 2, v, _ => v = .int .i64 (N : Int)
  | 3, v, w => ∃ g, v = .slice (some ⟨g, 0, none⟩) N N ∧ B ≤ g ∧ Blk w g (zeros N (.slice none 0 0)).toArray 57
  | 4, v, _ => v = .int .i64 (N : Int)
  | 5, v, w => ∃ g, v = .slice (some ⟨g, 0, none⟩) N N ∧ B ≤ g ∧ Blk w g (zeros N (.int .i64 0)).toArray 3
  | 6, v, w => NewAgg B S N v w
  | 7, v, w => NewAgg B S N v w
  | 8, v, w => ∃ r cs, v = .pointer (some ⟨r, 0, none⟩) ∧ B ≤ r ∧ Blk w r cs 55 ∧ cs.size = 5
  | _, _, _ => True
theorem newR_keep {B N : Nat} {S : List ByteArray} {sl : Value} (i : Nat) (v : Value) (w w' : World) (hi : i < 9) (h : NewR B S N sl i v w) (hb : Below w.heap.size w w') : NewR B S N sl i v w' := by
  match i, hi, h with
  | 0, _, h => exact h
  | 1, _, ⟨A, c, e, h⟩ => exact ⟨A, c, e, own_up h hb⟩
  | 2, _, h => exact h
  | 3, _, ⟨g, e, h1, h2⟩ => exact ⟨g, e, h1, h2.below hb h2.lt⟩
  | 4, _, h => exact h
  | 5, _, ⟨g, e, h1, h2⟩ => exact ⟨g, e, h1, h2.below hb h2.lt⟩
  | 6, _, h => exact NewAgg.below h hb
  | 7, _, h => exact NewAgg.below h hb
  | 8, _, ⟨r, cs, e, h1, h2, h3⟩ => exact ⟨r, cs, e, h1, h2.below hb h2.lt, h3⟩

/-- 'make([]T, n)', n a number in a slot: the whole run. -/
theorem run_make_op {P : Program} (w : World) {ev : Operand → Value} {o : Oper} (l c : Operand) (t : TypeId) (hop : o.op = Op.makeSlice t l c) (e : TypeId) (i : TypeInfo) (z : Value) (h1 : P.underlying t = some (.slice e)) (h2 : P.info? e = some i) (h3 : i.zero = some z) (h4 : i.size = 1)
    (hz : z.cells = #[z]) (m : Nat) (hl : ev l = .int .i64 (m : Int)) (hc : ev c = .int .i64 (m : Int)) (b2 : i.bytes * m ≤ 281474976710656) (b3 : m ≤ maxLen) :
    (execOp ev o).run P w = .ok (.value (.slice (some ⟨w.heap.size, 0, none⟩) m m)) (w.alloc (.cells (zeros m z).toArray e)) := by
  have h63' : (m : Int) ≤ 9223372036854775807 := by
    have h := b3
    simp [maxLen] at h
    omega
  have hb' : (i.bytes : Int) * (m : Int) ≤ 281474976710656 := by
    have h : ((i.bytes * m : Nat) : Int) ≤ 281474976710656 := by omega
    rwa [Int.natCast_mul] at h
  have hr := run_make (P := P) w t e i z h1 h2 h3 .i64 .i64 m m (by omega) (by omega) hb' h63'
  simp only [Int.toNat_natCast, h4, Nat.mul_one, hz] at hr
  have hcells : madeCells #[z] m = (zeros m z).toArray := by
    apply Array.ext'
    rw [toList_madeCells_one]
    rfl
  rw [hcells] at hr
  simp [execOp, hop, hl, hc, hr, Result.andThen]

set_option maxRecDepth 100000 in
set_option maxHeartbeats 2000000 in
theorem devNew_any (nodes : Int) (A : Option Addr) (n c : Nat) (S : List ByteArray) (w : World) (hA : Lies w w.heap.size A n (strV S)) (hl : S.length = n) (hn : n ≤ 1099511627776) :
    Calls Try.prog 8 #[.int .i64 nodes, .slice A n c] w (DevPost (nwD nodes S) (nwE nodes S) w) := by
  subst hl
  obtain ⟨W0, hW⟩ : ∃ W0, W0 = w.alloc (.cells #[.slice none 0 0, .slice none 0 0, .slice none 0 0, .int .i64 0, .slice none 0 0] 29) := ⟨_, rfl⟩
  have hb0 : Below w.heap.size w W0 := hW ▸ below_alloc w _
  have r0 : Blk W0 w.heap.size #[.slice none 0 0, .slice none 0 0, .slice none 0 0, .int .i64 0, .slice none 0 0] 29 := hW ▸ Blk.new w _ _
  by_cases h1 : 1 ≤ nodes ∧ nodes ≤ 16
  · obtain ⟨N, rfl⟩ := Int.eq_ofNat_of_zero_le (show 0 ≤ nodes by omega)
    have hN1 : 1 ≤ N := by omega
    have hN2 : N ≤ 16 := by omega
    have d0 : decide ((N : Int) < 1) = false := decide_eq_false (by omega)
    have d1 : decide ((16 : Int) < (N : Int)) = false := decide_eq_false (by omega)
    have HA := Lib.hid (lies_up hA hb0)
    obtain ⟨i1, hi1, hz0, hz1, hz2⟩ := info_parts infoCells
    obtain ⟨i2, hi2, hy0, hy1, hy2⟩ := info_parts infoInt
    have hl0 := r0.lt
    clear hA
    go_enter Try.func8, Try.ntmps8
    go_wp2_with fail
    rw [← hW]
    clear hW
    refine wp_region_last (NewR W0.heap.size S N (.slice A S.length c)) (fun W => Below W0.heap.size W0 W) 9 (by kernel_rfl) rfl (by kernel_rfl) (by kernel_rfl) (by kernel_rfl) ((Below.refl _ _).drew) (fun i v w w' hi h hb => newR_keep i v w w' hi h hb) ?_ ?_
    · intro i o vs W hi ho hS hdep
      match i, hi with
      | 0, _ =>
        obtain rfl := Option.some.inj ho
        clear ho hdep
        refine wpOp_run (v := .slice A S.length c) (w' := W) rfl rfl ?_ ⟨_, rfl, hS, rfl, Below.refl _ _⟩
        simp only [putAll, Act.put, List.setIfInBounds_toArray, List.set_cons_zero, List.set_cons_succ]
        go_simp
      | 1, _ =>
        obtain rfl := Option.some.inj ho
        have hd : vs 0 = .slice A S.length c := hdep ⟨0, .data⟩ (by simp) rfl
        clear ho hdep
        have hc := cloneS_any A S.length c W.heap.size (strV S) W (by unfold LiesK; rw [Nat.mul_one]; exact (HA.out.below hS).more hS.size) (strV_one _) hn
        refine wpOp_step rfl (fun K hK => ?_)
        simp only [putAll, Act.put, List.setIfInBounds_toArray, List.set_cons_zero, List.set_cons_succ]
        go_simp
        refine hc.mono ?_
        rintro e W1 ⟨v', rfl, hown, hb⟩
        obtain ⟨A', c', rfl, _, _⟩ := own_shape2 hown
        exact hK _ _ ⟨.slice A' S.length c', by simp only [putAll, Act.put, List.setIfInBounds_toArray, List.set_cons_zero, List.set_cons_succ, hd]; rfl, hS.trans (hb.mono hS.size), ⟨A', c', rfl, own_less hown hS.size⟩, hb⟩
      | 2, _ =>
        obtain rfl := Option.some.inj ho
        clear ho hdep
        refine wpOp_run (v := .int .i64 (N : Int)) (w' := W) rfl rfl ?_ ⟨_, rfl, hS, rfl, Below.refl _ _⟩
        simp only [putAll, Act.put, List.setIfInBounds_toArray, List.set_cons_zero, List.set_cons_succ]
        go_simp
      | 3, _ =>
        obtain rfl := Option.some.inj ho
        have hd : vs 2 = .int .i64 (N : Int) := hdep ⟨2, .data⟩ (by simp) rfl
        refine wpOp_run rfl rfl (run_make_op W (.tmp 16) (.tmp 16) 26 rfl 57 i1 _ Try.underlying26 hi1 hz0 hz1 rfl N (by simp [putAll, Act.put, Act.eval, hd]) (by simp [putAll, Act.put, Act.eval, hd]) (by rw [hz2]; omega) (by unfold maxLen; omega)) ?_
        exact ⟨_, rfl, hS.alloc hS.size _, ⟨_, rfl, hS.size, Blk.new W _ _⟩, below_alloc W _⟩
      | 4, _ =>
        obtain rfl := Option.some.inj ho
        clear ho hdep
        refine wpOp_run (v := .int .i64 (N : Int)) (w' := W) rfl rfl ?_ ⟨_, rfl, hS, rfl, Below.refl _ _⟩
        simp only [putAll, Act.put, List.setIfInBounds_toArray, List.set_cons_zero, List.set_cons_succ]
        go_simp
      | 5, _ =>
        obtain rfl := Option.some.inj ho
        have hd : vs 4 = .int .i64 (N : Int) := hdep ⟨4, .data⟩ (by simp) rfl
        refine wpOp_run rfl rfl (run_make_op W (.tmp 18) (.tmp 18) 27 rfl 3 i2 _ Try.underlying27 hi2 hy0 hy1 rfl N (by simp [putAll, Act.put, Act.eval, hd]) (by simp [putAll, Act.put, Act.eval, hd]) (by rw [hy2]; omega) (by unfold maxLen; omega)) ?_
        exact ⟨_, rfl, hS.alloc hS.size _, ⟨_, rfl, hS.size, Blk.new W _ _⟩, below_alloc W _⟩
      | 6, _ =>
        obtain rfl := Option.some.inj ho
        obtain ⟨A1, c1, e1, o1⟩ : ∃ A c, vs 1 = .slice A S.length c ∧ _ := hdep ⟨1, .data⟩ (by simp) rfl
        obtain ⟨g3, e3, b3, k3⟩ : ∃ g, vs 3 = .slice (some ⟨g, 0, none⟩) N N ∧ _ := hdep ⟨3, .data⟩ (by simp) rfl
        obtain ⟨g5, e5, b5, k5⟩ : ∃ g, vs 5 = .slice (some ⟨g, 0, none⟩) N N ∧ _ := hdep ⟨5, .data⟩ (by simp) rfl
        rw [e1] at o1
        refine wpOp_run (v := .agg #[.slice A1 S.length c1, .slice (some ⟨g3, 0, none⟩) N N, .slice (some ⟨g5, 0, none⟩) N N, .int .i64 1, .slice none 0 0]) (w' := W) rfl rfl ?_ ?_
        · simp only [putAll, Act.put, List.setIfInBounds_toArray, List.set_cons_zero, List.set_cons_succ, e1, e3, e5]
          go_simp
        · exact ⟨_, rfl, hS, ⟨A1, c1, g3, g5, rfl, o1, b3, k3, b5, k5⟩, Below.refl _ _⟩
      | 7, _ =>
        obtain rfl := Option.some.inj ho
        have h6 : NewAgg W0.heap.size S N (vs 6) W := hdep ⟨6, .data⟩ (by simp) rfl
        obtain ⟨A1, c1, g3, g5, e6, rest⟩ := id h6
        refine wpOp_run (v := vs 6) (w' := W) rfl rfl ?_ ?_
        · simp only [putAll, Act.put, List.setIfInBounds_toArray, List.set_cons_zero, List.set_cons_succ, e6]
          go_simp
        · exact ⟨_, rfl, hS, h6, Below.refl _ _⟩
      | 8, _ =>
        obtain rfl := Option.some.inj ho
        clear ho hdep
        refine wpOp_run (v := .pointer (some ⟨W.heap.size, 0, none⟩)) (w' := W.alloc (.cells #[.slice none 0 0, .slice none 0 0, .slice none 0 0, .int .i64 0, .slice none 0 0] 55)) rfl rfl ?_ ⟨_, rfl, hS.alloc hS.size _, ⟨_, _, rfl, hS.size, Blk.new W _ _, rfl⟩, below_alloc W _⟩
        simp only [putAll, Act.put, List.setIfInBounds_toArray, List.set_cons_zero, List.set_cons_succ]
        go_simp
    · intro vs W hS hR
      obtain ⟨r, cs, e8, b8, k8, s8⟩ := hR 8 (by omega)
      have h7 : NewAgg W0.heap.size S N (vs 7) W := hR 7 (by omega)
      obtain ⟨A1, c1, g3, g5, e7, hown⟩ := h7.own (by unfold maxLen; omega)
      clear hR h7
      obtain ⟨⟨u0, q0⟩, ⟨u1, q1⟩, ⟨u2, q2⟩, ⟨u3, q3⟩, ⟨u4, q4⟩⟩ := blk_five k8 s8
      have f0 := k8.free 0
      have f1 := k8.free 1
      have f2 := k8.free 2
      have f3 := k8.free 3
      have f4 := k8.free 4
      obtain ⟨W1, hW1⟩ : ∃ W1, W1 = into5 W r (.slice A1 S.length c1) (.slice (some ⟨g3, 0, none⟩) N N) (.slice (some ⟨g5, 0, none⟩) N N) 1 (.slice none 0 0) := ⟨_, rfl⟩
      have hO1 := into5_other hown k8 (by decide) (by decide) (by decide) (by decide) (.slice A1 S.length c1) (.slice (some ⟨g3, 0, none⟩) N N) (.slice (some ⟨g5, 0, none⟩) N N) 1 (.slice none 0 0)
      have hb1 := into5_below hS b8 (.slice A1 S.length c1) (.slice (some ⟨g3, 0, none⟩) N N) (.slice (some ⟨g5, 0, none⟩) N N) 1 (.slice none 0 0)
      have hR1 := into5_range k8 s8 (.slice A1 S.length c1) (.slice (some ⟨g3, 0, none⟩) N N) (.slice (some ⟨g5, 0, none⟩) N N) 1 (.slice none 0 0)
      rw [← hW1] at hO1 hb1 hR1
      have hrl : r < W1.heap.size := by rw [hW1]; have := k8.lt; simp [into5]; exact this
      refine wpOp_step rfl (fun K hK => ?_)
      simp only [putAll, Act.put, List.setIfInBounds_toArray, List.set_cons_zero, List.set_cons_succ, e7, e8]
      go_simp
      refine hK _ _ ?_
      clear hK
      have hW1' := hW1
      unfold into5 at hW1'
      rw [← hW1']
      clear hW1 hW1' q0 q1 q2 q3 q4 f0 f1 f2 f3 f4 hown k8 s8 e7 e8
      have hb01 : Below w.heap.size w W1 := hb0.trans (hb1.mono hb0.size)
      have r1 := r0.below hb1 hl0
      have HR1 := Lib.hid hR1
      have HD1 := Lib.hid hO1.dev
      have HO1 := Lib.hid hO1
      have m0 : W1.cell? ⟨r, 0, none⟩ = some (.slice A1 S.length c1) := by have := hR1 0 _ rfl; simpa using this
      have m1 : W1.cell? ⟨r, 1, none⟩ = some (.slice (some ⟨g3, 0, none⟩) N N) := by have := hR1 1 _ rfl; simpa using this
      have m2 : W1.cell? ⟨r, 2, none⟩ = some (.slice (some ⟨g5, 0, none⟩) N N) := by have := hR1 2 _ rfl; simpa using this
      have m3 : W1.cell? ⟨r, 3, none⟩ = some (.int .i64 1) := by have := hR1 3 _ rfl; simpa using this
      have m4 : W1.cell? ⟨r, 4, none⟩ = some (.slice none 0 0) := by have := hR1 4 _ rfl; simpa using this
      obtain ⟨ok, hok⟩ : ∃ ok, sMayB S = ok := ⟨_, rfl⟩
      have hcm := may_any (.agg #[.slice A1 S.length c1, .slice (some ⟨g3, 0, none⟩) N N, .slice (some ⟨g5, 0, none⟩) N N, .int .i64 1, .slice none 0 0]) (newD N S) ok W1 HD1.out hn hok (fun e => by
        obtain ⟨h2, h3⟩ := (sMay_iff S).1 (hok.trans e)
        exact may_new hN1 hN2 h2 h3)
      have HOK : Hid (nwD (N : Int) S = (if ok then newD N S else noD) ∧ nwE (N : Int) S = (if ok then 0 else 2)) := by
        show _ ∧ _
        unfold nwD nwE
        cases ok with
        | true =>
          obtain ⟨h2, h3⟩ := (sMay_iff S).1 hok
          have hh : NewOk (N : Int) S := ⟨h1.1, h1.2, h2, h3⟩
          rw [if_pos hh, if_pos hh]
          exact ⟨rfl, rfl⟩
        | false =>
          have hh : ¬ NewOk (N : Int) S := fun hh => by
            have := (sMay_iff S).2 ⟨hh.2.2.1, hh.2.2.2⟩
            rw [hok] at this
            cases this
          rw [if_neg hh, if_neg hh]
          exact ⟨rfl, rfl⟩
      have hl1 := hb1.size
      clear hO1 hb1 hR1 hok r0
      go_wp2_with fail
      refine hcm.mono ?_
      rintro e W2 ⟨rfl, hb2⟩
      have r2 := r1.below hb2 (by omega)
      have hO2 := HO1.out.up hb2
      have k0 := (hb2.cell (p := ⟨r, 0, none⟩) hrl).trans m0
      have k1 := (hb2.cell (p := ⟨r, 1, none⟩) hrl).trans m1
      have k2 := (hb2.cell (p := ⟨r, 2, none⟩) hrl).trans m2
      have k3 := (hb2.cell (p := ⟨r, 3, none⟩) hrl).trans m3
      have k4 := (hb2.cell (p := ⟨r, 4, none⟩) hrl).trans m4
      have d0 := r2.cell 0 _ rfl
      have d1 := r2.cell 1 _ rfl
      have d2 := r2.cell 2 _ rfl
      have d3 := r2.cell 3 _ rfl
      have d4 := r2.cell 4 _ rfl
      have f0 := r2.free 0
      have f1 := r2.free 1
      have f2 := r2.free 2
      have f3 := r2.free 3
      have f4 := r2.free 4
      have hb02 : Below w.heap.size w W2 := hb01.trans (hb2.mono (by omega))
      clear hcm m0 m1 m2 m3 m4 HO1 HD1 HR1 r1 hb2
      cases ok with
      | true =>
        have H1 := Lib.hid (into5_range r2 rfl (.slice A1 S.length c1) (.slice (some ⟨g3, 0, none⟩) N N) (.slice (some ⟨g5, 0, none⟩) N N) 1 (.slice none 0 0))
        have H2 := Lib.hid (OwnD.less (B' := w.heap.size) (into5_own hO2 hl0 (.slice A1 S.length c1) (.slice (some ⟨g3, 0, none⟩) N N) (.slice (some ⟨g5, 0, none⟩) N N) 1 (.slice none 0 0)) (by omega))
        have H3 := Lib.hid (into5_below hb02 (Nat.le_refl _) (.slice A1 S.length c1) (.slice (some ⟨g3, 0, none⟩) N N) (.slice (some ⟨g5, 0, none⟩) N N) 1 (.slice none 0 0))
        clear hO2 r2 hb02
        go_wp2_with fail
        refine bodyPost_ret (results_c2 (cs := [.slice A1 S.length c1, .slice (some ⟨g3, 0, none⟩) N N, .slice (some ⟨g5, 0, none⟩) N N, .int .i64 1, .slice none 0 0]) Try.results8 (by rfl) (by rfl) H1.out Try.underlying29 rfl (by kernel_rfl)) rfl ?_
        rw [HOK.out.1, HOK.out.2]
        exact devPost_of H2.out H3.out rfl
      | false =>
        have H1 := Lib.hid (into5_range r2 rfl (.slice none 0 0) (.slice none 0 0) (.slice none 0 0) 0 (.slice none 0 0))
        have H3 := Lib.hid (into5_below hb02 (Nat.le_refl _) (.slice none 0 0) (.slice none 0 0) (.slice none 0 0) 0 (.slice none 0 0))
        clear hO2 r2 hb02
        go_wp2_with fail
        refine bodyPost_ret (results_c2 (cs := [.slice none 0 0, .slice none 0 0, .slice none 0 0, .int .i64 0, .slice none 0 0]) Try.results8 (by rfl) (by rfl) H1.out Try.underlying29 rfl (by kernel_rfl)) rfl ?_
        rw [HOK.out.1, HOK.out.2]
        exact devPost_of (noD_own _ _) H3.out rfl
  · have hno : ¬ NewOk nodes S := fun h => h1 ⟨h.1, h.2.1⟩
    have HND : Hid (nwD nodes S = noD) := if_neg hno
    have HNE : Hid (nwE nodes S = 2) := if_neg hno
    have hcs : decide (nodes < 1) = true ∨ (decide (nodes < 1) = false ∧ decide (16 < nodes) = true) := by
      by_cases h2 : nodes < 1
      · exact .inl (decide_eq_true h2)
      · exact .inr ⟨decide_eq_false h2, decide_eq_true (by omega)⟩
    subst hW
    clear hA h1 hno r0
    rcases hcs with h2 | ⟨h2, h3⟩
    all_goals go_enter Try.func8, Try.ntmps8
    all_goals go_wp2_with fail
    all_goals refine bodyPost_ret (results_c2 (cs := [.slice none 0 0, .slice none 0 0, .slice none 0 0, .int .i64 0, .slice none 0 0]) Try.results8 (by rfl) (by rfl) (Blk.new w #[.slice none 0 0, .slice none 0 0, .slice none 0 0, .int .i64 0, .slice none 0 0] 29).range Try.underlying29 rfl (by kernel_rfl)) rfl ?_
    all_goals rw [HND.out, HNE.out]
    all_goals exact devPost_of (noD_own _ _) hb0 rfl

end Go.Proofs.Ytleemgjbihdbgaa
