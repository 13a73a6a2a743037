/-
  The program's actor: why it refuses an act: by contract.
-/
import Derived.Test.YteighdlhonegpaaDevActB
namespace Go.Proofs.Yteighdlhonegpaa
open Go.RowKit
set_option linter.unusedVariables false
set_option linter.unusedSimpArgs false

def refE (D : Dev) (node : Int) (a : ActM) : Int := if NodeOk D node then actE D node.toNat a else 2
structure Box4 (w : World) (b : Nat) (k s : Int) (t : ByteArray) (key : Int) : Prop where
  c0 : w.cell? ⟨b, 0, none⟩ = some (.int .i8 k)
  c1 : w.cell? ⟨b, 1, none⟩ = some (.int .i64 s)
  c2 : w.cell? ⟨b, 2, none⟩ = some (.string t)
  c3 : w.cell? ⟨b, 3, none⟩ = some (.int .i64 key)
theorem Box4.below {w w' : World} {b B : Nat} {k s key : Int} {t : ByteArray} (h : Box4 w b k s t key) (hb : Below B w w') (hB : b < B) : Box4 w' b k s t key := by
  have key : ∀ o, w'.cell? ⟨b, o, none⟩ = w.cell? ⟨b, o, none⟩ := fun o => hb.cell (p := ⟨b, o, none⟩) hB
  exact ⟨(key _).trans h.c0, (key _).trans h.c1, (key _).trans h.c2, (key _).trans h.c3⟩
theorem Box4.new (w : World) (k s key : Int) (t : ByteArray) (T : TypeId) : Box4 (w.alloc (.cells #[.int .i8 k, .int .i64 s, .string t, .int .i64 key] T)) w.heap.size k s t key := by
  have p := Blk.new w #[.int .i8 k, .int .i64 s, .string t, .int .i64 key] T
  exact ⟨p.cell 0 _ rfl, p.cell 1 _ rfl, p.cell 2 _ rfl, p.cell 3 _ rfl⟩

set_option maxRecDepth 100000 in
set_option maxHeartbeats 8000000 in
theorem refuses_any (B b : Nat) (D : Dev) (node : Int) (a : ActM) (w : World) (h : ActorAt w B b D node) (hm : MayD D) (hS : Small D 1099511627776) (ha : ActBd a) (h0 : 0 ≤ node) :
    Calls Try.prog 35 #[.pointer (some ⟨b, 0, none⟩), actV a] w fun e w' => e = .returned (.int .i64 (refE D node a)) ∧ Below w.heap.size w w' := by
  obtain ⟨k, s, t, key⟩ := a
  obtain ⟨W0, hW⟩ : ∃ W0, W0 = w.alloc (.cells #[.int .i8 k, .int .i64 s, .string t, .int .i64 key] 38) := ⟨_, rfl⟩
  have hb0 : Below w.heap.size w W0 := hW ▸ below_alloc w _
  have x0 : Box4 W0 w.heap.size k s t key := hW ▸ Box4.new w _ _ _ _ _
  have hl0 : w.heap.size < W0.heap.size := by rw [hW]; simp
  have H0 := Lib.hid (h.up hb0)
  have hc1 := isThere_any B b D node W0 H0.out hm hS h0
  clear h
  have HE : Hid (refE D node ⟨k, s, t, key⟩ = if decide (NodeOk D node) = true then actE D node.toNat ⟨k, s, t, key⟩ else 2) := by
    show refE D node ⟨k, s, t, key⟩ = _
    unfold refE
    by_cases hh : NodeOk D node
    · rw [if_pos hh, if_pos (decide_eq_true hh)]
    · rw [if_neg hh, if_neg (by simpa using hh)]
  show Calls _ _ #[_, .agg #[.int .i8 k, .int .i64 s, .string t, .int .i64 key]] _ _
  cases hq : decide (NodeOk D node) with
  | false =>
    rw [hq] at hc1
    have HO : Hid (refE D node ⟨k, s, t, key⟩ = 2) := by show refE D node _ = 2; rw [HE.out, hq]; rfl
    clear HE
    go_enter Try.func35, Try.ntmps35
    go_wp2_with fail
    rw [← hW]
    clear hW
    refine hc1.mono ?_
    rintro e w1 ⟨rfl, hb1⟩
    go_wp2_with fail
    go_ret
    exact ⟨by rw [HO.out]; rfl, below_then hb0 hb1⟩
  | true =>
    rw [hq] at hc1
    have hno : NodeOk D node := of_decide_eq_true hq
    obtain ⟨i, rfl⟩ := Int.eq_ofNat_of_zero_le h0
    have hi : i < D.K.length := by have := hno.2; omega
    rw [hq, if_pos rfl, Int.toNat_natCast] at HE
    clear hq hno
    have hk16 := hm.k16
    go_enter Try.func35, Try.ntmps35
    go_wp2_with fail
    rw [← hW]
    clear hW
    refine hc1.mono ?_
    rintro e w1 ⟨rfl, hb1⟩
    clear hc1
    have x1 := x0.below hb1 hl0
    have H1 := Lib.hid (H0.out.up hb1)
    have hl1 := Nat.lt_of_lt_of_le hl0 hb1.size
    have hbA := below_then hb0 hb1
    clear x0 H0 hb0 hb1 hl0
    have hc2 := takes_any B b D (i : Int) ⟨k, s, t, key⟩ w1 H1.out ha
    have y0 := x1.c0
    have y1 := x1.c1
    have y2 := x1.c2
    have y3 := x1.c3
    cases hq : takesB D ⟨k, s, t, key⟩ with
    | false =>
      rw [hq] at hc2
      have HO : Hid (refE D (i : Int) ⟨k, s, t, key⟩ = 2) := by show refE D (i : Int) _ = 2; rw [HE.out, takes_no i hq]
      clear HE
      go_wp2_with fail
      refine hc2.mono ?_
      rintro e w2 ⟨rfl, hb2⟩
      go_wp2_with fail
      go_ret
      exact ⟨by rw [HO.out]; rfl, below_then hbA hb2⟩
    | true =>
      rw [hq] at hc2
      obtain ⟨e1, hk1, hk6⟩ := takes_yes i hq
      have hk1 : 1 ≤ k := hk1
      have hk6 : k ≤ 6 := hk6
      have HE2 : Hid (refE D (i : Int) ⟨k, s, t, key⟩ = _) := HE.out.trans e1
      clear HE e1 hq
      go_wp2_with fail
      refine hc2.mono ?_
      rintro e w2 ⟨rfl, hb2⟩
      clear hc2 y0 y1 y2 y3
      have x2 := x1.below hb2 hl1
      have H2 := Lib.hid (H1.out.up hb2)
      have hl2 := Nat.lt_of_lt_of_le hl1 hb2.size
      have hbB := below_then hbA hb2
      clear x1 H1 hbA hb2 hl1
      have y0 := x2.c0
      have y1 := x2.c1
      have hc3 := isOut_any B b D i w2 H2.out hi (by omega)
      obtain ⟨q, hq⟩ : ∃ q, fencedK D (keyOf D i) = q := ⟨_, rfl⟩
      rw [hq] at hc3
      obtain ⟨z, hz⟩ : ∃ z, hasB D.S.length s = z := ⟨_, rfl⟩
      have HE3 : Hid (refE D (i : Int) ⟨k, s, t, key⟩ = if k ≠ 6 ∧ q = true then 61 else if (k = 1 ∨ k = 2 ∨ k = 3) ∧ z = false then 60 else 0) := by
        show refE D (i : Int) ⟨k, s, t, key⟩ = _
        rw [HE2.out, hq]
        have e2 : (¬ (0 ≤ s ∧ s < (D.S.length : Int))) ↔ z = false := by rw [← hz]; unfold hasB; rw [decide_eq_false_iff_not]
        simp only [e2]
      clear HE2 hq
      have hkk : k = 1 ∨ k = 2 ∨ k = 3 ∨ k = 4 ∨ k = 5 ∨ k = 6 := by omega
      rcases hkk with rfl | rfl | rfl | rfl | rfl | rfl
      · cases q with
        | true =>
          have HO : Hid (refE D (i : Int) ⟨1, s, t, key⟩ = 61) := by show refE D (i : Int) _ = 61; rw [HE3.out]; simp
          clear HE3
          go_wp2_with fail
          refine hc3.mono ?_
          rintro e w3 ⟨rfl, hb3⟩
          go_wp2_with fail
          go_ret
          exact ⟨by rw [HO.out]; rfl, below_then hbB hb3⟩
        | false =>
          have HO : Hid (refE D (i : Int) ⟨1, s, t, key⟩ = if z = false then 60 else 0) := by show refE D (i : Int) _ = _; rw [HE3.out]; simp
          clear HE3
          go_wp2_with fail
          refine hc3.mono ?_
          rintro e w3 ⟨rfl, hb3⟩
          clear hc3 y0 y1
          have x3 := x2.below hb3 hl2
          obtain ⟨vS, vC, vK, vF, f, h3⟩ := H2.out.up hb3
          have hl3 := Nat.lt_of_lt_of_le hl2 hb3.size
          have hbC := below_then hbB hb3
          have y0 := x3.c0
          have y1 := x3.c1
          have hbx := h3.box
          have hlt := h3.a.lt
          have hc4 := (has_any _ D s _ w3.drew (h3.d.dev)).mono (R' := fun e w' => e = .returned (.bool (hasB D.S.length s)) ∧ Box6 w' b vS vC vK D.n vF (i : Int) ∧ w'.cell? ⟨w.heap.size, 1, none⟩ = some (.int .i64 s) ∧ Below w.heap.size w w') (by
            rintro e w' ⟨rfl, hb⟩
            have hb' : Below w3.heap.size w3 w' := ((Below.refl w3.heap.size w3).drew).trans hb
            exact ⟨rfl, hbx.below hb' hlt, (x3.below hb' hl3).c1, below_then hbC hb'⟩)
          rw [hz] at hc4
          have c0 := hbx.c0
          have c1 := hbx.c1
          have c2 := hbx.c2
          have c3 := hbx.c3
          have c4 := hbx.c4
          clear H2 h3 hb3 hbB x3 hbx
          go_wp2_with fail
          go_region_held3 (fun w' => w'.cell? ⟨b, 0, none⟩ = some vS ∧ w'.cell? ⟨b, 1, none⟩ = some vC ∧ w'.cell? ⟨b, 2, none⟩ = some vK ∧ w'.cell? ⟨b, 3, none⟩ = some (.int .i64 D.n) ∧ w'.cell? ⟨b, 4, none⟩ = some vF ∧ w'.cell? ⟨w.heap.size, 1, none⟩ = some (.int .i64 s)) (go_keep)
            (first | (go_at_call 52; refine hc4.mono ?_; rintro e w4 ⟨rfl, ⟨k0, k1, k2, k3, k4, k5⟩, k6, hb4⟩))
          cases z
          all_goals go_wp2_with fail
          all_goals go_ret
          all_goals exact ⟨by rw [HO.out]; rfl, hb4⟩
      · cases q with
        | true =>
          have HO : Hid (refE D (i : Int) ⟨2, s, t, key⟩ = 61) := by show refE D (i : Int) _ = 61; rw [HE3.out]; simp
          clear HE3
          go_wp2_with fail
          refine hc3.mono ?_
          rintro e w3 ⟨rfl, hb3⟩
          go_wp2_with fail
          go_ret
          exact ⟨by rw [HO.out]; rfl, below_then hbB hb3⟩
        | false =>
          have HO : Hid (refE D (i : Int) ⟨2, s, t, key⟩ = if z = false then 60 else 0) := by show refE D (i : Int) _ = _; rw [HE3.out]; simp
          clear HE3
          go_wp2_with fail
          refine hc3.mono ?_
          rintro e w3 ⟨rfl, hb3⟩
          clear hc3 y0 y1
          have x3 := x2.below hb3 hl2
          obtain ⟨vS, vC, vK, vF, f, h3⟩ := H2.out.up hb3
          have hl3 := Nat.lt_of_lt_of_le hl2 hb3.size
          have hbC := below_then hbB hb3
          have y0 := x3.c0
          have y1 := x3.c1
          have hbx := h3.box
          have hlt := h3.a.lt
          have hc4 := (has_any _ D s _ w3.drew (h3.d.dev)).mono (R' := fun e w' => e = .returned (.bool (hasB D.S.length s)) ∧ Box6 w' b vS vC vK D.n vF (i : Int) ∧ w'.cell? ⟨w.heap.size, 1, none⟩ = some (.int .i64 s) ∧ Below w.heap.size w w') (by
            rintro e w' ⟨rfl, hb⟩
            have hb' : Below w3.heap.size w3 w' := ((Below.refl w3.heap.size w3).drew).trans hb
            exact ⟨rfl, hbx.below hb' hlt, (x3.below hb' hl3).c1, below_then hbC hb'⟩)
          rw [hz] at hc4
          have c0 := hbx.c0
          have c1 := hbx.c1
          have c2 := hbx.c2
          have c3 := hbx.c3
          have c4 := hbx.c4
          clear H2 h3 hb3 hbB x3 hbx
          go_wp2_with fail
          go_region_held3 (fun w' => w'.cell? ⟨b, 0, none⟩ = some vS ∧ w'.cell? ⟨b, 1, none⟩ = some vC ∧ w'.cell? ⟨b, 2, none⟩ = some vK ∧ w'.cell? ⟨b, 3, none⟩ = some (.int .i64 D.n) ∧ w'.cell? ⟨b, 4, none⟩ = some vF ∧ w'.cell? ⟨w.heap.size, 1, none⟩ = some (.int .i64 s)) (go_keep)
            (first | (go_at_call 52; refine hc4.mono ?_; rintro e w4 ⟨rfl, ⟨k0, k1, k2, k3, k4, k5⟩, k6, hb4⟩))
          cases z
          all_goals go_wp2_with fail
          all_goals go_ret
          all_goals exact ⟨by rw [HO.out]; rfl, hb4⟩
      · cases q with
        | true =>
          have HO : Hid (refE D (i : Int) ⟨3, s, t, key⟩ = 61) := by show refE D (i : Int) _ = 61; rw [HE3.out]; simp
          clear HE3
          go_wp2_with fail
          refine hc3.mono ?_
          rintro e w3 ⟨rfl, hb3⟩
          go_wp2_with fail
          go_ret
          exact ⟨by rw [HO.out]; rfl, below_then hbB hb3⟩
        | false =>
          have HO : Hid (refE D (i : Int) ⟨3, s, t, key⟩ = if z = false then 60 else 0) := by show refE D (i : Int) _ = _; rw [HE3.out]; simp
          clear HE3
          go_wp2_with fail
          refine hc3.mono ?_
          rintro e w3 ⟨rfl, hb3⟩
          clear hc3 y0 y1
          have x3 := x2.below hb3 hl2
          obtain ⟨vS, vC, vK, vF, f, h3⟩ := H2.out.up hb3
          have hl3 := Nat.lt_of_lt_of_le hl2 hb3.size
          have hbC := below_then hbB hb3
          have y0 := x3.c0
          have y1 := x3.c1
          have hbx := h3.box
          have hlt := h3.a.lt
          have hc4 := (has_any _ D s _ w3.drew (h3.d.dev)).mono (R' := fun e w' => e = .returned (.bool (hasB D.S.length s)) ∧ Box6 w' b vS vC vK D.n vF (i : Int) ∧ w'.cell? ⟨w.heap.size, 1, none⟩ = some (.int .i64 s) ∧ Below w.heap.size w w') (by
            rintro e w' ⟨rfl, hb⟩
            have hb' : Below w3.heap.size w3 w' := ((Below.refl w3.heap.size w3).drew).trans hb
            exact ⟨rfl, hbx.below hb' hlt, (x3.below hb' hl3).c1, below_then hbC hb'⟩)
          rw [hz] at hc4
          have c0 := hbx.c0
          have c1 := hbx.c1
          have c2 := hbx.c2
          have c3 := hbx.c3
          have c4 := hbx.c4
          clear H2 h3 hb3 hbB x3 hbx
          go_wp2_with fail
          go_region_held3 (fun w' => w'.cell? ⟨b, 0, none⟩ = some vS ∧ w'.cell? ⟨b, 1, none⟩ = some vC ∧ w'.cell? ⟨b, 2, none⟩ = some vK ∧ w'.cell? ⟨b, 3, none⟩ = some (.int .i64 D.n) ∧ w'.cell? ⟨b, 4, none⟩ = some vF ∧ w'.cell? ⟨w.heap.size, 1, none⟩ = some (.int .i64 s)) (go_keep)
            (first | (go_at_call 52; refine hc4.mono ?_; rintro e w4 ⟨rfl, ⟨k0, k1, k2, k3, k4, k5⟩, k6, hb4⟩))
          cases z
          all_goals go_wp2_with fail
          all_goals go_ret
          all_goals exact ⟨by rw [HO.out]; rfl, hb4⟩
      · cases q
        · have HO : Hid (refE D (i : Int) ⟨4, s, t, key⟩ = 0) := by show refE D (i : Int) _ = 0; rw [HE3.out]; simp
          clear HE3
          go_wp2_with fail
          refine hc3.mono ?_
          rintro e w3 ⟨rfl, hb3⟩
          have y4 := (x2.below hb3 hl2).c0
          go_wp2_with fail
          go_ret
          exact ⟨by rw [HO.out]; rfl, below_then hbB hb3⟩
        · have HO : Hid (refE D (i : Int) ⟨4, s, t, key⟩ = 61) := by show refE D (i : Int) _ = 61; rw [HE3.out]; simp
          clear HE3
          go_wp2_with fail
          refine hc3.mono ?_
          rintro e w3 ⟨rfl, hb3⟩
          go_wp2_with fail
          go_ret
          exact ⟨by rw [HO.out]; rfl, below_then hbB hb3⟩
      · cases q
        · have HO : Hid (refE D (i : Int) ⟨5, s, t, key⟩ = 0) := by show refE D (i : Int) _ = 0; rw [HE3.out]; simp
          clear HE3
          go_wp2_with fail
          refine hc3.mono ?_
          rintro e w3 ⟨rfl, hb3⟩
          have y4 := (x2.below hb3 hl2).c0
          go_wp2_with fail
          go_ret
          exact ⟨by rw [HO.out]; rfl, below_then hbB hb3⟩
        · have HO : Hid (refE D (i : Int) ⟨5, s, t, key⟩ = 61) := by show refE D (i : Int) _ = 61; rw [HE3.out]; simp
          clear HE3
          go_wp2_with fail
          refine hc3.mono ?_
          rintro e w3 ⟨rfl, hb3⟩
          go_wp2_with fail
          go_ret
          exact ⟨by rw [HO.out]; rfl, below_then hbB hb3⟩
      · have HO : Hid (refE D (i : Int) ⟨6, s, t, key⟩ = 0) := by show refE D (i : Int) _ = 0; rw [HE3.out]; simp
        clear HE3 hc3
        go_wp2_with fail
        go_ret
        exact ⟨by rw [HO.out]; rfl, hbB⟩

end Go.Proofs.Yteighdlhonegpaa
