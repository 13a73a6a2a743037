/-
  The program's copy of a device: it shares no memory with it: by contract.
-/
import Derived.Test.YtleemgjbihdbgaaDevClone
import Derived.Deep.RegionHeld3
namespace Go.Proofs.Ytleemgjbihdbgaa
open Go.RowKit
set_option linter.unusedVariables false
set_option linter.unusedSimpArgs false

/-- A device's slices are no longer than that. -/
structure Small (D : Dev) (m : Nat) : Prop where
  s : D.S.length ≤ m
  f : D.F.length ≤ m
  k : D.K.length ≤ m
  c : D.C.length ≤ m
  cs : ∀ l ∈ D.C, l.length ≤ m
theorem strV_one (S : List ByteArray) : ∀ u ∈ strV S, u.oneCell' = true := fun u hu => by
  obtain ⟨s, _, rfl⟩ := List.mem_map.1 hu
  rfl
theorem ints_one (l : List Int) : ∀ u ∈ l.map (Value.int .i64), u.oneCell' = true := fun u hu => by
  obtain ⟨s, _, rfl⟩ := List.mem_map.1 hu
  rfl
/-- The caches that are copied so far. -/
structure Cop (w : World) (B : Nat) (vC : Value) (f g : Nat → Value) (k : Nat) (C : List (List Cel)) : Prop where
  c : w.ownsRow B 57 1 vC C.length ((List.range C.length).map g)
  cs : ∀ i, i < k → w.ownsRow B 59 2 (g i) (C.getD i []).length (celV (C.getD i []))
  cc : ∀ i j b, i < k → j < k → (g i).ownBlock = some b → (g j).ownBlock = some b → i = j
  old : ∀ i, k ≤ i → g i = f i
theorem Cop.up {w w' : World} {B k : Nat} {vC : Value} {f g : Nat → Value} {C : List (List Cel)} (h : Cop w B vC f g k C) (hb : Below w.heap.size w w') : Cop w' B vC f g k C :=
  ⟨own_up h.c hb, fun i hi => own_up (h.cs i hi) hb, h.cc, h.old⟩
theorem Cop.step {w w1 : World} {B k gc cap : Nat} {vC u : Value} {f g : Nat → Value} {C : List (List Cel)} (h : Cop w B vC f g k C) (hb : Below w.heap.size w w1) (hB : B ≤ w.heap.size) (hk : k < C.length) (e : vC = .slice (some ⟨gc, 0, none⟩) C.length cap)
    (hu : w1.ownsRow w.heap.size 59 2 u (C.getD k []).length (celV (C.getD k []))) :
    Cop (w1.setCell ⟨gc, k, none⟩ u) B vC f (fun j => if j = k then u else g j) (k + 1) C := by
  have hs := own_up h.c hb
  have hg : vC.ownBlock = some gc := by rw [e]; rfl
  have hst := (e ▸ hs).stored k u
  refine ⟨?_, fun i hi => ?_, fun i j b hi hj h1 h2 => ?_, fun i hi => ?_⟩
  · have e2 : ((List.range C.length).map fun j => if j = k then u else g j) = ((List.range C.length).map g).set k u := by
      apply List.ext_getElem
      · simp
      · intro j h1 h2
        simp only [List.getElem_map, List.getElem_range, List.getElem_set]
        by_cases e : j = k
        · rw [if_pos e, if_pos e.symm]
        · rw [if_neg e, if_neg (fun h => e h.symm)]
    rw [e2, e]
    exact hst.1
  · by_cases e1 : i = k
    · subst e1
      rw [if_pos rfl]
      have hu' := hu.kept hst.2 (own_apart hu hs (by decide) hg)
      exact own_less hu' hB
    · rw [if_neg e1]
      have := own_up (h.cs i (by omega)) hb
      exact this.kept hst.2 (own_apart this hs (by decide) hg)
  · by_cases e1 : i = k <;> by_cases e2 : j = k
    · omega
    · rw [if_pos e1] at h1
      rw [if_neg e2] at h2
      have a := (hu.lt b h1).1
      have c := ((h.cs j (by omega)).lt b h2).2
      omega
    · rw [if_neg e1] at h1
      rw [if_pos e2] at h2
      have a := (hu.lt b h2).1
      have c := ((h.cs i (by omega)).lt b h1).2
      omega
    · rw [if_neg e1] at h1
      rw [if_neg e2] at h2
      exact h.cc i j b (by omega) (by omega) h1 h2
  · rw [if_neg (by omega)]
    exact h.old i (by omega)

set_option maxRecDepth 100000 in
set_option maxHeartbeats 2000000 in
theorem copied_any (v : Value) (D : Dev) (w : World) (hD : DevAt w w.heap.size v D) (hS : Small D 1099511627776) :
    Calls Try.prog 49 #[v] w fun e w' => ∃ vS vC vK vF f, e = .returned (.agg #[vS, vC, vK, .int .i64 D.n, vF]) ∧ OwnD w' w.heap.size vS vC vK vF f D ∧ Below w.heap.size w w' := by
  obtain ⟨vS, vC, vK, vF, rfl, ⟨aS, cS, rfl, hSc, hSm, hS1⟩, ⟨aC, cC, rfl, hCc, hCm, f, hC1, hCs⟩, ⟨aK, cK, rfl, hKc, hKm, hK1⟩, ⟨aF, cF, rfl, hFc, hFm, hF1⟩⟩ := hD
  obtain ⟨b, hbe⟩ : ∃ b, w.heap.size = b := ⟨_, rfl⟩
  rw [hbe] at hS1 hC1 hK1 hF1 hCs
  obtain ⟨W0, hW0⟩ : ∃ W0, W0 = (w.alloc (.cells #[.slice aS D.S.length cS, .slice aC D.C.length cC, .slice aK D.K.length cK, .int .i64 D.n, .slice aF D.F.length cF] 29)).alloc (.cells #[.slice none 0 0, .slice none 0 0, .slice none 0 0, .int .i64 0, .slice none 0 0] 55) := ⟨_, rfl⟩
  have hb0 : Below b w W0 := by rw [hW0]; exact ((Below.refl _ _).alloc (by omega) _).alloc (by simp; omega) _
  have p0 : Blk W0 b #[.slice aS D.S.length cS, .slice aC D.C.length cC, .slice aK D.K.length cK, .int .i64 D.n, .slice aF D.F.length cF] 29 := by rw [hW0, ← hbe]; exact (Blk.new w _ _).alloc _
  have r0 : Blk W0 (b + 1) #[.slice none 0 0, .slice none 0 0, .slice none 0 0, .int .i64 0, .slice none 0 0] 55 := by
    have := Blk.new (w.alloc (.cells #[.slice aS D.S.length cS, .slice aC D.C.length cC, .slice aK D.K.length cK, .int .i64 D.n, .slice aF D.F.length cF] 29)) #[.slice none 0 0, .slice none 0 0, .slice none 0 0, .int .i64 0, .slice none 0 0] 55
    rw [hW0, ← hbe]
    simpa using this
  have hsz : b + 2 = W0.heap.size := by rw [hW0, ← hbe]; simp
  have hc1 := cloneS_any aS D.S.length cS b (strV D.S) W0 (by unfold LiesK; rw [Nat.mul_one]; exact hS1.below hb0) (strV_one _) hS.s
  go_enter Try.func49, Try.ntmps49
  go_wp2_with fail
  rw [← hW0]
  refine hc1.mono ?_
  rintro e w1 ⟨nS, rfl, own1, hb1⟩
  have p1 := p0.below hb1 p0.lt
  have r1 := r0.below hb1 r0.lt
  obtain ⟨bS, dS, rfl, _, _⟩ := own_shape2 own1
  have p2 := p1.set 0 (.slice bS D.S.length dS)
  have r2 := r1.other (c := b) (by omega) 0 (.slice bS D.S.length dS)
  obtain ⟨W1, hW1⟩ : ∃ W1, W1 = w1.setCell ⟨b, 0, none⟩ (.slice bS D.S.length dS) := ⟨_, rfl⟩
  have hbW1 : Below b w W1 := by rw [hW1]; exact (hb0.trans (hb1.mono (by omega))).setCell (by simp) _
  have own2 : W1.ownsRow (b + 2) 9 1 (.slice bS D.S.length dS) D.S.length (strV D.S) := by
    rw [hW1]
    exact own_less (own_set own1 (by simp; omega) _) (by omega)
  have hsz1 : W1.heap.size = w1.heap.size := by rw [hW1]; simp
  have c0 := p1.cell 0 _ rfl
  have f0 := p1.free 0
  have c1 := p2.cell 1 _ rfl
  rw [← hW1] at p2 r2
  have hc2 := cloneCC_any aC D.C.length cC b ((List.range D.C.length).map f) W1 (by unfold LiesK; rw [Nat.mul_one]; exact hC1.below hbW1) (by
    intro u hu
    obtain ⟨i, hi, rfl⟩ := List.mem_map.1 hu
    obtain ⟨A, c, e, _⟩ := hCs i (List.mem_range.1 hi)
    rw [e]; rfl) hS.c
  clear hc1 own1
  go_wp2_with fail
  rw [← hW1]
  refine hc2.mono ?_
  rintro e w2 ⟨nCC, rfl, own3, hb2⟩
  obtain ⟨bC, dC, rfl, _, _⟩ := own_shape2 own3
  have p3 := p2.below hb2 p2.lt
  have r3 := r2.below hb2 r2.lt
  have p4 := p3.set 1 (.slice bC D.C.length dC)
  have r4 := r3.other (c := b) (by omega) 1 (.slice bC D.C.length dC)
  obtain ⟨W2, hW2⟩ : ∃ W2, W2 = w2.setCell ⟨b, 1, none⟩ (.slice bC D.C.length dC) := ⟨_, rfl⟩
  have hsB1 := hb1.size
  have hbW2 : Below b w W2 := by rw [hW2]; exact (hbW1.trans (hb2.mono (by omega))).setCell (by simp) _
  have own4 : W2.ownsRow (b + 2) 9 1 (.slice bS D.S.length dS) D.S.length (strV D.S) := by
    rw [hW2]
    exact own_set (own_up own2 hb2) (by simp) _
  have cop : Cop W2 (b + 2) (.slice bC D.C.length dC) f f 0 D.C := by
    refine ⟨?_, fun i hi => by omega, fun i j b hi => by omega, fun i _ => rfl⟩
    rw [hW2]
    exact own_less (own_set own3 (by simp; omega) _) (by omega)
  have hszW : b + 2 ≤ W2.heap.size := by rw [hW2]; have := hb2.size; simp; omega
  have d0 := p3.cell 1 _ rfl
  have d1 := p3.free 1
  have d2 := p4.cell 1 _ rfl
  rw [← hW2] at p4 r4
  clear hc2 own2 own3 p0 p1 p2 p3 r0 r1 r2 r3 hb0 hb1 hb2 hbW1 hW0
  go_wp2_with fail
  rw [← hW2]
  clear hW2 hW1 c0 f0 c1 d0 d1 d2 hsz1 hsz
  have hcl := hS.c
  go_loopw [3, 4, 16] (fun _ _ i wr => ∃ k : Nat, ∃ g : Nat → Value, k ≤ D.C.length ∧ i = .int .i64 (k : Int) ∧ Below b w wr ∧ Blk wr b #[.slice bS D.S.length dS, .slice bC D.C.length dC, .slice aK D.K.length cK, .int .i64 D.n, .slice aF D.F.length cF] 29 ∧
      Blk wr (b + 1) #[.slice none 0 0, .slice none 0 0, .slice none 0 0, .int .i64 0, .slice none 0 0] 55 ∧ wr.ownsRow (b + 2) 9 1 (.slice bS D.S.length dS) D.S.length (strV D.S) ∧ Cop wr (b + 2) (.slice bC D.C.length dC) f g k D.C ∧ b + 2 ≤ wr.heap.size) (fun _ _ i _ => D.C.length - (intOf i).toNat)
  case atStart => exact ⟨0, f, Nat.zero_le _, rfl, hbW2, p4, r4, own4, cop, hszW⟩
  case round =>
    clear hbW2 p4 r4 own4 cop hszW
    obtain ⟨k, g, hk, rfl, hbr, pr, rr, ownr, copr, hszr⟩ := hrel
    by_cases hlk : k < D.C.length
    · obtain ⟨gc, cap, e0, _, hgc⟩ := copr.c.form (by omega)
      obtain ⟨rfl, rfl⟩ : bC = some ⟨gc, 0, none⟩ ∧ dC = cap := by injection e0 with e1 _ e2; exact ⟨e1, e2⟩
      clear e0
      obtain ⟨a, c, e2, h1, h2, h3⟩ := hCs k (by omega)
      have HLL : Hid (D.C.getD k [] ∈ D.C) := by show D.C.getD k [] ∈ D.C; rw [List.getD, List.getElem?_eq_getElem (by omega)]; exact List.getElem_mem _
      have hlb := hS.cs _ HLL.out
      have hstep := fun {w1 : World} {u : Value} (hb : Below wr.heap.size wr w1) (hu : w1.ownsRow wr.heap.size 59 2 u (D.C.getD k []).length (celV (D.C.getD k []))) => copr.step hb hszr (by omega) rfl hu
      have e3 : wr.cell? ⟨gc, k, none⟩ = some (.slice a (D.C.getD k []).length c) := by
        rw [copr.c.cellAt k (by omega), List.getElem?_map, List.getElem?_range (by omega)]
        show some (g k) = _
        rw [copr.old k (Nat.le_refl _), e2]
      clear e2 HLL
      generalize D.C.getD k [] = l at *
      have hcall := cloneC_any a l.length c b (celV l) wr.drew (h3.below hbr.drew) (celV_one _) hlb
      have hne : b ≠ gc := by
        intro e
        exact own_blk copr.c pr (by decide) rfl e
      have q1 := pr.cell 1 _ rfl
      have hcall2 := hcall.mono (R' := fun e w3 => ∃ A c', e = .returned (.slice A l.length c') ∧ w3.cell? ⟨b, 1, none⟩ = some (.slice (some ⟨gc, 0, none⟩) D.C.length dC) ∧ w3.cell? ⟨gc, k, none⟩ = some (.slice a l.length c) ∧ w3.frozen? ⟨gc, k, none⟩ = false ∧ (w3.setCell ⟨gc, k, none⟩ (.slice A l.length c')).cell? ⟨b, 1, none⟩ = some (.slice (some ⟨gc, 0, none⟩) D.C.length dC) ∧
          Hid (Below b w (w3.setCell ⟨gc, k, none⟩ (.slice A l.length c')) ∧ Blk (w3.setCell ⟨gc, k, none⟩ (.slice A l.length c')) b #[.slice bS D.S.length dS, .slice (some ⟨gc, 0, none⟩) D.C.length dC, .slice aK D.K.length cK, .int .i64 D.n, .slice aF D.F.length cF] 29 ∧
            Blk (w3.setCell ⟨gc, k, none⟩ (.slice A l.length c')) (b + 1) #[.slice none 0 0, .slice none 0 0, .slice none 0 0, .int .i64 0, .slice none 0 0] 55 ∧ (w3.setCell ⟨gc, k, none⟩ (.slice A l.length c')).ownsRow (b + 2) 9 1 (.slice bS D.S.length dS) D.S.length (strV D.S) ∧
            Cop (w3.setCell ⟨gc, k, none⟩ (.slice A l.length c')) (b + 2) (.slice (some ⟨gc, 0, none⟩) D.C.length dC) f (fun j => if j = k then .slice A l.length c' else g j) (k + 1) D.C ∧ b + 2 ≤ (w3.setCell ⟨gc, k, none⟩ (.slice A l.length c')).heap.size)) (by
        rintro e w3 ⟨u, rfl, hu, hb3⟩
        have hb3 : Below wr.heap.size wr w3 := ((Below.refl wr.heap.size wr).drew).trans hb3
        have hu : w3.ownsRow wr.heap.size 59 2 u l.length (celV l) := hu
        obtain ⟨A, c', rfl, _, _⟩ := own_shape2 hu
        have copu := copr.up hb3
        have prb := pr.below hb3 pr.lt
        have hbk := copr.c.lt gc rfl
        refine ⟨A, c', rfl, prb.cell 1 _ rfl, ?_, copu.c.frozenAt k, (prb.other hne _ _).cell 1 _ rfl, ⟨(hbr.trans (hb3.mono (by omega))).setCell (by simp; omega) _, prb.other hne _ _, (rr.below hb3 rr.lt).other (by omega) _ _, ?_, hstep hb3 hu, by simp; have := hb3.size; omega⟩⟩
        · rw [hb3.cell (p := ⟨gc, k, none⟩) (by simpa using hgc)]
          exact e3
        · have := own_up ownr hb3
          exact ownsRow_setCell_other this (by
            rcases own_apart this copu.c (by decide) (g := gc) rfl with h | h
            · rw [h]; simp
            · exact h) _)
      have hk0 : (0 : Int) ≤ (k : Int) := by omega
      have hk1 : (k : Int) < (D.C.length : Int) := by omega
      have HK1 := Lib.hid (show k + 1 ≤ D.C.length by omega)
      clear hcall copr pr rr ownr hstep
      go_wp2_with fail
      go_region_held3 (fun w' => w'.cell? ⟨b, 1, none⟩ = some (.slice (some ⟨gc, 0, none⟩) D.C.length dC)) (go_keep) (first | (go_at_call 67; refine hcall2.mono ?_; rintro e w3 ⟨A, c', rfl, k1, k2, k3, k4, HK⟩))
      go_wp2_with fail
      go_roundw
      case rel =>
        obtain ⟨z1, z2, z3, z4, z5, z6⟩ := HK.out
        exact ⟨k + 1, _, HK1.out, by go_num, z1, z2, z3, z4, z5, z6⟩
      case measure => have := HK1.out; simp [intOf]; omega
    · have hkn : k = D.C.length := by omega
      have hc3 := cloneI_any aK D.K.length cK b (D.K.map (Value.int .i64)) wr (by unfold LiesK; rw [Nat.mul_one]; exact hK1.below hbr) (ints_one _) hS.k
      have q2 := pr.cell 2 _ rfl
      go_wp2_with fail
      refine hc3.mono ?_
      rintro e w3 ⟨nK, rfl, own5, hb3⟩
      obtain ⟨bK, dK, rfl, _, _⟩ := own_shape2 own5
      have p5 := pr.below hb3 pr.lt
      have r5 := rr.below hb3 rr.lt
      have p6 := p5.set 2 (.slice bK D.K.length dK)
      have r6 := r5.other (c := b) (by omega) 2 (.slice bK D.K.length dK)
      obtain ⟨W3, hW3⟩ : ∃ W3, W3 = w3.setCell ⟨b, 2, none⟩ (.slice bK D.K.length dK) := ⟨_, rfl⟩
      have hs3 := hb3.size
      have hsW3 : W3.heap.size = w3.heap.size := by rw [hW3]; simp
      have hbW3 : Below b w W3 := by rw [hW3]; exact (hbr.trans (hb3.mono (by omega))).setCell (by simp) _
      have own6 : W3.ownsRow (b + 2) 9 1 (.slice bS D.S.length dS) D.S.length (strV D.S) := by
        rw [hW3]
        exact own_set (own_up ownr hb3) (by simp) _
      have own7 : W3.ownsRow (b + 2) 3 1 (.slice bK D.K.length dK) D.K.length (D.K.map (Value.int .i64)) := by
        rw [hW3]
        exact own_less (own_set own5 (by simp; omega) _) (by omega)
      have cop7 : Cop W3 (b + 2) (.slice bC D.C.length dC) f g k D.C := by
        have h := copr.up hb3
        rw [hW3]
        exact ⟨own_set h.c (by simp) _, fun i hi => own_set (h.cs i hi) (by simp) _, h.cc, h.old⟩
      have d0 := p5.cell 2 _ rfl
      have d1 := p5.free 2
      have d2 := p6.cell 4 _ rfl
      rw [← hW3] at p6 r6
      have hc4 := cloneI_any aF D.F.length cF b (D.F.map (Value.int .i64)) W3 (by unfold LiesK; rw [Nat.mul_one]; exact hF1.below hbW3) (ints_one _) hS.f
      have hKlt : ∀ x, (Value.slice bK D.K.length dK).ownBlock = some x → x < W3.heap.size := fun x hx => (own7.lt x hx).2
      clear hc3 own5 ownr copr pr rr p5 r5
      go_wp2_with fail
      rw [← hW3]
      refine hc4.mono ?_
      rintro e w4 ⟨nF, rfl, own8, hb4⟩
      clear hc4 d0 d1 d2 q2 hW3
      obtain ⟨bF, dF, rfl, _, _⟩ := own_shape2 own8
      have p7 := p6.below hb4 p6.lt
      have r7 := r6.below hb4 r6.lt
      have p8 := p7.set 4 (.slice bF D.F.length dF)
      have r8 := r7.other (c := b) (by omega) 4 (.slice bF D.F.length dF)
      obtain ⟨W4, hW4⟩ : ∃ W4, W4 = w4.setCell ⟨b, 4, none⟩ (.slice bF D.F.length dF) := ⟨_, rfl⟩
      have hs4 := hb4.size
      have hbW4 : Below b w W4 := by rw [hW4]; exact (hbW3.trans (hb4.mono (by omega))).setCell (by simp) _
      have hown : OwnD W4 (b + 2) (.slice bS D.S.length dS) (.slice bC D.C.length dC) (.slice bK D.K.length dK) (.slice bF D.F.length dF) g D := by
        have h := cop7.up hb4
        rw [hW4]
        refine ⟨own_set (own_up own6 hb4) (by simp) _, own_set h.c (by simp) _, own_set (own_up own7 hb4) (by simp) _, own_less (own_set own8 (by simp; omega) _) (by omega), fun i hi => own_set (h.cs i (by omega)) (by simp) _, fun x h1 h2 => ?_, fun i j x hi hj => h.cc i j x (by omega) (by omega)⟩
        have a1 := hKlt x h1
        have a2 := (own8.lt x h2).1
        omega
      have d0 := p7.cell 4 _ rfl
      have d1 := p7.free 4
      have e0 := p8.cell 0 _ rfl
      have e1 := p8.cell 1 _ rfl
      have e2 := p8.cell 2 _ rfl
      have e3 := p8.cell 3 _ rfl
      have e4 := p8.cell 4 _ rfl
      have a0 := r8.cell 0 _ rfl
      have a1 := r8.cell 1 _ rfl
      have a2 := r8.cell 2 _ rfl
      have a3 := r8.cell 3 _ rfl
      have a4 := r8.cell 4 _ rfl
      have a5 := r8.free 0
      have a6 := r8.free 1
      have a7 := r8.free 2
      have a8 := r8.free 3
      have a9 := r8.free 4
      clear own6 own7 own8 cop7 p6 p7 p8 r6 r7
      have hend := OwnD.less (B' := b) (((((((hW4 ▸ hown).low (a := ⟨b + 1, 0, none⟩) (by simp) (.slice bS D.S.length dS)).low (a := ⟨b + 1, 1, none⟩) (by simp) (.slice bC D.C.length dC)).low (a := ⟨b + 1, 2, none⟩) (by simp) (.slice bK D.K.length dK)).low (a := ⟨b + 1, 3, none⟩) (by simp) (.int .i64 D.n)).low (a := ⟨b + 1, 4, none⟩) (by simp) (.slice bF D.F.length dF))) (by omega)
      have hbl := ((((((hW4 ▸ hbW4).setCell (p := ⟨b + 1, 0, none⟩) (by simp) (.slice bS D.S.length dS)).setCell (p := ⟨b + 1, 1, none⟩) (by simp) (.slice bC D.C.length dC)).setCell (p := ⟨b + 1, 2, none⟩) (by simp) (.slice bK D.K.length dK)).setCell (p := ⟨b + 1, 3, none⟩) (by simp) (.int .i64 D.n)).setCell (p := ⟨b + 1, 4, none⟩) (by simp) (.slice bF D.F.length dF))
      have hrg := (((((r8.set 0 (.slice bS D.S.length dS)).set 1 (.slice bC D.C.length dC)).set 2 (.slice bK D.K.length dK)).set 3 (.int .i64 D.n)).set 4 (.slice bF D.F.length dF)).range
      have HR := Lib.hid hrg
      have HE := Lib.hid hend
      have HB := Lib.hid hbl
      clear hend hbl hrg r8
      go_wp2_with fail
      refine bodyPost_ret (results_cell (cs := [.slice bS D.S.length dS, .slice bC D.C.length dC, .slice bK D.K.length dK, .int .i64 D.n, .slice bF D.F.length dF]) Try.results49 (by rfl) HR.out Try.underlying55 rfl (by kernel_rfl)) rfl ?_
      rw [hbe]
      exact ⟨_, _, _, _, g, rfl, HE.out, HB.out⟩

end Go.Proofs.Ytleemgjbihdbgaa
