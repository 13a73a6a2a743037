/- Joined: DevRefCopied, DevRefStart, DevRefOwn, DevRefCrash, DevRefDo, DevRefDoA, DevRefDoB, DevRefDoC, DevRefDoD. -/
import Derived.Test.YtleemgjbihdbgaaDevNew
import Derived.Test.YtleemgjbihdbgaaFreshApp
import Derived.Test.YtleemgjbihdbgaaDevRefWithout
import Derived.Test.YtleemgjbihdbgaaLastTwo
import Derived.Test.YtleemgjbihdbgaaDevVar
import Derived.Test.YtleemgjbihdbgaaJoinDevCS
import Derived.Test.YtleemgjbihdbgaaJoinDevRefCheckNo
import Derived.Test.YtleemgjbihdbgaaJoinDevActJ
import Derived.Test.YtleemgjbihdbgaaDevRefFence
/-
  The document's copy of a device: it shares no memory with it: by contract.
-/
namespace Go.Proofs.Ytleemgjbihdbgaa
open Go.RowKit
set_option linter.unusedVariables false
set_option linter.unusedSimpArgs false

/-- A device's parts, the caches not copied yet. -/
def CopAgg (B : Nat) (D : Dev) (v : Value) (w : World) : Prop := ∃ aS cS aK cK aF cF, v = .agg #[.slice aS D.S.length cS, .slice none 0 0, .slice aK D.K.length cK, .int .i64 D.n, .slice aF D.F.length cF] ∧ w.ownsRow B 9 1 (.slice aS D.S.length cS) D.S.length (strV D.S) ∧
  w.ownsRow B 3 1 (.slice aK D.K.length cK) D.K.length (D.K.map (Value.int .i64)) ∧ w.ownsRow B 3 1 (.slice aF D.F.length cF) D.F.length (D.F.map (Value.int .i64)) ∧ ∀ b, (Value.slice aK D.K.length cK).ownBlock = some b → (Value.slice aF D.F.length cF).ownBlock ≠ some b
theorem CopAgg.below {B : Nat} {D : Dev} {v : Value} {w w' : World} (h : CopAgg B D v w) (hb : Below w.heap.size w w') : CopAgg B D v w' := by
  obtain ⟨aS, cS, aK, cK, aF, cF, e, h1, h2, h3, h4⟩ := h
  exact ⟨aS, cS, aK, cK, aF, cF, e, own_up h1 hb, own_up h2 hb, own_up h3 hb, h4⟩
/-- An empty row of the call's own; a row. -/
def Emp (B : Nat) (e : TypeId) (v : Value) (w : World) : Prop := ∃ g, v = .slice (some ⟨g, 0, none⟩) 0 0 ∧ w.ownsRow B e 1 v 0 []
def Rw (B : Nat) (e : TypeId) (n : Nat) (xs : List Value) (v : Value) (w : World) : Prop := ∃ A c, v = .slice A n c ∧ w.ownsRow B e 1 v n xs
theorem Emp.below {B : Nat} {e : TypeId} {v : Value} {w w' : World} (h : Emp B e v w) (hb : Below w.heap.size w w') : Emp B e v w' := by
  obtain ⟨g, e1, h⟩ := h
  exact ⟨g, e1, own_up h hb⟩
theorem Rw.below {B n : Nat} {e : TypeId} {xs : List Value} {v : Value} {w w' : World} (h : Rw B e n xs v w) (hb : Below w.heap.size w w') : Rw B e n xs v w' := by
  obtain ⟨A, c, e1, h⟩ := h
  exact ⟨A, c, e1, own_up h hb⟩
theorem Emp.old {B g : Nat} {e : TypeId} {v : Value} {w : World} (h : Emp B e v w) (hg : v.ownBlock = some g) : g < w.heap.size := by
  obtain ⟨_, _, h⟩ := h
  exact (h.lt g hg).2
theorem Rw.old {B g n : Nat} {e : TypeId} {xs : List Value} {v : Value} {w : World} (h : Rw B e n xs v w) (hg : v.ownBlock = some g) : g < w.heap.size := by
  obtain ⟨_, _, _, h⟩ := h
  exact (h.lt g hg).2
/-- What each operation of the composite yields; what two of them made lies apart. -/
def CopR (B b : Nat) (D : Dev) (sS sK sF : Value) : Nat → Value → World → Prop
  | 0, v, w => Emp B 9 v w
  | 1, v, _ => v = .pointer (some ⟨b, 0, none⟩)
  | 2, v, _ => v = sS
  | 3, v, w => Rw B 9 D.S.length (strV D.S) v w
  | 4, v, w => Emp B 3 v w
  | 5, v, _ => v = .pointer (some ⟨b, 2, none⟩)
  | 6, v, _ => v = sK
  | 7, v, w => Rw B 3 D.K.length (D.K.map (Value.int .i64)) v w
  | 8, v, _ => v = .pointer (some ⟨b, 3, none⟩)
  | 9, v, _ => v = .int .i64 D.n
  | 10, v, w => Emp B 3 v w
  | 11, v, _ => v = .pointer (some ⟨b, 4, none⟩)
  | 12, v, _ => v = sF
  | 13, v, w => Rw B 3 D.F.length (D.F.map (Value.int .i64)) v w
  | 14, v, w => CopAgg B D v w
  | 15, v, w => ∃ r cs, v = .pointer (some ⟨r, 0, none⟩) ∧ B ≤ r ∧ Blk w r cs 29 ∧ cs.size = 5
  | _, _, _ => True
theorem copR_keep {B b : Nat} {D : Dev} {sS sK sF : Value} (i : Nat) (v : Value) (w w' : World) (hi : i < 16) (h : CopR B b D sS sK sF i v w) (hb : Below w.heap.size w w') : CopR B b D sS sK sF i v w' := by
  match i, hi, h with
  | 0, _, h => exact Emp.below h hb
  | 1, _, h => exact h
  | 2, _, h => exact h
  | 3, _, h => exact Rw.below h hb
  | 4, _, h => exact Emp.below h hb
  | 5, _, h => exact h
  | 6, _, h => exact h
  | 7, _, h => exact Rw.below h hb
  | 8, _, h => exact h
  | 9, _, h => exact h
  | 10, _, h => exact Emp.below h hb
  | 11, _, h => exact h
  | 12, _, h => exact h
  | 13, _, h => exact Rw.below h hb
  | 14, _, h => exact CopAgg.below h hb
  | 15, _, ⟨r, cs, e, h1, h2, h3⟩ => exact ⟨r, cs, e, h1, h2.below hb h2.lt, h3⟩
  | n + 16, hi, _ => exact absurd hi (by omega)
def CopT (i j : Nat) (u v : Value) : Prop := ((i = 4 ∨ i = 7) ∧ (j = 10 ∨ j = 13) ∨ (i = 10 ∨ i = 13) ∧ (j = 4 ∨ j = 7)) → ∀ g, u.ownBlock = some g → v.ownBlock ≠ some g
theorem copR_old {B b : Nat} {D : Dev} {sS sK sF : Value} {j g : Nat} {u : Value} {w : World} (h : CopR B b D sS sK sF j u w) (hj : (j = 4 ∨ j = 7) ∨ (j = 10 ∨ j = 13)) (hg : u.ownBlock = some g) : g < w.heap.size := by
  rcases hj with (rfl | rfl) | (rfl | rfl)
  · exact Emp.old h hg
  · exact Rw.old h hg
  · exact Emp.old h hg
  · exact Rw.old h hg
/-- What is made now lies apart from what was there. -/
theorem copT_new {B b : Nat} {D : Dev} {sS sK sF : Value} {j i : Nat} {u v : Value} {w : World} (h : CopR B b D sS sK sF j u w) (hv : ∀ g, v.ownBlock = some g → w.heap.size ≤ g) : CopT j i u v ∧ CopT i j v u := by
  refine ⟨fun hh g hg hg' => ?_, fun hh g hg hg' => ?_⟩
  · have h1 := copR_old h (by omega) hg
    have h2 := hv g hg'
    omega
  · have h1 := copR_old h (by omega) hg'
    have h2 := hv g hg
    omega
theorem copT_swap {i j : Nat} {u v : Value} (h : CopT i j u v) : CopT j i v u := fun hh g hg hg' => h (by omega) g hg' hg
/-- An empty row that stays as it is. -/
theorem copT_as {i i' j : Nat} {u v : Value} (h : i ≠ j → CopT j i u v) (hi : i = 4 ∨ i = 10) (hii : i' = i + 3) : CopT j i' u v ∧ CopT i' j v u := by
  have h1 : CopT j i' u v := fun hh => by
    by_cases e : i = j
    · omega
    · exact h e (by omega)
  exact ⟨h1, copT_swap h1⟩

/-- One cache more. -/
theorem OwnD.pushC {w w1 : World} {B : Nat} {vS vC vK vF : Value} {f : Nat → Value} {D : Dev} (h : OwnD w B vS vC vK vF f D) (hg : w.grownBy w1 vC.ownBlock) {vC' u : Value} {l : List Cel} (hu : w.ownsRow B 59 2 u l.length (celV l))
    (ha : ∀ j b, j < D.C.length → u.ownBlock = some b → (f j).ownBlock ≠ some b) (hown : w1.ownsRow B 57 1 vC' (D.C.length + 1) ((List.range D.C.length).map f ++ [u])) :
    OwnD w1 B vS vC' vK vF (fun j => if j = D.C.length then u else f j) { D with C := D.C ++ [l] } := by
  have key : ∀ {e : TypeId} {n size : Nat} {v : Value} {xs : List Value}, w.ownsRow B e size v n xs → e ≠ 57 → v.ownBlock = none ∨ v.ownBlock ≠ vC.ownBlock := by
    intro e n size v xs hv hne
    cases e1 : vC.ownBlock with
    | none => cases e2 : v.ownBlock <;> simp
    | some g => exact own_apart hv h.c hne e1
  have hlen : ({ D with C := D.C ++ [l] } : Dev).C.length = D.C.length + 1 := by simp
  refine ⟨h.s.kept hg (key h.s (by decide)), ?_, h.k.kept hg (key h.k (by decide)), h.ff.kept hg (key h.ff (by decide)), fun i hi => ?_, h.kf, fun i j b hi hj h1 h2 => ?_⟩
  · rw [hlen, List.range_succ, List.map_append]
    have e : (List.range D.C.length).map (fun j => if j = D.C.length then u else f j) = (List.range D.C.length).map f := List.map_congr_left fun j hj => if_neg (by have := List.mem_range.1 hj; omega)
    rw [e]
    simpa using hown
  · rw [hlen] at hi
    show w1.ownsRow B _ 2 (if i = D.C.length then u else f i) ((D.C ++ [l]).getD i []).length (celV ((D.C ++ [l]).getD i []))
    by_cases e : i = D.C.length
    · subst e
      rw [if_pos rfl, show (D.C ++ [l]).getD D.C.length [] = l by simp [List.getD]]
      exact hu.kept hg (key hu (by decide))
    · have hi' : i < D.C.length := by omega
      rw [if_neg e, show (D.C ++ [l]).getD i [] = D.C.getD i [] by rw [List.getD, List.getD, List.getElem?_append_left hi']]
      exact (h.cs i hi').kept hg (key (h.cs i hi') (by decide))
  · rw [hlen] at hi hj
    by_cases e1 : i = D.C.length <;> by_cases e2 : j = D.C.length
    · omega
    · rw [if_pos e1] at h1
      rw [if_neg e2] at h2
      exact absurd h2 (ha j b (by omega) h1)
    · rw [if_neg e1] at h1
      rw [if_pos e2] at h2
      exact absurd h1 (ha i b (by omega) h2)
    · rw [if_neg e1] at h1
      rw [if_neg e2] at h2
      exact h.cc i j b (by omega) (by omega) h1 h2
theorem CopAgg.own {B : Nat} {D : Dev} {v : Value} {w : World} (h : CopAgg B D v w) : ∃ aS cS aK cK aF cF, v = .agg #[.slice aS D.S.length cS, .slice none 0 0, .slice aK D.K.length cK, .int .i64 D.n, .slice aF D.F.length cF] ∧
    OwnD w B (.slice aS D.S.length cS) (.slice none 0 0) (.slice aK D.K.length cK) (.slice aF D.F.length cF) (fun _ => .slice none 0 0) { D with C := [] } := by
  obtain ⟨aS, cS, aK, cK, aF, cF, e, h1, h2, h3, h4⟩ := h
  exact ⟨aS, cS, aK, cK, aF, cF, e, h1, World.ownsRow_nil _ _ _ _, h2, h3, fun i hi => by simp at hi, h4, fun i j b hi => by simp at hi⟩

set_option maxRecDepth 100000 in
set_option maxHeartbeats 4000000 in
theorem refCopied_any (v : Value) (D : Dev) (w : World) (hD : DevAt w w.heap.size v D) (hSm : Small D 1099511627776) :
    Calls Try.prog 29 #[v] w fun e w' => ∃ vS vC vK vF f, e = .returned (.agg #[vS, vC, vK, .int .i64 D.n, vF]) ∧ OwnD w' w.heap.size vS vC vK vF f D ∧ Below w.heap.size w w' := by
  obtain ⟨vS, vC, vK, vF, rfl, ⟨aS, cS, rfl, hSc, hSmx, hS1⟩, ⟨aC, cC, rfl, hCc, hCm, f, hC1, hCs⟩, ⟨aK, cK, rfl, hKc, hKm, hK1⟩, ⟨aF, cF, rfl, hFc, hFm, hF1⟩⟩ := hD
  obtain ⟨b, hbe⟩ : ∃ b, w.heap.size = b := ⟨_, rfl⟩
  rw [hbe] at hS1 hC1 hK1 hF1 hCs
  have ls := hSm.s
  have lk := hSm.k
  have lf := hSm.f
  have lc := hSm.c
  obtain ⟨W0, hW0⟩ : ∃ W0, W0 = (w.alloc (.cells #[.slice aS D.S.length cS, .slice aC D.C.length cC, .slice aK D.K.length cK, .int .i64 D.n, .slice aF D.F.length cF] 29)).alloc (.cells #[.slice none 0 0, .slice none 0 0, .slice none 0 0, .int .i64 0, .slice none 0 0] 29) := ⟨_, rfl⟩
  have hb0 : Below b w W0 := by rw [hW0]; exact ((Below.refl _ _).alloc (by omega) _).alloc (by simp; omega) _
  have p0 : Blk W0 b #[.slice aS D.S.length cS, .slice aC D.C.length cC, .slice aK D.K.length cK, .int .i64 D.n, .slice aF D.F.length cF] 29 := by rw [hW0, ← hbe]; exact (Blk.new w _ _).alloc _
  have r0 : Blk W0 (b + 1) #[.slice none 0 0, .slice none 0 0, .slice none 0 0, .int .i64 0, .slice none 0 0] 29 := by
    have := Blk.new (w.alloc (.cells #[.slice aS D.S.length cS, .slice aC D.C.length cC, .slice aK D.K.length cK, .int .i64 D.n, .slice aF D.F.length cF] 29)) #[.slice none 0 0, .slice none 0 0, .slice none 0 0, .int .i64 0, .slice none 0 0] 29
    rw [hW0, ← hbe]
    simpa using this
  obtain ⟨B0, hsz⟩ : ∃ B0, W0.heap.size = B0 := ⟨_, rfl⟩
  have hB0 : B0 = b + 2 := by rw [← hsz, hW0, ← hbe]; simp
  have hbB : b < W0.heap.size := by omega
  have HS1 := Lib.hid (show Lies W0 W0.heap.size aS D.S.length (strV D.S) from (hS1.below hb0).more (by omega))
  have HK1 := Lib.hid (show Lies W0 W0.heap.size aK D.K.length (D.K.map (Value.int .i64)) from (hK1.below hb0).more (by omega))
  have HF1 := Lib.hid (show Lies W0 W0.heap.size aF D.F.length (D.F.map (Value.int .i64)) from (hF1.below hb0).more (by omega))
  have q0 : W0.cell? ⟨b, 0, none⟩ = some (.slice aS D.S.length cS) := p0.cell 0 _ rfl
  have q1 : W0.cell? ⟨b, 1, none⟩ = some (.slice aC D.C.length cC) := p0.cell 1 _ rfl
  have q2 : W0.cell? ⟨b, 2, none⟩ = some (.slice aK D.K.length cK) := p0.cell 2 _ rfl
  have q3 : W0.cell? ⟨b, 3, none⟩ = some (.int .i64 D.n) := p0.cell 3 _ rfl
  have q4 : W0.cell? ⟨b, 4, none⟩ = some (.slice aF D.F.length cF) := p0.cell 4 _ rfl
  obtain ⟨i2, hi2, hy0, hy1, hy2⟩ := info_parts infoInt
  obtain ⟨i3, hi3, hx0, hx1, hx2⟩ := info_parts infoString
  clear hS1 hK1 hF1
  go_enter Try.func29, Try.ntmps29
  go_wp2_with fail
  rw [← hW0]
  clear hW0
  refine wp_region_last2 CopT (CopR W0.heap.size b D (.slice aS D.S.length cS) (.slice aK D.K.length cK) (.slice aF D.F.length cF)) (fun W => Below W0.heap.size W0 W) 16 (by kernel_rfl) rfl (by kernel_rfl) (by kernel_rfl) (by kernel_rfl) ((Below.refl _ _).drew) (fun i v w w' hi h hb => copR_keep i v w w' hi h hb) ?_ ?_
  · intro i o vs W hi ho hS hdep hTd
    match i, hi with
    | 0, _ =>
      obtain rfl := Option.some.inj ho
      clear ho hdep hTd
      refine wpOp_run (v := .slice (some ⟨W.heap.size, 0, none⟩) 0 0) (w' := W.alloc (.cells #[] 9)) rfl rfl ?_ ⟨_, rfl, hS.alloc hS.size _, ⟨_, rfl, World.ownsRow_lit W #[] 0 hS.size (Nat.zero_le _) rfl⟩, below_alloc W _, fun j u _ _ _ _ => ⟨fun h => by omega, fun h => by omega⟩⟩
      simp only [putAll, Act.put, List.setIfInBounds_toArray, List.set_cons_zero, List.set_cons_succ]
      go_simp
    | 1, _ =>
      obtain rfl := Option.some.inj ho
      clear ho hdep hTd
      refine wpOp_run (v := .pointer (some ⟨b, 0, none⟩)) (w' := W) rfl rfl ?_ ⟨_, rfl, hS, rfl, Below.refl _ _, fun j u _ _ _ _ => ⟨fun h => by omega, fun h => by omega⟩⟩
      simp only [putAll, Act.put, List.setIfInBounds_toArray, List.set_cons_zero, List.set_cons_succ]
      go_simp
    | 2, _ =>
      obtain rfl := Option.some.inj ho
      have e1 : vs 1 = .pointer (some ⟨b, 0, none⟩) := hdep ⟨1, .data⟩ (by simp) rfl
      have ec : W.cell? ⟨b, 0, none⟩ = some (.slice aS D.S.length cS) := (hS.cell (p := ⟨b, 0, none⟩) hbB).trans q0
      clear ho hdep hTd
      refine wpOp_run (v := .slice aS D.S.length cS) (w' := W) rfl rfl ?_ ⟨_, rfl, hS, rfl, Below.refl _ _, fun j u _ _ _ _ => ⟨fun h => by omega, fun h => by omega⟩⟩
      simp only [putAll, Act.put, List.setIfInBounds_toArray, List.set_cons_zero, List.set_cons_succ, e1]
      go_simp
    | 3, _ =>
      obtain rfl := Option.some.inj ho
      obtain ⟨g, e0, o0⟩ : ∃ g, vs 0 = .slice (some ⟨g, 0, none⟩) 0 0 ∧ _ := hdep ⟨0, .data⟩ (by simp) rfl
      have e1 : vs 2 = .slice aS D.S.length cS := hdep ⟨2, .data⟩ (by simp) rfl
      rw [e0] at o0
      obtain ⟨A', c', W1, hrun, hown, hb, hfr⟩ := run_append_fresh2 (P := Try.prog) W W.heap.size W0.heap.size 22 22 9 i3 (.string ⟨#[]⟩) 1 16 Try.underlying22 hi3 hx0 hx1 hx2 rfl (by omega) g o0 hS.size aS D.S.length cS (strV D.S) (by unfold LiesK; rw [Nat.mul_one]; exact (HS1.out.below hS).more hS.size) (by unfold maxLen; omega) (by omega)
      clear ho hdep hTd
      refine wpOp_run (v := .slice A' D.S.length c') (w' := W1) rfl rfl ?_ ⟨_, rfl, hS.trans (hb.mono hS.size), ⟨A', c', rfl, hown⟩, hb, fun j u _ _ _ _ => ⟨fun h => by omega, fun h => by omega⟩⟩
      simp only [putAll, Act.put, List.setIfInBounds_toArray, List.set_cons_zero, List.set_cons_succ, e0, e1]
      simp [execOp, resolve, invoke, builtin, Act.eval, hrun, Result.andThen]
    | 4, _ =>
      obtain rfl := Option.some.inj ho
      clear ho hdep hTd
      refine wpOp_run (v := .slice (some ⟨W.heap.size, 0, none⟩) 0 0) (w' := W.alloc (.cells #[] 3)) rfl rfl ?_ ⟨_, rfl, hS.alloc hS.size _, ⟨_, rfl, World.ownsRow_lit W #[] 0 hS.size (Nat.zero_le _) rfl⟩, below_alloc W _, fun j u _ _ hR _ => copT_new hR (by intro g hg; simp [Value.ownBlock] at hg; omega)⟩
      simp only [putAll, Act.put, List.setIfInBounds_toArray, List.set_cons_zero, List.set_cons_succ]
      go_simp
    | 5, _ =>
      obtain rfl := Option.some.inj ho
      clear ho hdep hTd
      refine wpOp_run (v := .pointer (some ⟨b, 2, none⟩)) (w' := W) rfl rfl ?_ ⟨_, rfl, hS, rfl, Below.refl _ _, fun j u _ _ _ _ => ⟨fun h => by omega, fun h => by omega⟩⟩
      simp only [putAll, Act.put, List.setIfInBounds_toArray, List.set_cons_zero, List.set_cons_succ]
      go_simp
    | 6, _ =>
      obtain rfl := Option.some.inj ho
      have e1 : vs 5 = .pointer (some ⟨b, 2, none⟩) := hdep ⟨5, .data⟩ (by simp) rfl
      have ec : W.cell? ⟨b, 2, none⟩ = some (.slice aK D.K.length cK) := (hS.cell (p := ⟨b, 2, none⟩) hbB).trans q2
      clear ho hdep hTd
      refine wpOp_run (v := .slice aK D.K.length cK) (w' := W) rfl rfl ?_ ⟨_, rfl, hS, rfl, Below.refl _ _, fun j u _ _ _ _ => ⟨fun h => by omega, fun h => by omega⟩⟩
      simp only [putAll, Act.put, List.setIfInBounds_toArray, List.set_cons_zero, List.set_cons_succ, e1]
      go_simp
    | 7, _ =>
      obtain rfl := Option.some.inj ho
      obtain ⟨g, e0, o0⟩ : ∃ g, vs 4 = .slice (some ⟨g, 0, none⟩) 0 0 ∧ _ := hdep ⟨4, .data⟩ (by simp) rfl
      have e1 : vs 6 = .slice aK D.K.length cK := hdep ⟨6, .data⟩ (by simp) rfl
      rw [e0] at o0
      obtain ⟨A', c', W1, hrun, hown, hb, hfr⟩ := run_append_fresh2 (P := Try.prog) W W.heap.size W0.heap.size 27 27 3 i2 (.int .i64 0) 1 8 Try.underlying27 hi2 hy0 hy1 hy2 rfl (by omega) g o0 hS.size aK D.K.length cK (D.K.map (Value.int .i64)) (by unfold LiesK; rw [Nat.mul_one]; exact (HK1.out.below hS).more hS.size) (by unfold maxLen; omega) (by omega)
      have hT : ∀ j u, j < 16 → j ≠ 7 → CopR W0.heap.size b D (.slice aS D.S.length cS) (.slice aK D.K.length cK) (.slice aF D.F.length cF) j u W → (4 ≠ j → CopT j 4 u (.slice (some ⟨g, 0, none⟩) 0 0)) → CopT j 7 u (.slice A' D.K.length c') ∧ CopT 7 j (.slice A' D.K.length c') u := by
        intro j u _ _ hR hd
        rcases hfr with he | ho2
        · rw [he]
          exact copT_as hd (by omega) rfl
        · exact copT_new hR fun g' hg' => (ho2.lt g' hg').1
      clear ho hdep hTd
      refine wpOp_run (v := .slice A' D.K.length c') (w' := W1) rfl rfl ?_ ⟨_, rfl, hS.trans (hb.mono hS.size), ⟨A', c', rfl, hown⟩, hb, fun j u hj hne hR hd => hT j u hj hne hR (fun hh => e0 ▸ hd ⟨4, .data⟩ (by simp) rfl hh)⟩
      simp only [putAll, Act.put, List.setIfInBounds_toArray, List.set_cons_zero, List.set_cons_succ, e0, e1]
      simp [execOp, resolve, invoke, builtin, Act.eval, hrun, Result.andThen]
    | 8, _ =>
      obtain rfl := Option.some.inj ho
      clear ho hdep hTd
      refine wpOp_run (v := .pointer (some ⟨b, 3, none⟩)) (w' := W) rfl rfl ?_ ⟨_, rfl, hS, rfl, Below.refl _ _, fun j u _ _ _ _ => ⟨fun h => by omega, fun h => by omega⟩⟩
      simp only [putAll, Act.put, List.setIfInBounds_toArray, List.set_cons_zero, List.set_cons_succ]
      go_simp
    | 9, _ =>
      obtain rfl := Option.some.inj ho
      have e1 : vs 8 = .pointer (some ⟨b, 3, none⟩) := hdep ⟨8, .data⟩ (by simp) rfl
      have ec : W.cell? ⟨b, 3, none⟩ = some (.int .i64 D.n) := (hS.cell (p := ⟨b, 3, none⟩) hbB).trans q3
      clear ho hdep hTd
      refine wpOp_run (v := .int .i64 D.n) (w' := W) rfl rfl ?_ ⟨_, rfl, hS, rfl, Below.refl _ _, fun j u _ _ _ _ => ⟨fun h => by omega, fun h => by omega⟩⟩
      simp only [putAll, Act.put, List.setIfInBounds_toArray, List.set_cons_zero, List.set_cons_succ, e1]
      go_simp
    | 10, _ =>
      obtain rfl := Option.some.inj ho
      clear ho hdep hTd
      refine wpOp_run (v := .slice (some ⟨W.heap.size, 0, none⟩) 0 0) (w' := W.alloc (.cells #[] 3)) rfl rfl ?_ ⟨_, rfl, hS.alloc hS.size _, ⟨_, rfl, World.ownsRow_lit W #[] 0 hS.size (Nat.zero_le _) rfl⟩, below_alloc W _, fun j u _ _ hR _ => copT_new hR (by intro g hg; simp [Value.ownBlock] at hg; omega)⟩
      simp only [putAll, Act.put, List.setIfInBounds_toArray, List.set_cons_zero, List.set_cons_succ]
      go_simp
    | 11, _ =>
      obtain rfl := Option.some.inj ho
      clear ho hdep hTd
      refine wpOp_run (v := .pointer (some ⟨b, 4, none⟩)) (w' := W) rfl rfl ?_ ⟨_, rfl, hS, rfl, Below.refl _ _, fun j u _ _ _ _ => ⟨fun h => by omega, fun h => by omega⟩⟩
      simp only [putAll, Act.put, List.setIfInBounds_toArray, List.set_cons_zero, List.set_cons_succ]
      go_simp
    | 12, _ =>
      obtain rfl := Option.some.inj ho
      have e1 : vs 11 = .pointer (some ⟨b, 4, none⟩) := hdep ⟨11, .data⟩ (by simp) rfl
      have ec : W.cell? ⟨b, 4, none⟩ = some (.slice aF D.F.length cF) := (hS.cell (p := ⟨b, 4, none⟩) hbB).trans q4
      clear ho hdep hTd
      refine wpOp_run (v := .slice aF D.F.length cF) (w' := W) rfl rfl ?_ ⟨_, rfl, hS, rfl, Below.refl _ _, fun j u _ _ _ _ => ⟨fun h => by omega, fun h => by omega⟩⟩
      simp only [putAll, Act.put, List.setIfInBounds_toArray, List.set_cons_zero, List.set_cons_succ, e1]
      go_simp
    | 13, _ =>
      obtain rfl := Option.some.inj ho
      obtain ⟨g, e0, o0⟩ : ∃ g, vs 10 = .slice (some ⟨g, 0, none⟩) 0 0 ∧ _ := hdep ⟨10, .data⟩ (by simp) rfl
      have e1 : vs 12 = .slice aF D.F.length cF := hdep ⟨12, .data⟩ (by simp) rfl
      rw [e0] at o0
      obtain ⟨A', c', W1, hrun, hown, hb, hfr⟩ := run_append_fresh2 (P := Try.prog) W W.heap.size W0.heap.size 27 27 3 i2 (.int .i64 0) 1 8 Try.underlying27 hi2 hy0 hy1 hy2 rfl (by omega) g o0 hS.size aF D.F.length cF (D.F.map (Value.int .i64)) (by unfold LiesK; rw [Nat.mul_one]; exact (HF1.out.below hS).more hS.size) (by unfold maxLen; omega) (by omega)
      have hT : ∀ j u, j < 16 → j ≠ 13 → CopR W0.heap.size b D (.slice aS D.S.length cS) (.slice aK D.K.length cK) (.slice aF D.F.length cF) j u W → (10 ≠ j → CopT j 10 u (.slice (some ⟨g, 0, none⟩) 0 0)) → CopT j 13 u (.slice A' D.F.length c') ∧ CopT 13 j (.slice A' D.F.length c') u := by
        intro j u _ _ hR hd
        rcases hfr with he | ho2
        · rw [he]
          exact copT_as hd (by omega) rfl
        · exact copT_new hR fun g' hg' => (ho2.lt g' hg').1
      clear ho hdep hTd
      refine wpOp_run (v := .slice A' D.F.length c') (w' := W1) rfl rfl ?_ ⟨_, rfl, hS.trans (hb.mono hS.size), ⟨A', c', rfl, hown⟩, hb, fun j u hj hne hR hd => hT j u hj hne hR (fun hh => e0 ▸ hd ⟨10, .data⟩ (by simp) rfl hh)⟩
      simp only [putAll, Act.put, List.setIfInBounds_toArray, List.set_cons_zero, List.set_cons_succ, e0, e1]
      simp [execOp, resolve, invoke, builtin, Act.eval, hrun, Result.andThen]
    | 14, _ =>
      obtain rfl := Option.some.inj ho
      obtain ⟨A1, c1, e1, o1⟩ : ∃ A c, vs 3 = .slice A D.S.length c ∧ _ := hdep ⟨3, .data⟩ (by simp) rfl
      obtain ⟨A2, c2, e2, o2⟩ : ∃ A c, vs 7 = .slice A D.K.length c ∧ _ := hdep ⟨7, .data⟩ (by simp) rfl
      have e3 : vs 9 = .int .i64 D.n := hdep ⟨9, .data⟩ (by simp) rfl
      obtain ⟨A4, c4, e4, o4⟩ : ∃ A c, vs 13 = .slice A D.F.length c ∧ _ := hdep ⟨13, .data⟩ (by simp) rfl
      have hkf : CopT 7 13 (vs 7) (vs 13) := hTd ⟨7, .data⟩ (by simp) ⟨13, .data⟩ (by simp) rfl rfl (by decide)
      rw [e1] at o1
      rw [e2] at o2 hkf
      rw [e4] at o4 hkf
      clear ho hdep hTd
      refine wpOp_run (v := .agg #[.slice A1 D.S.length c1, .slice none 0 0, .slice A2 D.K.length c2, .int .i64 D.n, .slice A4 D.F.length c4]) (w' := W) rfl rfl ?_ ⟨_, rfl, hS, ⟨A1, c1, A2, c2, A4, c4, rfl, o1, o2, o4, hkf (.inl ⟨.inr rfl, .inr rfl⟩)⟩, Below.refl _ _, fun j u _ _ _ _ => ⟨fun h => by omega, fun h => by omega⟩⟩
      simp only [putAll, Act.put, List.setIfInBounds_toArray, List.set_cons_zero, List.set_cons_succ, e1, e2, e3, e4]
      go_simp
    | 15, _ =>
      obtain rfl := Option.some.inj ho
      clear ho hdep hTd
      refine wpOp_run (v := .pointer (some ⟨W.heap.size, 0, none⟩)) (w' := W.alloc (.cells #[.slice none 0 0, .slice none 0 0, .slice none 0 0, .int .i64 0, .slice none 0 0] 29)) rfl rfl ?_ ⟨_, rfl, hS.alloc hS.size _, ⟨_, _, rfl, hS.size, Blk.new W _ _, rfl⟩, below_alloc W _, fun j u _ _ _ _ => ⟨fun h => by omega, fun h => by omega⟩⟩
      simp only [putAll, Act.put, List.setIfInBounds_toArray, List.set_cons_zero, List.set_cons_succ]
      go_simp
    | n + 16, hi => exact absurd hi (by omega)
  · intro vs W hS hR hT
    obtain ⟨r, cs, e15, b15, k15, s15⟩ := hR 15 (by omega)
    have h14 : CopAgg W0.heap.size D (vs 14) W := hR 14 (by omega)
    obtain ⟨A1, c1, A2, c2, A4, c4, e14, hown⟩ := h14.own
    clear hR h14 hT
    obtain ⟨⟨u0, z0⟩, ⟨u1, z1⟩, ⟨u2, z2⟩, ⟨u3, z3⟩, ⟨u4, z4⟩⟩ := blk_five k15 s15
    have f0 := k15.free 0
    have f1 := k15.free 1
    have f2 := k15.free 2
    have f3 := k15.free 3
    have f4 := k15.free 4
    obtain ⟨W1, hW1⟩ : ∃ W1, W1 = into5 W r (.slice A1 D.S.length c1) (.slice none 0 0) (.slice A2 D.K.length c2) D.n (.slice A4 D.F.length c4) := ⟨_, rfl⟩
    have hO1 := into5_other hown k15 (by decide) (by decide) (by decide) (by decide) (.slice A1 D.S.length c1) (.slice none 0 0) (.slice A2 D.K.length c2) D.n (.slice A4 D.F.length c4)
    have hb1 := into5_below hS b15 (.slice A1 D.S.length c1) (.slice none 0 0) (.slice A2 D.K.length c2) D.n (.slice A4 D.F.length c4)
    have hM1 := into5_self k15 s15 (.slice A1 D.S.length c1) (.slice none 0 0) (.slice A2 D.K.length c2) D.n (.slice A4 D.F.length c4)
    rw [← hW1] at hO1 hb1 hM1
    refine wpOp_step rfl (fun K hK => ?_)
    simp only [putAll, Act.put, List.setIfInBounds_toArray, List.set_cons_zero, List.set_cons_succ, e14, e15]
    go_simp
    refine hK _ _ ?_
    clear hK
    have hW1' := hW1
    unfold into5 at hW1'
    rw [← hW1']
    have hs1 := hb1.size
    have ha1 := hb0.trans (hb1.mono (by omega))
    have p1 := p0.below hb1 hbB
    have r1 := r0.below hb1 r0.lt
    have hO2 : OwnD W1 (b + 2) (.slice A1 D.S.length c1) (.slice none 0 0) (.slice A2 D.K.length c2) (.slice A4 D.F.length c4) (fun _ => .slice none 0 0) { D with C := D.C.take 0 } := by
      rw [← hB0, ← hsz]
      exact hO1
    have hr2 : b + 2 ≤ r := by omega
    have HRN : Hid (b + 2 ≤ r) := hr2
    clear hW1 hW1' z0 z1 z2 z3 z4 f0 f1 f2 f3 f4 hown k15 s15 e14 e15 q0 q1 q2 q3 q4 hO1 hb1 hS p0 r0 b15 HS1 HK1 HF1 hr2
    have HIN := Lib.hid (show b + 2 ≤ W1.heap.size by omega)
    clear hs1 hsz hB0 hbB hb0
    go_wp2_with fail
    go_loopw [4] (fun i wr => ∃ (k : Nat) (aX : Option Addr) (cX : Nat) (g : Nat → Value), k ≤ D.C.length ∧ i = .int .i64 (k : Int) ∧ Below b w wr ∧ b + 2 ≤ wr.heap.size ∧ Blk wr b #[.slice aS D.S.length cS, .slice aC D.C.length cC, .slice aK D.K.length cK, .int .i64 D.n, .slice aF D.F.length cF] 29 ∧ Blk wr (b + 1) #[.slice none 0 0, .slice none 0 0, .slice none 0 0, .int .i64 0, .slice none 0 0] 29 ∧ Blk wr r #[.slice A1 D.S.length c1, .slice aX k cX, .slice A2 D.K.length c2, .int .i64 D.n, .slice A4 D.F.length c4] 29 ∧ OwnD wr (b + 2) (.slice A1 D.S.length c1) (.slice aX k cX) (.slice A2 D.K.length c2) (.slice A4 D.F.length c4) g { D with C := D.C.take k }) (fun i _ => D.C.length - (intOf i).toNat)
    case atStart => exact ⟨0, none, 0, _, Nat.zero_le _, rfl, ha1, HIN.out, p1, r1, hM1, hO2⟩
    case round =>
      clear ha1 p1 r1 hM1 hO2 HIN
      obtain ⟨k, aX, cX, g, hk, rfl, hbr, hszr, pr, rr, mr, hO⟩ := hrel
      by_cases hlk : k < D.C.length
      · obtain ⟨a, c, e2, l1, l2, l3⟩ := hCs k hlk
        obtain ⟨ad, u, rfl, had, hu, hcu⟩ := hC1.at_ hlk
        obtain rfl : u = .slice a (D.C.getD k []).length c := by
          rw [List.getElem?_map, List.getElem?_range hlk] at hu
          exact (Option.some.inj hu).symm.trans e2
        have HLL : Hid (D.C.getD k [] ∈ D.C) := by show D.C.getD k [] ∈ D.C; rw [List.getD, List.getElem?_eq_getElem hlk]; exact List.getElem_mem _
        have HTK : Hid (D.C.take k ++ [D.C.getD k []] = D.C.take (k + 1)) := by
          show _ = _
          rw [List.take_succ_eq_append_getElem hlk, List.getD, List.getElem?_eq_getElem hlk]
          rfl
        have hlb := hSm.cs _ HLL.out
        have hcr : wr.cell? (ad.add k) = some (.slice a (D.C.getD k []).length c) := (hbr.cell (by rw [add_block]; omega)).trans hcu
        have l3r : Lies wr b a ((D.C.getD k []).length * 2) (celV (D.C.getD k [])) := l3.below hbr
        clear e2 HLL hu hcu l3
        generalize D.C.getD k [] = l at *
        obtain ⟨nl, hnl⟩ : ∃ nl, l.length = nl := ⟨_, rfl⟩
        rw [hnl] at hcr l3r l1 hlb
        have HNL := Lib.hid hnl
        clear hnl
        obtain ⟨i0, hi0, hv0, hv1, hv2⟩ := info_parts infoCell
        obtain ⟨i1, hi1, hw0, hw1, hw2⟩ := info_parts infoCells
        have hlen : (D.C.take k).length = k := by rw [List.length_take]; omega
        have n1 : wr.cell? ⟨b, 1, none⟩ = some (.slice (some ad) D.C.length cC) := pr.cell 1 _ rfl
        have n2 := hcr
        have m1 : wr.cell? ⟨r, 1, none⟩ = some (.slice aX k cX) := mr.cell 1 _ rfl
        have hk0 : (0 : Int) ≤ (k : Int) := by omega
        have hk1 : (k : Int) < (D.C.length : Int) := by omega
        have HK1 := Lib.hid (show k + 1 ≤ D.C.length by omega)
        -- behind the empty row
        obtain ⟨WA, hWA⟩ : ∃ WA, WA = (wr.alloc (.cells #[] 59)).drew := ⟨_, rfl⟩
        have hbA : Below wr.heap.size wr WA := by rw [hWA]; exact (below_alloc wr _).drew
        have hlA : wr.heap.size < WA.heap.size := by rw [hWA]; simp
        have own0 : WA.ownsRow wr.heap.size 59 2 (.slice (some ⟨wr.heap.size, 0, none⟩) 0 0) 0 [] := by rw [hWA]; exact own_up (World.ownsRow_lit wr #[] 0 (Nat.le_refl _) (Nat.zero_le _) rfl) ((Below.refl _ _).drew)
        have hkeep : ∀ wx : World, Below wr.heap.size wr wx → wx.cell? ⟨b, 1, none⟩ = some (.slice (some ad) D.C.length cC) ∧ wx.cell? (ad.add k) = some (.slice a nl c) := fun wx hx =>
          ⟨(hx.cell (p := ⟨b, 1, none⟩) (show b < wr.heap.size by omega)).trans n1, (hx.cell (by rw [add_block]; omega)).trans n2⟩
        have HWA := Lib.hid (hkeep WA hbA)
        have HWA0 : Hid (((wr.alloc (.cells #[] 59)).drew).cell? ⟨b, 1, none⟩ = some (.slice (some ad) D.C.length cC) ∧ ((wr.alloc (.cells #[] 59)).drew).cell? (ad.add k) = some (.slice a nl c)) := hkeep _ ((below_alloc wr _).drew)
        have m1A : WA.cell? ⟨r, 1, none⟩ = some (.slice aX k cX) := (hbA.cell (p := ⟨r, 1, none⟩) mr.lt).trans m1
        have hlkA : LiesK WA WA.heap.size a nl 2 (celV l) := (l3r.more (B' := wr.heap.size) (by omega) |>.keep (fun _ hp => hbA.cell hp)).more hbA.size
        obtain ⟨A', c', W1, hrun, own1, hb1⟩ := run_append_fresh (P := Try.prog) WA WA.heap.size wr.heap.size 57 57 59 i0 _ 2 24 Try.underlying57 hi0 hv0 hv1 hv2 rfl (by omega) wr.heap.size own0 hbA.size a nl c (celV l) hlkA (by unfold maxLen; omega) (by omega)
        have hb01 : Below wr.heap.size wr W1 := hbA.trans (hb1.mono hbA.size)
        have HW1 := Lib.hid (hkeep W1 hb01)
        obtain ⟨WB, hWB⟩ : ∃ WB, WB = W1.alloc (.cells #[.slice A' nl c'] 57) := ⟨_, rfl⟩
        have hbB1 : Below W1.heap.size W1 WB := by rw [hWB]; exact below_alloc W1 _
        have hbB : Below wr.heap.size wr WB := hb01.trans (hbB1.mono hb01.size)
        have HWB0 : Hid ((W1.alloc (.cells #[.slice A' nl c'] 57)).cell? ⟨b, 1, none⟩ = some (.slice (some ad) D.C.length cC) ∧ (W1.alloc (.cells #[.slice A' nl c'] 57)).cell? (ad.add k) = some (.slice a nl c) ) := by
          have h := hkeep WB hbB
          rw [hWB] at h
          exact h
        have hOB := hO.up hbB
        have HOWN : Hid (WB.ownsRow (b + 2) 57 1 (.slice aX k cX) k ((List.range k).map g)) := by
          have h : WB.ownsRow (b + 2) 57 1 (.slice aX k cX) (D.C.take k).length ((List.range (D.C.take k).length).map g) := hOB.c
          rw [hlen] at h
          exact h
        have HNEW : Hid (∀ j u, [Value.slice A' nl c'][j]? = some u → WB.cell? ((⟨W1.heap.size, 0, none⟩ : Addr).add j) = some u) := fun j u hj => by
          rw [hWB, Addr.add_lit, Nat.zero_add]
          refine (Blk.new W1 _ _).cell j u ?_
          match j, hj with
          | 0, hj => exact hj
          | j + 1, hj => simp at hj
        have m1B : W1.cell? ⟨r, 1, none⟩ = some (.slice aX k cX) := (hb01.cell (p := ⟨r, 1, none⟩) mr.lt).trans m1
        have m1C : WB.cell? ⟨r, 1, none⟩ = some (.slice aX k cX) := (hbB.cell (p := ⟨r, 1, none⟩) mr.lt).trans m1
        have HWB := Lib.hid (hkeep WB hbB)
        have HBB : Hid (b + 2 ≤ WB.heap.size) := by have := hbB.size; show _ ≤ _; omega
        have huB : WB.ownsRow (b + 2) 59 2 (.slice A' nl c') l.length (celV l) := by rw [HNL.out]; exact own_less (own_up own1 hbB1) (by omega)
        have hapx : ∀ j x, j < (D.C.take k).length → (Value.slice A' nl c').ownBlock = some x → (g j).ownBlock ≠ some x := fun j x hj h1 h2 => by
          have z1 := (own1.lt x h1).1
          have z2 := ((hO.cs j hj).lt x h2).2
          omega
        have HSTEP : Hid (∀ ga cap2 w2, w2.ownsRow (b + 2) 57 1 (.slice (some ⟨ga, 0, none⟩) (k + 1) cap2) (k + 1) ((List.range k).map g ++ [.slice A' nl c']) → WB.grownBy w2 (Value.slice aX k cX).ownBlock →
            w2.cell? ⟨b, 1, none⟩ = some (.slice (some ad) D.C.length cC) ∧ w2.cell? (ad.add k) = some (.slice a nl c) ∧
            (w2.setCell ⟨r, 1, none⟩ (.slice (some ⟨ga, 0, none⟩) (k + 1) cap2)).cell? ⟨b, 1, none⟩ = some (.slice (some ad) D.C.length cC) ∧ (w2.setCell ⟨r, 1, none⟩ (.slice (some ⟨ga, 0, none⟩) (k + 1) cap2)).cell? (ad.add k) = some (.slice a nl c) ∧
            w2.cell? ⟨r, 1, none⟩ = some (.slice aX k cX) ∧ w2.frozen? ⟨r, 1, none⟩ = false ∧
            Hid (Below b w (w2.setCell ⟨r, 1, none⟩ (.slice (some ⟨ga, 0, none⟩) (k + 1) cap2)) ∧ b + 2 ≤ (w2.setCell ⟨r, 1, none⟩ (.slice (some ⟨ga, 0, none⟩) (k + 1) cap2)).heap.size ∧ Blk (w2.setCell ⟨r, 1, none⟩ (.slice (some ⟨ga, 0, none⟩) (k + 1) cap2)) b #[.slice aS D.S.length cS, .slice (some ad) D.C.length cC, .slice aK D.K.length cK, .int .i64 D.n, .slice aF D.F.length cF] 29 ∧ Blk (w2.setCell ⟨r, 1, none⟩ (.slice (some ⟨ga, 0, none⟩) (k + 1) cap2)) (b + 1) #[.slice none 0 0, .slice none 0 0, .slice none 0 0, .int .i64 0, .slice none 0 0] 29 ∧ Blk (w2.setCell ⟨r, 1, none⟩ (.slice (some ⟨ga, 0, none⟩) (k + 1) cap2)) r #[.slice A1 D.S.length c1, .slice (some ⟨ga, 0, none⟩) (k + 1) cap2, .slice A2 D.K.length c2, .int .i64 D.n, .slice A4 D.F.length c4] 29 ∧ OwnD (w2.setCell ⟨r, 1, none⟩ (.slice (some ⟨ga, 0, none⟩) (k + 1) cap2)) (b + 2) (.slice A1 D.S.length c1) (.slice (some ⟨ga, 0, none⟩) (k + 1) cap2) (.slice A2 D.K.length c2) (.slice A4 D.F.length c4) (fun j => if j = (D.C.take k).length then .slice A' nl c' else g j) { D with C := D.C.take (k + 1) })) := by
          intro ga cap2 w2 hown2 hgrow
          have hrow : ∀ x, (Value.slice aX k cX).ownBlock = some x → b + 2 ≤ x ∧ x ≠ r := fun x hx => ⟨(hO.c.lt x hx).1, fun e => own_blk hO.c mr (by decide) hx e.symm⟩
          have hO2 := hOB.pushC hgrow huB hapx (by
            show w2.ownsRow (b + 2) _ 1 (.slice (some ⟨ga, 0, none⟩) (k + 1) cap2) ((D.C.take k).length + 1) ((List.range (D.C.take k).length).map g ++ [.slice A' nl c'])
            rw [hlen]
            exact hown2)
          have hO3 : OwnD w2 (b + 2) (.slice A1 D.S.length c1) (.slice (some ⟨ga, 0, none⟩) (k + 1) cap2) (.slice A2 D.K.length c2) (.slice A4 D.F.length c4) (fun j => if j = (D.C.take k).length then .slice A' nl c' else g j) { D with C := D.C.take (k + 1) } := by
            rw [← HTK.out]
            exact hO2
          have hbW2 : Below b w w2 := (hbr.trans (hbB.mono (by omega))).grown hgrow (by have := hbB.size; omega) (fun x hx => by have := (hrow x hx).1; omega)
          have p2 : Blk w2 b #[.slice aS D.S.length cS, .slice (some ad) D.C.length cC, .slice aK D.K.length cK, .int .i64 D.n, .slice aF D.F.length cF] 29 := (hgrow.block b (by have := HBB.out; omega) (fun e => by have := (hrow b e.symm).1; omega)).trans (pr.below hbB pr.lt)
          have r2 : Blk w2 (b + 1) #[.slice none 0 0, .slice none 0 0, .slice none 0 0, .int .i64 0, .slice none 0 0] 29 := (hgrow.block (b + 1) (by have := HBB.out; omega) (fun e => by have := (hrow (b + 1) e.symm).1; omega)).trans (rr.below hbB rr.lt)
          have m2 : Blk w2 r #[.slice A1 D.S.length c1, .slice aX k cX, .slice A2 D.K.length c2, .int .i64 D.n, .slice A4 D.F.length c4] 29 := (hgrow.block r (by have := mr.lt; have := hbB.size; omega) (fun e => (hrow r e.symm).2 rfl)).trans (mr.below hbB mr.lt)
          have hsz2 : b + 2 ≤ w2.heap.size := by have := hgrow.size; have := hbB.size; omega
          have hbr2 := HRN.out
          have hc2 : w2.cell? (ad.add k) = some (.slice a nl c) := by
            refine hgrow.cell (a := ad.add k) (hkeep WB hbB).2 (fun e => ?_)
            have := (hrow _ e.symm).1
            rw [add_block] at this
            omega
          have hp : (w2.setCell ⟨r, 1, none⟩ (.slice (some ⟨ga, 0, none⟩) (k + 1) cap2)).cell? (ad.add k) = some (.slice a nl c) := by
            rw [← hc2]
            exact ((Below.refl b w2).setCell (p := ⟨r, 1, none⟩) (show b ≤ r by omega) _).cell (by rw [add_block]; exact had)
          refine ⟨p2.cell 1 _ rfl, hc2, (p2.other (c := r) (by omega) 1 _).cell 1 _ rfl, hp, m2.cell 1 _ rfl, m2.free 1, ⟨hbW2.setCell (show b ≤ r by omega) _, by simpa using hsz2, p2.other (c := r) (by omega) 1 _, r2.other (c := r) (by omega) 1 _, m2.set 1 _, hO3.other m2 (by decide) (by decide) (by decide) (by decide) 1 _⟩⟩
        clear hkeep own0 hlkA own1 hb01 hbB1 hbB hOB huB hapx hO mr pr rr hbr hb1 hlA hbA
        go_wp2_with fail
        refine wp_region_held_drew (S := (fun w' => w'.cell? ⟨b, 1, none⟩ = some (.slice (some ad) D.C.length cC) ∧ w'.cell? (ad.add k) = some (.slice a nl c))) (by kernel_rfl) ?_ (fun hHeld => ?_)
        focus (exact ⟨n1, n2⟩)
        refine wpAnyH_take (i := 0) (oi := ⟨some 27, _, _, _, _, _⟩) (v := ?_) rfl (by kernel_rfl) (by kernel_rfl) (by kernel_rfl) (fun _ _ _ h => h) (Or.inl ⟨by rfl, ?_⟩) (by assumption) ?_
        rotate_left
        focus (intro wq hSq; (try dsimp only at hSq); go_simp; try with_reducible rfl)
        try simp only [Act.put, List.setIfInBounds_toArray, List.set_cons_zero, List.set_cons_succ]
        refine wpAnyH_take (i := 3) (oi := ⟨some 30, _, _, _, _, _⟩) (v := ?_) rfl (by kernel_rfl) (by kernel_rfl) (by kernel_rfl) (fun _ _ _ h => h) (Or.inl ⟨by rfl, ?_⟩) (by assumption) ?_
        rotate_left
        focus (intro wq hSq; (try dsimp only at hSq); go_simp; try with_reducible rfl)
        try simp only [Act.put, List.setIfInBounds_toArray, List.set_cons_zero, List.set_cons_succ]
        refine wpAnyH_take (i := 4) (oi := ⟨some 31, _, _, _, _, _⟩) (v := ?_) rfl (by kernel_rfl) (by kernel_rfl) (by kernel_rfl) (fun _ _ _ h => h) (Or.inl ⟨by rfl, ?_⟩) (by assumption) ?_
        rotate_left
        focus (intro wq hSq; (try dsimp only at hSq); go_simp; try with_reducible rfl)
        try simp only [Act.put, List.setIfInBounds_toArray, List.set_cons_zero, List.set_cons_succ]
        refine wpAnyH_take (i := 5) (oi := ⟨some 32, _, _, _, _, _⟩) (v := ?_) rfl (by kernel_rfl) (by kernel_rfl) (by kernel_rfl) (fun _ _ _ h => h) (Or.inl ⟨by rfl, ?_⟩) (by assumption) ?_
        rotate_left
        focus (intro wq hSq; (try dsimp only at hSq); go_simp; try with_reducible rfl)
        try simp only [Act.put, List.setIfInBounds_toArray, List.set_cons_zero, List.set_cons_succ]
        refine wpAnyH_take (i := 6) (oi := ⟨some 33, _, _, _, _, _⟩) (v := ?_) rfl (by kernel_rfl) (by kernel_rfl) (by kernel_rfl) (fun _ _ _ h => h) (Or.inl ⟨by rfl, ?_⟩) (by assumption) ?_
        rotate_left
        focus (intro wq hSq; (try dsimp only at hSq); go_simp; try with_reducible rfl)
        try simp only [Act.put, List.setIfInBounds_toArray, List.set_cons_zero, List.set_cons_succ]
        refine wpAnyH_take (i := 7) (oi := ⟨some 34, _, _, _, _, _⟩) (v := ?_) rfl (by kernel_rfl) (by kernel_rfl) (by kernel_rfl) (fun _ _ _ h => h) (Or.inl ⟨by rfl, ?_⟩) (by assumption) ?_
        rotate_left
        focus (intro wq hSq; (try dsimp only at hSq); go_simp; try with_reducible rfl)
        try simp only [Act.put, List.setIfInBounds_toArray, List.set_cons_zero, List.set_cons_succ]
        refine wpAnyH_ready (rs := [1, 2]) (by kernel_rfl) (by simp) ?_
        refine AllReadyH.cons (o := ⟨some 28, _, _, _, _, _⟩) rfl (fun K hK => ?_) (AllReadyH.cons (o := ⟨some 29, _, _, _, _, _⟩) rfl (fun K hK => ?_) AllReadyH.nil)
        · go_simp
          refine hK.out _ _ ?_ (fun hHeld => ?_)
          focus (exact ⟨n1, n2⟩)
          clear hK K
          try simp only [Act.put, List.setIfInBounds_toArray, List.set_cons_zero, List.set_cons_succ]
          refine wpAnyH_ready (rs := [2]) (by kernel_rfl) (by simp) ?_
          refine AllReadyH.cons (o := ⟨some 29, _, _, _, _, _⟩) rfl (fun K hK => ?_) AllReadyH.nil
          go_simp
          refine hK.out _ _ ?_ (fun hHeld => ?_)
          focus (exact HWA0.out)
          clear hK K
          try simp only [Act.put, List.setIfInBounds_toArray, List.set_cons_zero, List.set_cons_succ]
          rw [← hWA]
          clear hWA HWA0
          refine wpAnyH_ready (rs := [8]) (by kernel_rfl) (by simp) ?_
          refine AllReadyH.cons (o := ⟨some 35, _, _, _, _, _⟩) rfl (fun K hK => ?_) AllReadyH.nil
          refine step_append_run rfl (.tmp 29) (.tmp 34) 57 rfl (by simp [Act.eval, Act.put]) (by simp [Act.eval, Act.put]) hrun ?_
          refine hK.out _ _ ?_ (fun hHeld => ?_)
          focus (exact HW1.out)
          clear hK K
          try simp only [Act.put, List.setIfInBounds_toArray, List.set_cons_zero, List.set_cons_succ]
          refine wpAnyH_ready (rs := [9]) (by kernel_rfl) (by simp) ?_
          refine AllReadyH.cons (o := ⟨some 36, _, _, _, _, _⟩) rfl (fun K hK => ?_) AllReadyH.nil
          go_simp
          refine hK.out _ _ ?_ (fun hHeld => ?_)
          focus (exact HWB0.out)
          clear hK K
          try simp only [Act.put, List.setIfInBounds_toArray, List.set_cons_zero, List.set_cons_succ]
          rw [← hWB]
          clear hWB HWB0
          refine wpAnyH_ready (rs := [10]) (by kernel_rfl) (by simp) ?_
          refine AllReadyH.cons (o := ⟨some 37, _, _, _, _, _⟩) rfl (fun K hK => ?_) AllReadyH.nil
          refine step_append_lies _ rfl (.tmp 28) (.tmp 36) 26 rfl (b + 2) 57 i1 _ 1 24 Try.underlying26 hi1 hw0 hw1 hw2 rfl (by omega) (.slice aX k cX) k ((List.range k).map g) (by simp [Act.eval, Act.put]) HOWN.out ⟨W1.heap.size, 0, none⟩ 1 1 [.slice A' nl c'] (by simp [Act.eval, Act.put]) rfl HNEW.out (by intro u hu; simp at hu; subst hu; rfl) (by omega) (by unfold maxLen; omega) (by omega) HBB.out _ rfl ?_
          intro ga cap2 w2 hown2 hgrow hat hlt2
          obtain ⟨k0, k1, k2, k3, k4, k5, HK⟩ := HSTEP.out ga cap2 w2 hown2 hgrow
          clear hown2 hgrow hat hlt2
          refine hK.out _ _ ?_ (fun hHeld => ?_)
          focus (exact ⟨k0, k1⟩)
          clear hK K
          try simp only [Act.put, List.setIfInBounds_toArray, List.set_cons_zero, List.set_cons_succ]
          refine wpAnyH_take (i := 11) (oi := ⟨some 38, _, _, _, _, _⟩) (v := ?_) rfl (by kernel_rfl) (by kernel_rfl) (by kernel_rfl) (fun _ _ _ h => h) (Or.inl ⟨by rfl, ?_⟩) (by assumption) ?_
          rotate_left
          focus (intro wq hSq; (try dsimp only at hSq); go_simp; try with_reducible rfl)
          try simp only [Act.put, List.setIfInBounds_toArray, List.set_cons_zero, List.set_cons_succ]
          refine wpAnyH_ready (rs := [12]) (by kernel_rfl) (by simp) ?_
          refine AllReadyH.cons (o := ⟨none, _, _, _, _, _⟩) rfl (fun K hK => ?_) AllReadyH.nil
          go_simp
          refine hK.out _ _ ?_ (fun hHeld => ?_)
          focus (exact ⟨k2, k3⟩)
          clear hK K
          try simp only [Act.put, List.setIfInBounds_toArray, List.set_cons_zero, List.set_cons_succ]
          refine wpAnyH_done (by kernel_rfl) ?_ _
          go_wp2_with fail
          go_roundw
          case rel =>
            obtain ⟨y1, y2, y3, y4, y5, y6⟩ := HK.out
            exact ⟨k + 1, some ⟨ga, 0, none⟩, cap2, _, HK1.out, by go_num, y1, y2, y3, y4, y5, y6⟩
          case measure => have := HK1.out; simp [intOf]; omega
        · go_simp
          refine hK.out _ _ ?_ (fun hHeld => ?_)
          focus (exact HWA0.out)
          clear hK K
          try simp only [Act.put, List.setIfInBounds_toArray, List.set_cons_zero, List.set_cons_succ]
          rw [← hWA]
          clear hWA HWA0
          refine wpAnyH_ready (rs := [1, 8]) (by kernel_rfl) (by simp) ?_
          refine AllReadyH.cons (o := ⟨some 28, _, _, _, _, _⟩) rfl (fun K hK => ?_) (AllReadyH.cons (o := ⟨some 35, _, _, _, _, _⟩) rfl (fun K hK => ?_) AllReadyH.nil)
          · go_simp
            refine hK.out _ _ ?_ (fun hHeld => ?_)
            focus (exact HWA.out)
            clear hK K
            try simp only [Act.put, List.setIfInBounds_toArray, List.set_cons_zero, List.set_cons_succ]
            refine wpAnyH_ready (rs := [8]) (by kernel_rfl) (by simp) ?_
            refine AllReadyH.cons (o := ⟨some 35, _, _, _, _, _⟩) rfl (fun K hK => ?_) AllReadyH.nil
            refine step_append_run rfl (.tmp 29) (.tmp 34) 57 rfl (by simp [Act.eval, Act.put]) (by simp [Act.eval, Act.put]) hrun ?_
            refine hK.out _ _ ?_ (fun hHeld => ?_)
            focus (exact HW1.out)
            clear hK K
            try simp only [Act.put, List.setIfInBounds_toArray, List.set_cons_zero, List.set_cons_succ]
            refine wpAnyH_ready (rs := [9]) (by kernel_rfl) (by simp) ?_
            refine AllReadyH.cons (o := ⟨some 36, _, _, _, _, _⟩) rfl (fun K hK => ?_) AllReadyH.nil
            go_simp
            refine hK.out _ _ ?_ (fun hHeld => ?_)
            focus (exact HWB0.out)
            clear hK K
            try simp only [Act.put, List.setIfInBounds_toArray, List.set_cons_zero, List.set_cons_succ]
            rw [← hWB]
            clear hWB HWB0
            refine wpAnyH_ready (rs := [10]) (by kernel_rfl) (by simp) ?_
            refine AllReadyH.cons (o := ⟨some 37, _, _, _, _, _⟩) rfl (fun K hK => ?_) AllReadyH.nil
            refine step_append_lies _ rfl (.tmp 28) (.tmp 36) 26 rfl (b + 2) 57 i1 _ 1 24 Try.underlying26 hi1 hw0 hw1 hw2 rfl (by omega) (.slice aX k cX) k ((List.range k).map g) (by simp [Act.eval, Act.put]) HOWN.out ⟨W1.heap.size, 0, none⟩ 1 1 [.slice A' nl c'] (by simp [Act.eval, Act.put]) rfl HNEW.out (by intro u hu; simp at hu; subst hu; rfl) (by omega) (by unfold maxLen; omega) (by omega) HBB.out _ rfl ?_
            intro ga cap2 w2 hown2 hgrow hat hlt2
            obtain ⟨k0, k1, k2, k3, k4, k5, HK⟩ := HSTEP.out ga cap2 w2 hown2 hgrow
            clear hown2 hgrow hat hlt2
            refine hK.out _ _ ?_ (fun hHeld => ?_)
            focus (exact ⟨k0, k1⟩)
            clear hK K
            try simp only [Act.put, List.setIfInBounds_toArray, List.set_cons_zero, List.set_cons_succ]
            refine wpAnyH_take (i := 11) (oi := ⟨some 38, _, _, _, _, _⟩) (v := ?_) rfl (by kernel_rfl) (by kernel_rfl) (by kernel_rfl) (fun _ _ _ h => h) (Or.inl ⟨by rfl, ?_⟩) (by assumption) ?_
            rotate_left
            focus (intro wq hSq; (try dsimp only at hSq); go_simp; try with_reducible rfl)
            try simp only [Act.put, List.setIfInBounds_toArray, List.set_cons_zero, List.set_cons_succ]
            refine wpAnyH_ready (rs := [12]) (by kernel_rfl) (by simp) ?_
            refine AllReadyH.cons (o := ⟨none, _, _, _, _, _⟩) rfl (fun K hK => ?_) AllReadyH.nil
            go_simp
            refine hK.out _ _ ?_ (fun hHeld => ?_)
            focus (exact ⟨k2, k3⟩)
            clear hK K
            try simp only [Act.put, List.setIfInBounds_toArray, List.set_cons_zero, List.set_cons_succ]
            refine wpAnyH_done (by kernel_rfl) ?_ _
            go_wp2_with fail
            go_roundw
            case rel =>
              obtain ⟨y1, y2, y3, y4, y5, y6⟩ := HK.out
              exact ⟨k + 1, some ⟨ga, 0, none⟩, cap2, _, HK1.out, by go_num, y1, y2, y3, y4, y5, y6⟩
            case measure => have := HK1.out; simp [intOf]; omega
          · refine step_append_run rfl (.tmp 29) (.tmp 34) 57 rfl (by simp [Act.eval, Act.put]) (by simp [Act.eval, Act.put]) hrun ?_
            refine hK.out _ _ ?_ (fun hHeld => ?_)
            focus (exact HW1.out)
            clear hK K
            try simp only [Act.put, List.setIfInBounds_toArray, List.set_cons_zero, List.set_cons_succ]
            refine wpAnyH_ready (rs := [1, 9]) (by kernel_rfl) (by simp) ?_
            refine AllReadyH.cons (o := ⟨some 28, _, _, _, _, _⟩) rfl (fun K hK => ?_) (AllReadyH.cons (o := ⟨some 36, _, _, _, _, _⟩) rfl (fun K hK => ?_) AllReadyH.nil)
            · go_simp
              refine hK.out _ _ ?_ (fun hHeld => ?_)
              focus (exact HW1.out)
              clear hK K
              try simp only [Act.put, List.setIfInBounds_toArray, List.set_cons_zero, List.set_cons_succ]
              refine wpAnyH_ready (rs := [9]) (by kernel_rfl) (by simp) ?_
              refine AllReadyH.cons (o := ⟨some 36, _, _, _, _, _⟩) rfl (fun K hK => ?_) AllReadyH.nil
              go_simp
              refine hK.out _ _ ?_ (fun hHeld => ?_)
              focus (exact HWB0.out)
              clear hK K
              try simp only [Act.put, List.setIfInBounds_toArray, List.set_cons_zero, List.set_cons_succ]
              rw [← hWB]
              clear hWB HWB0
              refine wpAnyH_ready (rs := [10]) (by kernel_rfl) (by simp) ?_
              refine AllReadyH.cons (o := ⟨some 37, _, _, _, _, _⟩) rfl (fun K hK => ?_) AllReadyH.nil
              refine step_append_lies _ rfl (.tmp 28) (.tmp 36) 26 rfl (b + 2) 57 i1 _ 1 24 Try.underlying26 hi1 hw0 hw1 hw2 rfl (by omega) (.slice aX k cX) k ((List.range k).map g) (by simp [Act.eval, Act.put]) HOWN.out ⟨W1.heap.size, 0, none⟩ 1 1 [.slice A' nl c'] (by simp [Act.eval, Act.put]) rfl HNEW.out (by intro u hu; simp at hu; subst hu; rfl) (by omega) (by unfold maxLen; omega) (by omega) HBB.out _ rfl ?_
              intro ga cap2 w2 hown2 hgrow hat hlt2
              obtain ⟨k0, k1, k2, k3, k4, k5, HK⟩ := HSTEP.out ga cap2 w2 hown2 hgrow
              clear hown2 hgrow hat hlt2
              refine hK.out _ _ ?_ (fun hHeld => ?_)
              focus (exact ⟨k0, k1⟩)
              clear hK K
              try simp only [Act.put, List.setIfInBounds_toArray, List.set_cons_zero, List.set_cons_succ]
              refine wpAnyH_take (i := 11) (oi := ⟨some 38, _, _, _, _, _⟩) (v := ?_) rfl (by kernel_rfl) (by kernel_rfl) (by kernel_rfl) (fun _ _ _ h => h) (Or.inl ⟨by rfl, ?_⟩) (by assumption) ?_
              rotate_left
              focus (intro wq hSq; (try dsimp only at hSq); go_simp; try with_reducible rfl)
              try simp only [Act.put, List.setIfInBounds_toArray, List.set_cons_zero, List.set_cons_succ]
              refine wpAnyH_ready (rs := [12]) (by kernel_rfl) (by simp) ?_
              refine AllReadyH.cons (o := ⟨none, _, _, _, _, _⟩) rfl (fun K hK => ?_) AllReadyH.nil
              go_simp
              refine hK.out _ _ ?_ (fun hHeld => ?_)
              focus (exact ⟨k2, k3⟩)
              clear hK K
              try simp only [Act.put, List.setIfInBounds_toArray, List.set_cons_zero, List.set_cons_succ]
              refine wpAnyH_done (by kernel_rfl) ?_ _
              go_wp2_with fail
              go_roundw
              case rel =>
                obtain ⟨y1, y2, y3, y4, y5, y6⟩ := HK.out
                exact ⟨k + 1, some ⟨ga, 0, none⟩, cap2, _, HK1.out, by go_num, y1, y2, y3, y4, y5, y6⟩
              case measure => have := HK1.out; simp [intOf]; omega
            · go_simp
              refine hK.out _ _ ?_ (fun hHeld => ?_)
              focus (exact HWB0.out)
              clear hK K
              try simp only [Act.put, List.setIfInBounds_toArray, List.set_cons_zero, List.set_cons_succ]
              rw [← hWB]
              clear hWB HWB0
              refine wpAnyH_ready (rs := [1]) (by kernel_rfl) (by simp) ?_
              refine AllReadyH.cons (o := ⟨some 28, _, _, _, _, _⟩) rfl (fun K hK => ?_) AllReadyH.nil
              go_simp
              refine hK.out _ _ ?_ (fun hHeld => ?_)
              focus (exact HWB.out)
              clear hK K
              try simp only [Act.put, List.setIfInBounds_toArray, List.set_cons_zero, List.set_cons_succ]
              refine wpAnyH_ready (rs := [10]) (by kernel_rfl) (by simp) ?_
              refine AllReadyH.cons (o := ⟨some 37, _, _, _, _, _⟩) rfl (fun K hK => ?_) AllReadyH.nil
              refine step_append_lies _ rfl (.tmp 28) (.tmp 36) 26 rfl (b + 2) 57 i1 _ 1 24 Try.underlying26 hi1 hw0 hw1 hw2 rfl (by omega) (.slice aX k cX) k ((List.range k).map g) (by simp [Act.eval, Act.put]) HOWN.out ⟨W1.heap.size, 0, none⟩ 1 1 [.slice A' nl c'] (by simp [Act.eval, Act.put]) rfl HNEW.out (by intro u hu; simp at hu; subst hu; rfl) (by omega) (by unfold maxLen; omega) (by omega) HBB.out _ rfl ?_
              intro ga cap2 w2 hown2 hgrow hat hlt2
              obtain ⟨k0, k1, k2, k3, k4, k5, HK⟩ := HSTEP.out ga cap2 w2 hown2 hgrow
              clear hown2 hgrow hat hlt2
              refine hK.out _ _ ?_ (fun hHeld => ?_)
              focus (exact ⟨k0, k1⟩)
              clear hK K
              try simp only [Act.put, List.setIfInBounds_toArray, List.set_cons_zero, List.set_cons_succ]
              refine wpAnyH_take (i := 11) (oi := ⟨some 38, _, _, _, _, _⟩) (v := ?_) rfl (by kernel_rfl) (by kernel_rfl) (by kernel_rfl) (fun _ _ _ h => h) (Or.inl ⟨by rfl, ?_⟩) (by assumption) ?_
              rotate_left
              focus (intro wq hSq; (try dsimp only at hSq); go_simp; try with_reducible rfl)
              try simp only [Act.put, List.setIfInBounds_toArray, List.set_cons_zero, List.set_cons_succ]
              refine wpAnyH_ready (rs := [12]) (by kernel_rfl) (by simp) ?_
              refine AllReadyH.cons (o := ⟨none, _, _, _, _, _⟩) rfl (fun K hK => ?_) AllReadyH.nil
              go_simp
              refine hK.out _ _ ?_ (fun hHeld => ?_)
              focus (exact ⟨k2, k3⟩)
              clear hK K
              try simp only [Act.put, List.setIfInBounds_toArray, List.set_cons_zero, List.set_cons_succ]
              refine wpAnyH_done (by kernel_rfl) ?_ _
              go_wp2_with fail
              go_roundw
              case rel =>
                obtain ⟨y1, y2, y3, y4, y5, y6⟩ := HK.out
                exact ⟨k + 1, some ⟨ga, 0, none⟩, cap2, _, HK1.out, by go_num, y1, y2, y3, y4, y5, y6⟩
              case measure => have := HK1.out; simp [intOf]; omega
      · have hkn : k = D.C.length := by omega
        subst hkn
        have hO' : OwnD wr (b + 2) (.slice A1 D.S.length c1) (.slice aX D.C.length cX) (.slice A2 D.K.length c2) (.slice A4 D.F.length c4) g D := by
          have h := hO
          rw [List.take_length] at h
          exact h
        have m0 : wr.cell? ⟨r, 0, none⟩ = some (.slice A1 D.S.length c1) := mr.cell 0 _ rfl
        have m1 : wr.cell? ⟨r, 1, none⟩ = some (.slice aX D.C.length cX) := mr.cell 1 _ rfl
        have m2 : wr.cell? ⟨r, 2, none⟩ = some (.slice A2 D.K.length c2) := mr.cell 2 _ rfl
        have m3 : wr.cell? ⟨r, 3, none⟩ = some (.int .i64 D.n) := mr.cell 3 _ rfl
        have m4 : wr.cell? ⟨r, 4, none⟩ = some (.slice A4 D.F.length c4) := mr.cell 4 _ rfl
        have n1 : wr.cell? ⟨b, 1, none⟩ = some (.slice aC D.C.length cC) := pr.cell 1 _ rfl
        have d0 : wr.cell? ⟨b + 1, 0, none⟩ = some (.slice none 0 0) := rr.cell 0 _ rfl
        have d1 : wr.cell? ⟨b + 1, 1, none⟩ = some (.slice none 0 0) := rr.cell 1 _ rfl
        have d2 : wr.cell? ⟨b + 1, 2, none⟩ = some (.slice none 0 0) := rr.cell 2 _ rfl
        have d3 : wr.cell? ⟨b + 1, 3, none⟩ = some (.int .i64 0) := rr.cell 3 _ rfl
        have d4 : wr.cell? ⟨b + 1, 4, none⟩ = some (.slice none 0 0) := rr.cell 4 _ rfl
        have f0 := rr.free 0
        have f1 := rr.free 1
        have f2 := rr.free 2
        have f3 := rr.free 3
        have f4 := rr.free 4
        have H1 := Lib.hid (into5_range rr rfl (.slice A1 D.S.length c1) (.slice aX D.C.length cX) (.slice A2 D.K.length c2) D.n (.slice A4 D.F.length c4))
        have H2 := Lib.hid (OwnD.less (B' := b) (into5_own hO' (show b + 1 < b + 2 by omega) (.slice A1 D.S.length c1) (.slice aX D.C.length cX) (.slice A2 D.K.length c2) D.n (.slice A4 D.F.length c4)) (by omega))
        have H3 := Lib.hid (into5_below hbr (Nat.le_succ b) (.slice A1 D.S.length c1) (.slice aX D.C.length cX) (.slice A2 D.K.length c2) D.n (.slice A4 D.F.length c4))
        clear hO hO' mr pr rr hbr
        go_wp2_with fail
        refine bodyPost_ret (results_cell (cs := [.slice A1 D.S.length c1, .slice aX D.C.length cX, .slice A2 D.K.length c2, .int .i64 D.n, .slice A4 D.F.length c4]) Try.results29 (by rfl) H1.out Try.underlying29 rfl (by kernel_rfl)) rfl ?_
        rw [hbe]
        exact ⟨_, _, _, _, g, rfl, H2.out, H3.out⟩

end Go.Proofs.Ytleemgjbihdbgaa

/-
  The document's device: a start: by contract. What its acts, crashes, starts come to, the device handed back or a new one.
-/
namespace Go.Proofs.Ytleemgjbihdbgaa
open Go.RowKit
set_option linter.unusedVariables false
set_option linter.unusedSimpArgs false

/-- A device's cells in a block; the block's marks. -/
theorem five_cells {w : World} {b : Nat} {v0 v1 v2 v3 v4 : Value} {T : TypeId} (h : Blk w b #[v0, v1, v2, v3, v4] T) : w.cell? ⟨b, 0, none⟩ = some v0 ∧ w.cell? ⟨b, 1, none⟩ = some v1 ∧ w.cell? ⟨b, 2, none⟩ = some v2 ∧ w.cell? ⟨b, 3, none⟩ = some v3 ∧ w.cell? ⟨b, 4, none⟩ = some v4 :=
  ⟨h.cell 0 _ rfl, h.cell 1 _ rfl, h.cell 2 _ rfl, h.cell 3 _ rfl, h.cell 4 _ rfl⟩
theorem five_free {w : World} {b : Nat} {cs : Array Value} {T : TypeId} (h : Blk w b cs T) : w.frozen? ⟨b, 0, none⟩ = false ∧ w.frozen? ⟨b, 1, none⟩ = false ∧ w.frozen? ⟨b, 2, none⟩ = false ∧ w.frozen? ⟨b, 3, none⟩ = false ∧ w.frozen? ⟨b, 4, none⟩ = false :=
  ⟨h.free 0, h.free 1, h.free 2, h.free 3, h.free 4⟩
/-- A device and an error; a device, bytes and an error: the device is owned from B on (it may be the one handed in). -/
def RDev (B : Nat) (D' : Dev) (E : Int) (w : World) (e : Ending) (w' : World) : Prop := ∃ vS vC vK vF f, e = .returned (.tuple #[.agg #[vS, vC, vK, .int .i64 D'.n, vF], .int .i64 E]) ∧ OwnD w' B vS vC vK vF f D' ∧ Below w.heap.size w w'
def RAct (B : Nat) (D' : Dev) (s : ByteArray) (E : Int) (w : World) (e : Ending) (w' : World) : Prop := ∃ vS vC vK vF f, e = .returned (.tuple #[.agg #[vS, vC, vK, .int .i64 D'.n, vF], .string s, .int .i64 E]) ∧ OwnD w' B vS vC vK vF f D' ∧ Below w.heap.size w w'
theorem rDev_of {B : Nat} {D' : Dev} {E : Int} {w w' : World} {vS vC vK vF : Value} {f : Nat → Value} {e : Ending} (h1 : OwnD w' B vS vC vK vF f D') (h2 : Below w.heap.size w w') (he : e = .returned (.tuple #[.agg #[vS, vC, vK, .int .i64 D'.n, vF], .int .i64 E])) : RDev B D' E w e w' := ⟨vS, vC, vK, vF, f, he, h1, h2⟩
theorem rAct_of {B : Nat} {D' : Dev} {s : ByteArray} {E : Int} {w w' : World} {vS vC vK vF : Value} {f : Nat → Value} {e : Ending} (h1 : OwnD w' B vS vC vK vF f D') (h2 : Below w.heap.size w w') (he : e = .returned (.tuple #[.agg #[vS, vC, vK, .int .i64 D'.n, vF], .string s, .int .i64 E])) : RAct B D' s E w e w' := ⟨vS, vC, vK, vF, f, he, h1, h2⟩
theorem node_bad {D : Dev} {node : Int} (h : ¬ NodeOk D node) : decide (node < 0) = true ∨ (decide (node < 0) = false ∧ decide ((D.K.length : Int) ≤ node) = true) := by
  by_cases h0 : node < 0
  · exact .inl (decide_eq_true h0)
  · refine .inr ⟨decide_eq_false h0, decide_eq_true ?_⟩
    unfold NodeOk at h
    omega

set_option maxRecDepth 100000 in
set_option maxHeartbeats 4000000 in
theorem refStart_any (B : Nat) (vS vC vK vF : Value) (f : Nat → Value) (D : Dev) (node : Int) (w : World) (hO : OwnD w B vS vC vK vF f D) (hB : B ≤ w.heap.size) (hm : MayD D) (hS : Small D 1099511627776) :
    Calls Try.prog 26 #[.agg #[vS, vC, vK, .int .i64 D.n, vF], .int .i64 node] w (RDev B (stD D node) (nodeE D node) w) := by
  obtain ⟨aS, cS, aC, cC, aK, cK, aF, cF, rfl, rfl, rfl, rfl⟩ := own_shapes hO
  obtain ⟨W0, hW⟩ : ∃ W0, W0 = (w.alloc (.cells #[.slice aS D.S.length cS, .slice aC D.C.length cC, .slice aK D.K.length cK, .int .i64 D.n, .slice aF D.F.length cF] 29)).alloc (.cells #[.slice none 0 0, .slice none 0 0, .slice none 0 0, .int .i64 0, .slice none 0 0] 29) := ⟨_, rfl⟩
  obtain ⟨b, hbe⟩ : ∃ b, w.heap.size = b := ⟨_, rfl⟩
  have hb0 : Below b w W0 := by rw [hW]; exact ((Below.refl _ _).alloc (by omega) _).alloc (by simp; omega) _
  have p0 : Blk W0 b #[.slice aS D.S.length cS, .slice aC D.C.length cC, .slice aK D.K.length cK, .int .i64 D.n, .slice aF D.F.length cF] 29 := by rw [hW, ← hbe]; exact (Blk.new w _ _).alloc _
  have r0 : Blk W0 (b + 1) #[.slice none 0 0, .slice none 0 0, .slice none 0 0, .int .i64 0, .slice none 0 0] 29 := by
    have h1 := Blk.new (w.alloc (.cells #[.slice aS D.S.length cS, .slice aC D.C.length cC, .slice aK D.K.length cK, .int .i64 D.n, .slice aF D.F.length cF] 29)) #[.slice none 0 0, .slice none 0 0, .slice none 0 0, .int .i64 0, .slice none 0 0] 29
    rw [hW, ← hbe]
    simpa using h1
  have hO0 := hO.up (hbe ▸ hb0)
  have hsz : W0.heap.size = b + 2 := by rw [hW, ← hbe]; simp
  have hc := refCheck_yes _ D W0 hO0.dev hm hS.s
  have HCK := Lib.hid hm.ck
  clear hO
  obtain ⟨q0, q1, q2, q3, q4⟩ := five_cells p0
  by_cases hN : NodeOk D node
  · have HP : Hid (stD D node = startD D node.toNat) := if_pos hN
    have HE : Hid (nodeE D node = 0) := if_pos hN
    obtain ⟨i, rfl⟩ := Int.eq_ofNat_of_zero_le hN.1
    have hi : i < D.K.length := by have := hN.2; omega
    have t1 : decide ((i : Int) < 0) = false := decide_eq_false (by omega)
    have t2 : decide ((D.K.length : Int) ≤ (i : Int)) = false := decide_eq_false (by omega)
    clear hN
    go_enter Try.func26, Try.ntmps26
    go_wp2_with fail
    rw [← hW]
    clear hW
    refine hc.mono ?_
    rintro e w1 ⟨rfl, hb1⟩
    have p1 := p0.below hb1 p0.lt
    have r1 := r0.below hb1 r0.lt
    have hO1 := hO0.up hb1
    have hs1 := hb1.size
    have ha1 := hb0.trans (hb1.mono (by omega))
    have hcp := refCopied_any _ D w1 hO1.dev hS
    clear q0 q1 q2 q3 q4 p0 r0 hb0 hc hO0 hb1
    obtain ⟨q0, q1, q2, q3, q4⟩ := five_cells p1
    go_wp2_with fail
    refine hcp.mono ?_
    rintro e w2 ⟨uS, uC, uK, uF, g, rfl, hO2, hb2⟩
    clear hcp
    obtain ⟨xS, yS, xC, yC, xK, yK, xF, yF, rfl, rfl, rfl, rfl⟩ := own_shapes hO2
    have hs2 := hb2.size
    have ha2 := ha1.trans (hb2.mono (by omega))
    have r2 := r1.below hb2 r1.lt
    obtain ⟨gc, capc, hgc, _, hgcl⟩ := hO2.c.form (by show 0 < D.C.length; have := HCK.out; omega)
    obtain ⟨gk, capk, hgk, _, hgkl⟩ := hO2.k.form (by omega)
    obtain ⟨rfl, rfl⟩ : xC = some ⟨gc, 0, none⟩ ∧ yC = capc := by injection hgc with e1 _ e2; exact ⟨e1, e2⟩
    obtain ⟨rfl, rfl⟩ : xK = some ⟨gk, 0, none⟩ ∧ yK = capk := by injection hgk with e1 _ e2; exact ⟨e1, e2⟩
    clear hgc hgk q0 q1 q2 q3 q4 p1 r1 hO1
    have lc := hO2.c.lt gc rfl
    have lk := hO2.k.lt gk rfl
    have hgg : gk ≠ gc := fun e => by
      rcases own_apart hO2.k hO2.c (by decide) (g := gc) rfl with h | h
      · cases h
      · exact h (by rw [← e]; rfl)
    have hgg' : gc ≠ gk := fun e => hgg e.symm
    have hqc : gc ≠ b + 1 := by omega
    have hqk : gk ≠ b + 1 := by omega
    have hqc' : b + 1 ≠ gc := by omega
    have hqk' : b + 1 ≠ gk := by omega
    have hql : b + 1 < w2.heap.size := by omega
    have hic : i < D.C.length := by have := HCK.out; omega
    have cc3 : w2.cell? ⟨gc, i, none⟩ = some (g i) := by rw [hO2.c.cellAt i (by omega), List.getElem?_map, List.getElem?_range hic]; rfl
    have fc3 : w2.frozen? ⟨gc, i, none⟩ = false := hO2.c.frozenAt i
    have ck3 : w2.cell? ⟨gk, i, none⟩ = some (.int .i64 (D.K[i]'hi)) := by
      rw [hO2.k.cellAt i (by omega), List.getElem?_map, List.getElem?_eq_getElem hi]
      rfl
    have fk3 : w2.frozen? ⟨gk, i, none⟩ = false := hO2.k.frozenAt i
    obtain ⟨zA, zc, hgi, _, _⟩ := own_shape2 (hO2.cs i hic)
    rw [hgi] at cc3
    have hO3 := hO2.setC rfl hic (World.ownsRow_nil _ _ _ _) (l := []) (by intro j x _ _ hx; cases hx)
    have hO4 := hO3.setK rfl i 0
    have r4 := (r2.other hqc' i (.slice none 0 0)).other hqk' i (.int .i64 0)
    have ha4 := (ha2.setCell (p := ⟨gc, i, none⟩) (show b ≤ gc by omega) (.slice none 0 0)).setCell (p := ⟨gk, i, none⟩) (show b ≤ gk by omega) (.int .i64 0)
    obtain ⟨z0, z1, z2, z3, z4⟩ := five_cells r2
    obtain ⟨f0, f1, f2, f3, f4⟩ := five_free r2
    have i0 : (0 : Int) ≤ (i : Int) := by omega
    have i1 : (i : Int) < (D.C.length : Int) := by omega
    have i2 : (i : Int) < (D.K.length : Int) := by omega
    have H1 := Lib.hid ((into5_self r4 rfl (.slice xS D.S.length yS) (.slice (some ⟨gc, 0, none⟩) D.C.length yC) (.slice (some ⟨gk, 0, none⟩) D.K.length yK) D.n (.slice xF D.F.length yF)).alloc (.cells #[.slice xS D.S.length yS, .slice (some ⟨gc, 0, none⟩) D.C.length yC, .slice (some ⟨gk, 0, none⟩) D.K.length yK, .int .i64 D.n, .slice xF D.F.length yF] 29)).range
    have H2 := Lib.hid (OwnD.less (B' := B) ((into5_other hO4 r4 (by decide) (by decide) (by decide) (by decide) (.slice xS D.S.length yS) (.slice (some ⟨gc, 0, none⟩) D.C.length yC) (.slice (some ⟨gk, 0, none⟩) D.K.length yK) D.n (.slice xF D.F.length yF)).up (below_alloc _ (.cells #[.slice xS D.S.length yS, .slice (some ⟨gc, 0, none⟩) D.C.length yC, .slice (some ⟨gk, 0, none⟩) D.K.length yK, .int .i64 D.n, .slice xF D.F.length yF] 29))) (by omega))
    have H3 := Lib.hid ((into5_below ha4 (Nat.le_succ b) (.slice xS D.S.length yS) (.slice (some ⟨gc, 0, none⟩) D.C.length yC) (.slice (some ⟨gk, 0, none⟩) D.K.length yK) D.n (.slice xF D.F.length yF)).alloc (by simp [into5]; omega) (.cells #[.slice xS D.S.length yS, .slice (some ⟨gc, 0, none⟩) D.C.length yC, .slice (some ⟨gk, 0, none⟩) D.K.length yK, .int .i64 D.n, .slice xF D.F.length yF] 29))
    clear hO2 hO3 hO4 r2 r4 ha1 ha2 ha4 hb2 hgi
    go_wp2_with fail
    refine bodyPost_ret (results_c2 (cs := [.slice xS D.S.length yS, .slice (some ⟨gc, 0, none⟩) D.C.length yC, .slice (some ⟨gk, 0, none⟩) D.K.length yK, .int .i64 D.n, .slice xF D.F.length yF]) Try.results26 (by rfl) (by rfl) H1.out Try.underlying29 rfl (by kernel_rfl)) rfl ?_
    rw [HP.out, HE.out]
    exact rDev_of H2.out (by rw [hbe]; exact H3.out) rfl
  · have HP : Hid (stD D node = D) := if_neg hN
    have HE : Hid (nodeE D node = 2) := if_neg hN
    have hcs := node_bad hN
    clear hN
    go_enter Try.func26, Try.ntmps26
    go_wp2_with fail
    rw [← hW]
    clear hW
    refine hc.mono ?_
    rintro e w1 ⟨rfl, hb1⟩
    have p1 := p0.below hb1 p0.lt
    have r1 := r0.below hb1 r0.lt
    have hO1 := hO0.up hb1
    have ha1 := hb0.trans (hb1.mono (by omega))
    clear q0 q1 q2 q3 q4 p0 r0 hb0 hc hO0 hb1
    obtain ⟨q0, q1, q2, q3, q4⟩ := five_cells p1
    obtain ⟨z0, z1, z2, z3, z4⟩ := five_cells r1
    obtain ⟨f0, f1, f2, f3, f4⟩ := five_free r1
    have H1 := Lib.hid (into5_range r1 rfl (.slice aS D.S.length cS) (.slice aC D.C.length cC) (.slice aK D.K.length cK) D.n (.slice aF D.F.length cF))
    have H2 := Lib.hid (into5_other hO1 r1 (by decide) (by decide) (by decide) (by decide) (.slice aS D.S.length cS) (.slice aC D.C.length cC) (.slice aK D.K.length cK) D.n (.slice aF D.F.length cF))
    have H3 := Lib.hid (into5_below ha1 (Nat.le_succ b) (.slice aS D.S.length cS) (.slice aC D.C.length cC) (.slice aK D.K.length cK) D.n (.slice aF D.F.length cF))
    clear hO1 p1 r1 ha1
    rcases hcs with t1 | ⟨t1, t2⟩
    all_goals go_wp2_with fail
    all_goals refine bodyPost_ret (results_c2 (cs := [.slice aS D.S.length cS, .slice aC D.C.length cC, .slice aK D.K.length cK, .int .i64 D.n, .slice aF D.F.length cF]) Try.results26 (by rfl) (by rfl) H1.out Try.underlying29 rfl (by kernel_rfl)) rfl ?_
    all_goals rw [HP.out, HE.out]
    all_goals exact rDev_of H2.out (by rw [hbe]; exact H3.out) rfl

end Go.Proofs.Ytleemgjbihdbgaa

/-
  Devices in memory of a call's own: where a sector, a key, a cache, a cell stands.
-/
namespace Go.Proofs.Ytleemgjbihdbgaa
open Go.RowKit
set_option linter.unusedVariables false
set_option linter.unusedSimpArgs false

section
variable {w : World} {B : Nat} {vS vC vK vF : Value} {f : Nat → Value} {D : Dev}
theorem own_ne {e e' : TypeId} {n n' size size' B' g g' : Nat} {v v' : Value} {xs ys : List Value} (h : w.ownsRow B e size v n xs) (k : w.ownsRow B' e' size' v' n' ys) (hne : e ≠ e') (hg : v.ownBlock = some g) (hg' : v'.ownBlock = some g') : g ≠ g' := by
  rintro rfl
  rcases own_apart h k hne hg' with h1 | h1
  · rw [hg] at h1; cases h1
  · exact h1 hg
theorem own_sector (h : OwnD w B vS vC vK vF f D) {s : Nat} (hs : s < D.S.length) :
    ∃ gs cap, vS = .slice (some ⟨gs, 0, none⟩) D.S.length cap ∧ B ≤ gs ∧ gs < w.heap.size ∧ w.cell? ⟨gs, s, none⟩ = some (.string (D.S[s])) ∧ w.frozen? ⟨gs, s, none⟩ = false := by
  obtain ⟨gs, cap, e, h1, h2⟩ := h.s.form (by omega)
  have ho := h.s
  rw [e] at ho
  refine ⟨gs, cap, e, h1, h2, ?_, ho.frozenAt s⟩
  rw [ho.cellAt s (by omega)]
  simp [strV, hs]
theorem own_key (h : OwnD w B vS vC vK vF f D) {i : Nat} (hi : i < D.K.length) :
    ∃ gk cap, vK = .slice (some ⟨gk, 0, none⟩) D.K.length cap ∧ B ≤ gk ∧ gk < w.heap.size ∧ w.cell? ⟨gk, i, none⟩ = some (.int .i64 (D.K[i])) ∧ w.frozen? ⟨gk, i, none⟩ = false := by
  obtain ⟨gk, cap, e, h1, h2⟩ := h.k.form (by omega)
  have ho := h.k
  rw [e] at ho
  refine ⟨gk, cap, e, h1, h2, ?_, ho.frozenAt i⟩
  rw [ho.cellAt i (by omega)]
  simp [hi]
theorem own_cache (h : OwnD w B vS vC vK vF f D) {i : Nat} (hi : i < D.C.length) :
    ∃ gc cap a c, vC = .slice (some ⟨gc, 0, none⟩) D.C.length cap ∧ f i = .slice a (cacheOf D i).length c ∧ B ≤ gc ∧ gc < w.heap.size ∧ w.cell? ⟨gc, i, none⟩ = some (.slice a (cacheOf D i).length c) ∧ w.frozen? ⟨gc, i, none⟩ = false ∧ (cacheOf D i).length ≤ c ∧ c ≤ maxLen := by
  obtain ⟨gc, cap, e, h1, h2⟩ := h.c.form (by omega)
  have ho := h.c
  rw [e] at ho
  obtain ⟨a, c, hf, l1, l2⟩ := own_shape2 (h.cs i hi)
  refine ⟨gc, cap, a, c, e, hf, h1, h2, ?_, ho.frozenAt i, l1, l2⟩
  rw [ho.cellAt i (by omega), List.getElem?_map, List.getElem?_range hi]
  show some (f i) = _
  rw [hf]
  rfl
theorem own_cell (h : OwnD w B vS vC vK vF f D) {i : Nat} (hi : i < D.C.length) {k : Nat} (hk : k < (cacheOf D i).length) :
    ∃ ga c, f i = .slice (some ⟨ga, 0, none⟩) (cacheOf D i).length c ∧ B ≤ ga ∧ ga < w.heap.size ∧ w.cell? ⟨ga, k * 2, none⟩ = some (.int .i64 ((cacheOf D i)[k]).1) ∧ w.cell? ⟨ga, k * 2 + 1, none⟩ = some (.string ((cacheOf D i)[k]).2) ∧ w.frozen? ⟨ga, k * 2 + 1, none⟩ = false := by
  have ho := h.cs i hi
  obtain ⟨ga, c, e, h1, h2⟩ := ho.form (by show 0 < (cacheOf D i).length; omega)
  have hx := celV_at (cacheOf D i) hk
  have ho2 := ho
  rw [e] at ho2
  refine ⟨ga, c, e, h1, h2, ?_, ?_, ho2.frozenAt _⟩
  · rw [ho2.cellAt (k * 2) (by show _ < (cacheOf D i).length * 2; omega)]
    exact hx.1
  · rw [ho2.cellAt (k * 2 + 1) (by show _ < (cacheOf D i).length * 2; omega)]
    exact hx.2
end
theorem crashS_zero (S : List ByteArray) (l : List Cel) : crashS S l 0 = S := by
  induction l with
  | nil => rfl
  | cons c r ih => rw [crashS]; simpa using ih
theorem crash_end {S0 S : List ByteArray} {l : List Cel} {kept : Nat} (hk : kept < 18446744073709551616) (h : crashS S0 l kept = crashS S (l.drop 64) (kept / 2 ^ 64)) : crashS S0 l kept = S := by
  rw [h, Nat.div_eq_of_lt (by simpa using hk), crashS_zero]

end Go.Proofs.Ytleemgjbihdbgaa

/-
  The document's device: a crash: by contract.
-/
namespace Go.Proofs.Ytleemgjbihdbgaa
open Go.RowKit
set_option linter.unusedVariables false
set_option linter.unusedSimpArgs false

set_option maxRecDepth 100000 in
set_option maxHeartbeats 8000000 in
theorem refCrash_any (B : Nat) (vS vC vK vF : Value) (f : Nat → Value) (D : Dev) (node : Int) (kept : Nat) (w : World) (hO : OwnD w B vS vC vK vF f D) (hB : B ≤ w.heap.size) (hm : MayD D) (hS : Small D 1099511627776) (hkept : kept < 18446744073709551616) :
    Calls Try.prog 25 #[.agg #[vS, vC, vK, .int .i64 D.n, vF], .int .i64 node, .int .u64 (kept : Int)] w (RDev B (crD D node kept) (nodeE D node) w) := by
  obtain ⟨aS, cS, aC, cC, aK, cK, aF, cF, rfl, rfl, rfl, rfl⟩ := own_shapes hO
  obtain ⟨W0, hW⟩ : ∃ W0, W0 = (w.alloc (.cells #[.slice aS D.S.length cS, .slice aC D.C.length cC, .slice aK D.K.length cK, .int .i64 D.n, .slice aF D.F.length cF] 29)).alloc (.cells #[.slice none 0 0, .slice none 0 0, .slice none 0 0, .int .i64 0, .slice none 0 0] 29) := ⟨_, rfl⟩
  obtain ⟨b, hbe⟩ : ∃ b, w.heap.size = b := ⟨_, rfl⟩
  have hb0 : Below b w W0 := by rw [hW]; exact ((Below.refl _ _).alloc (by omega) _).alloc (by simp; omega) _
  have p0 : Blk W0 b #[.slice aS D.S.length cS, .slice aC D.C.length cC, .slice aK D.K.length cK, .int .i64 D.n, .slice aF D.F.length cF] 29 := by rw [hW, ← hbe]; exact (Blk.new w _ _).alloc _
  have r0 : Blk W0 (b + 1) #[.slice none 0 0, .slice none 0 0, .slice none 0 0, .int .i64 0, .slice none 0 0] 29 := by
    have h1 := Blk.new (w.alloc (.cells #[.slice aS D.S.length cS, .slice aC D.C.length cC, .slice aK D.K.length cK, .int .i64 D.n, .slice aF D.F.length cF] 29)) #[.slice none 0 0, .slice none 0 0, .slice none 0 0, .int .i64 0, .slice none 0 0] 29
    rw [hW, ← hbe]
    simpa using h1
  have hO0 := hO.up (hbe ▸ hb0)
  have hsz : W0.heap.size = b + 2 := by rw [hW, ← hbe]; simp
  have hc := refCheck_yes _ D W0 hO0.dev hm hS.s
  have HCK := Lib.hid hm.ck
  clear hO
  obtain ⟨q0, q1, q2, q3, q4⟩ := five_cells p0
  by_cases hN : NodeOk D node
  · have HP : Hid (crD D node kept = crashD D node.toNat kept) := if_pos hN
    have HE : Hid (nodeE D node = 0) := if_pos hN
    obtain ⟨i, rfl⟩ := Int.eq_ofNat_of_zero_le hN.1
    have hi : i < D.K.length := by have := hN.2; omega
    have t1 : decide ((i : Int) < 0) = false := decide_eq_false (by omega)
    have t2 : decide ((D.K.length : Int) ≤ (i : Int)) = false := decide_eq_false (by omega)
    have HCA := Lib.hid (cache_ok hm i)
    clear hN
    go_enter Try.func25, Try.ntmps25
    go_wp2_with fail
    rw [← hW]
    clear hW
    refine hc.mono ?_
    rintro e w1 ⟨rfl, hb1⟩
    have p1 := p0.below hb1 p0.lt
    have r1 := r0.below hb1 r0.lt
    have hO1 := hO0.up hb1
    have hs1 := hb1.size
    have ha1 := hb0.trans (hb1.mono (by omega))
    have hcp := refCopied_any _ D w1 hO1.dev hS
    clear q0 q1 q2 q3 q4 p0 r0 hb0 hc hO0 hb1
    obtain ⟨q0, q1, q2, q3, q4⟩ := five_cells p1
    go_wp2_with fail
    refine hcp.mono ?_
    rintro e w2 ⟨uS, uC, uK, uF, g, rfl, hO2, hb2⟩
    clear hcp
    obtain ⟨xS, yS, xC, yC, xK, yK, xF, yF, rfl, rfl, rfl, rfl⟩ := own_shapes hO2
    have hs2 := hb2.size
    have hic : i < D.C.length := by have := HCK.out; omega
    obtain ⟨gc, capc, a, c, hgc, hgi, hgcB, hgcl, hcc, hcf, hlc, hcm⟩ := own_cache hO2 hic
    obtain ⟨rfl, rfl⟩ : xC = some ⟨gc, 0, none⟩ ∧ yC = capc := by injection hgc with e1 _ e2; exact ⟨e1, e2⟩
    obtain ⟨W3, hW3⟩ : ∃ W3, W3 = w2.alloc (.cells #[.slice xS D.S.length yS, .slice (some ⟨gc, 0, none⟩) D.C.length yC, .slice xK D.K.length yK, .int .i64 D.n, .slice xF D.F.length yF] 29) := ⟨_, rfl⟩
    have hb3 : Below w2.heap.size w2 W3 := hW3 ▸ below_alloc w2 _
    have m3 : Blk W3 w2.heap.size #[.slice xS D.S.length yS, .slice (some ⟨gc, 0, none⟩) D.C.length yC, .slice xK D.K.length yK, .int .i64 D.n, .slice xF D.F.length yF] 29 := hW3 ▸ Blk.new w2 _ _
    have hO3 := hO2.up hb3
    have hb13 := hb2.trans (hb3.mono hs2)
    have hs3 : w2.heap.size < W3.heap.size := by rw [hW3]; simp
    have HRG : Hid (w1.heap.size ≤ w2.heap.size ∧ w2.heap.size ≠ gc) := ⟨by omega, by omega⟩
    have HGC : Hid (w1.heap.size ≤ gc) := hgcB
    have HGI := Lib.hid hgi
    have HWS : Hid (b + 2 ≤ w1.heap.size) := by show _ ≤ _; omega
    obtain ⟨F, hF⟩ : ∃ F, fencedK D (D.K[i]'hi) = F := ⟨_, rfl⟩
    have HFE : Hid (fencedAny D.F [D.K[i]'hi] = F) := (fencedAny_one D _).trans hF
    have HKE : Hid (keyOf D i = D.K[i]'hi) := by show _ = _; unfold keyOf; rw [List.getD, List.getElem?_eq_getElem hi]; rfl
    have HF := Lib.hid hF
    obtain ⟨l, hl⟩ : ∃ l, cacheOf D i = l := ⟨_, rfl⟩
    have HL := Lib.hid hl
    rw [hl] at hcc HCA HGI hlc
    obtain ⟨nl, hnl⟩ : ∃ n, l.length = n := ⟨_, rfl⟩
    have HN := Lib.hid hnl
    rw [hnl] at hcc HGI hlc
    have i0 : (0 : Int) ≤ (i : Int) := by omega
    have i1 : (i : Int) < (D.C.length : Int) := by omega
    unfold maxLen at hcm
    have hnl2 : nl ≤ 9223372036854775807 := by omega
    clear hgc hF hl hnl hgi hcf hb2 hO2 hb3
    go_wp2_with fail
    rw [← hW3]
    clear hW3
    go_loopw [10] (fun j wr => ∃ (k : Nat) (S : List ByteArray), k ≤ nl ∧ k ≤ 64 ∧ j = .int .i64 (k : Int) ∧ Below w1.heap.size w1 wr ∧ Blk wr w2.heap.size #[.slice xS D.S.length yS, .slice (some ⟨gc, 0, none⟩) D.C.length yC, .slice xK D.K.length yK, .int .i64 D.n, .slice xF D.F.length yF] 29 ∧ OwnD wr w1.heap.size (.slice xS D.S.length yS) (.slice (some ⟨gc, 0, none⟩) D.C.length yC) (.slice xK D.K.length yK) (.slice xF D.F.length yF) g { D with S := S } ∧ S.length = D.S.length ∧ w2.heap.size < wr.heap.size ∧ Hid ((if F then D.S else crashS D.S l kept) = if F then S else crashS S (l.drop k) (kept / 2 ^ k))) (fun j _ => 64 - (intOf j).toNat)
    case atStart => exact ⟨0, D.S, Nat.zero_le _, by omega, rfl, hb13, m3, hO3, rfl, hs3, by simp [Hid]⟩
    case round =>
      clear hb13 m3 hO3 hs3 hcc
      obtain ⟨k, S, hk, hk64, rfl, hbr, mr, hOr, hSL, hRl, HS⟩ := hrel
      have HSL := Lib.hid hSL
      have hOo := hO1.up hbr
      have pr := p1.below hbr p1.lt
      have hsr := hbr.size
      clear q0 q1 q2 q3 q4
      obtain ⟨q0, q1, q2, q3, q4⟩ := five_cells pr
      have k0 : (0 : Int) ≤ (k : Int) := by omega
      by_cases hlk : k < nl
      · by_cases hl64 : k < 64
        · have d1 : decide ((k : Int) < (nl : Int)) = true := decide_eq_true (by omega)
          have d2 : decide ((k : Int) < 64) = true := decide_eq_true (by omega)
          have HK1 := Lib.hid (show k + 1 ≤ nl ∧ k + 1 ≤ 64 from ⟨by omega, by omega⟩)
          obtain ⟨gk, capk, hgk, hgkB, hgkl, hkc, _⟩ := own_key hOo hi
          obtain ⟨rfl, rfl⟩ : aK = some ⟨gk, 0, none⟩ ∧ cK = capk := by injection hgk with e1 _ e2; exact ⟨e1, e2⟩
          have hkl : k < l.length := by rw [HN.out]; exact hlk
          obtain ⟨y, hy⟩ : ∃ y, l[k] = y := ⟨_, rfl⟩
          have hyk := HCA.out.a _ (List.getElem_mem hkl)
          rw [hy] at hyk
          obtain ⟨y1, xt⟩ := y
          obtain ⟨hy0, hy1, -⟩ := hyk
          simp only at hy0 hy1
          obtain ⟨s, rfl⟩ := Int.eq_ofNat_of_zero_le hy0
          have hsl : s < S.length := by rw [HSL.out]; omega
          have k1 : (k : Int) < (nl : Int) := by omega
          have hcw : IntKind.u64.wrap (k : Int) = (k : Int) := by show (k : Int) % 18446744073709551616 = _; omega
          have i2 : (i : Int) < (D.K.length : Int) := by omega
          by_cases hbit : kept / 2 ^ k % 2 = 1
          · have hb1 : (bits .and .u64 ((kept : Int) / 2 ^ k) 1 == 1) = true := by rw [show (kept : Int) / 2 ^ k = (kept : Int) / 2 ^ min k 64 by rw [Nat.min_eq_left (by omega)], kept_bit hkept, hbit]; rfl
            obtain ⟨WA, hWA⟩ : ∃ WA, WA = (wr.alloc (.cells #[.int .i64 (D.K[i]'hi)] 3)).drew := ⟨_, rfl⟩
            have hbA : Below wr.heap.size wr WA := by rw [hWA]; exact (below_alloc wr _).drew
            have hkeep : ∀ wx : World, Below wr.heap.size wr wx → (wx.cell? ⟨b, 0, none⟩ = some (.slice aS D.S.length cS) ∧ wx.cell? ⟨b, 1, none⟩ = some (.slice aC D.C.length cC) ∧ wx.cell? ⟨b, 2, none⟩ = some (.slice (some ⟨gk, 0, none⟩) D.K.length cK) ∧ wx.cell? ⟨b, 3, none⟩ = some (.int .i64 D.n) ∧ wx.cell? ⟨b, 4, none⟩ = some (.slice aF D.F.length cF) ∧ wx.cell? ⟨gk, i, none⟩ = some (.int .i64 (D.K[i]'hi))) := fun wx hx => by
              obtain ⟨n0, n1, n2, n3, n4⟩ := five_cells (pr.below hx pr.lt)
              exact ⟨n0, n1, n2, n3, n4, (hx.cell (p := ⟨gk, i, none⟩) (show gk < wr.heap.size by omega)).trans hkc⟩
            have HWA0 : Hid ((((wr.alloc (.cells #[.int .i64 (D.K[i]'hi)] 3)).drew).cell? ⟨b, 0, none⟩ = some (.slice aS D.S.length cS) ∧ ((wr.alloc (.cells #[.int .i64 (D.K[i]'hi)] 3)).drew).cell? ⟨b, 1, none⟩ = some (.slice aC D.C.length cC) ∧ ((wr.alloc (.cells #[.int .i64 (D.K[i]'hi)] 3)).drew).cell? ⟨b, 2, none⟩ = some (.slice (some ⟨gk, 0, none⟩) D.K.length cK) ∧ ((wr.alloc (.cells #[.int .i64 (D.K[i]'hi)] 3)).drew).cell? ⟨b, 3, none⟩ = some (.int .i64 D.n) ∧ ((wr.alloc (.cells #[.int .i64 (D.K[i]'hi)] 3)).drew).cell? ⟨b, 4, none⟩ = some (.slice aF D.F.length cF) ∧ ((wr.alloc (.cells #[.int .i64 (D.K[i]'hi)] 3)).drew).cell? ⟨gk, i, none⟩ = some (.int .i64 (D.K[i]'hi)))) := hkeep _ ((below_alloc wr _).drew)
            have hlA : Lies WA WA.heap.size (some ⟨wr.heap.size, 0, none⟩) 1 ([D.K[i]'hi].map (Value.int .i64)) := by
              have h : WA.ownsRow wr.heap.size 3 1 (.slice (some ⟨wr.heap.size, 0, none⟩) 1 1) 1 [.int .i64 (D.K[i]'hi)] := by rw [hWA]; exact own_up (World.ownsRow_lit wr #[.int .i64 (D.K[i]'hi)] 1 (Nat.le_refl _) (by decide) rfl) ((Below.refl _ _).drew)
              exact Lies.of_own h
            have hcall := refFenced_any _ D (some ⟨wr.heap.size, 0, none⟩) 1 1 [D.K[i]'hi] WA (hOo.up hbA).dev hlA rfl (by decide)
            rw [HFE.out] at hcall
            clear hlA
            go_wp2_with fail
            refine wp_region_held_drew (S := (fun w' => w'.cell? ⟨b, 0, none⟩ = some (.slice aS D.S.length cS) ∧ w'.cell? ⟨b, 1, none⟩ = some (.slice aC D.C.length cC) ∧ w'.cell? ⟨b, 2, none⟩ = some (.slice (some ⟨gk, 0, none⟩) D.K.length cK) ∧ w'.cell? ⟨b, 3, none⟩ = some (.int .i64 D.n) ∧ w'.cell? ⟨b, 4, none⟩ = some (.slice aF D.F.length cF) ∧ w'.cell? ⟨gk, i, none⟩ = some (.int .i64 (D.K[i]'hi)))) (by kernel_rfl) ?_ (fun hHeld => ?_)
            focus (exact ⟨q0, q1, q2, q3, q4, hkc⟩)
            refine wpAnyH_take (i := 0) (oi := ⟨some 43, _, _, _, _, _⟩) (v := ?_) rfl (by kernel_rfl) (by kernel_rfl) (by kernel_rfl) (fun _ _ _ h => h) (Or.inl ⟨by rfl, ?_⟩) (by assumption) ?_
            rotate_left
            focus (intro wq hSq; (try dsimp only at hSq); go_simp; try with_reducible rfl)
            try simp only [Act.put, List.setIfInBounds_toArray, List.set_cons_zero, List.set_cons_succ]
            refine wpAnyH_take (i := 1) (oi := ⟨some 44, _, _, _, _, _⟩) (v := ?_) rfl (by kernel_rfl) (by kernel_rfl) (by kernel_rfl) (fun _ _ _ h => h) (Or.inl ⟨by rfl, ?_⟩) (by assumption) ?_
            rotate_left
            focus (intro wq hSq; (try dsimp only at hSq); go_simp; try with_reducible rfl)
            try simp only [Act.put, List.setIfInBounds_toArray, List.set_cons_zero, List.set_cons_succ]
            refine wpAnyH_take (i := 2) (oi := ⟨some 45, _, _, _, _, _⟩) (v := ?_) rfl (by kernel_rfl) (by kernel_rfl) (by kernel_rfl) (fun _ _ _ h => h) (Or.inl ⟨by rfl, ?_⟩) (by assumption) ?_
            rotate_left
            focus (intro wq hSq; (try dsimp only at hSq); go_simp; try with_reducible rfl)
            try simp only [Act.put, List.setIfInBounds_toArray, List.set_cons_zero, List.set_cons_succ]
            refine wpAnyH_take (i := 3) (oi := ⟨some 46, _, _, _, _, _⟩) (v := ?_) rfl (by kernel_rfl) (by kernel_rfl) (by kernel_rfl) (fun _ _ _ h => h) (Or.inl ⟨by rfl, ?_⟩) (by assumption) ?_
            rotate_left
            focus (intro wq hSq; (try dsimp only at hSq); go_simp; try with_reducible rfl)
            try simp only [Act.put, List.setIfInBounds_toArray, List.set_cons_zero, List.set_cons_succ]
            refine wpAnyH_take (i := 4) (oi := ⟨some 47, _, _, _, _, _⟩) (v := ?_) rfl (by kernel_rfl) (by kernel_rfl) (by kernel_rfl) (fun _ _ _ h => h) (Or.inl ⟨by rfl, ?_⟩) (by assumption) ?_
            rotate_left
            focus (intro wq hSq; (try dsimp only at hSq); go_simp; try with_reducible rfl)
            try simp only [Act.put, List.setIfInBounds_toArray, List.set_cons_zero, List.set_cons_succ]
            refine wpAnyH_take (i := 5) (oi := ⟨some 48, _, _, _, _, _⟩) (v := ?_) rfl (by kernel_rfl) (by kernel_rfl) (by kernel_rfl) (fun _ _ _ h => h) (Or.inl ⟨by rfl, ?_⟩) (by assumption) ?_
            rotate_left
            focus (intro wq hSq; (try dsimp only at hSq); go_simp; try with_reducible rfl)
            try simp only [Act.put, List.setIfInBounds_toArray, List.set_cons_zero, List.set_cons_succ]
            refine wpAnyH_take (i := 6) (oi := ⟨some 49, _, _, _, _, _⟩) (v := ?_) rfl (by kernel_rfl) (by kernel_rfl) (by kernel_rfl) (fun _ _ _ h => h) (Or.inl ⟨by rfl, ?_⟩) (by assumption) ?_
            rotate_left
            focus (intro wq hSq; (try dsimp only at hSq); go_simp; try with_reducible rfl)
            try simp only [Act.put, List.setIfInBounds_toArray, List.set_cons_zero, List.set_cons_succ]
            refine wpAnyH_take (i := 7) (oi := ⟨some 50, _, _, _, _, _⟩) (v := ?_) rfl (by kernel_rfl) (by kernel_rfl) (by kernel_rfl) (fun _ _ _ h => h) (Or.inl ⟨by rfl, ?_⟩) (by assumption) ?_
            rotate_left
            focus (intro wq hSq; (try dsimp only at hSq); go_simp; try with_reducible rfl)
            try simp only [Act.put, List.setIfInBounds_toArray, List.set_cons_zero, List.set_cons_succ]
            refine wpAnyH_take (i := 8) (oi := ⟨some 51, _, _, _, _, _⟩) (v := ?_) rfl (by kernel_rfl) (by kernel_rfl) (by kernel_rfl) (fun _ _ _ h => h) (Or.inl ⟨by rfl, ?_⟩) (by assumption) ?_
            rotate_left
            focus (intro wq hSq; (try dsimp only at hSq); go_simp; try with_reducible rfl)
            try simp only [Act.put, List.setIfInBounds_toArray, List.set_cons_zero, List.set_cons_succ]
            refine wpAnyH_take (i := 9) (oi := ⟨some 52, _, _, _, _, _⟩) (v := ?_) rfl (by kernel_rfl) (by kernel_rfl) (by kernel_rfl) (fun _ _ _ h => h) (Or.inl ⟨by rfl, ?_⟩) (by assumption) ?_
            rotate_left
            focus (intro wq hSq; (try dsimp only at hSq); go_simp; try with_reducible rfl)
            try simp only [Act.put, List.setIfInBounds_toArray, List.set_cons_zero, List.set_cons_succ]
            refine wpAnyH_take (i := 10) (oi := ⟨some 53, _, _, _, _, _⟩) (v := ?_) rfl (by kernel_rfl) (by kernel_rfl) (by kernel_rfl) (fun _ _ _ h => h) (Or.inl ⟨by rfl, ?_⟩) (by assumption) ?_
            rotate_left
            focus (intro wq hSq; (try dsimp only at hSq); go_simp; try with_reducible rfl)
            try simp only [Act.put, List.setIfInBounds_toArray, List.set_cons_zero, List.set_cons_succ]
            refine wpAnyH_take (i := 11) (oi := ⟨some 54, _, _, _, _, _⟩) (v := ?_) rfl (by kernel_rfl) (by kernel_rfl) (by kernel_rfl) (fun _ _ _ h => h) (Or.inl ⟨by rfl, ?_⟩) (by assumption) ?_
            rotate_left
            focus (intro wq hSq; (try dsimp only at hSq); go_simp; try with_reducible rfl)
            try simp only [Act.put, List.setIfInBounds_toArray, List.set_cons_zero, List.set_cons_succ]
            refine wpAnyH_take (i := 12) (oi := ⟨some 55, _, _, _, _, _⟩) (v := ?_) rfl (by kernel_rfl) (by kernel_rfl) (by kernel_rfl) (fun _ _ _ h => h) (Or.inl ⟨by rfl, ?_⟩) (by assumption) ?_
            rotate_left
            focus (intro wq hSq; (try dsimp only at hSq); go_simp; try with_reducible rfl)
            try simp only [Act.put, List.setIfInBounds_toArray, List.set_cons_zero, List.set_cons_succ]
            refine wpAnyH_ready (rs := [13]) (by kernel_rfl) (by simp) ?_
            refine AllReadyH.cons (o := ⟨some 56, _, _, _, _, _⟩) rfl (fun K hK => ?_) AllReadyH.nil
            go_simp
            refine hK.out _ _ ?_ (fun hHeld => ?_)
            focus (exact HWA0.out)
            clear hK K
            try simp only [Act.put, List.setIfInBounds_toArray, List.set_cons_zero, List.set_cons_succ]
            rw [← hWA]
            clear hWA HWA0
            refine wpAnyH_ready (rs := [14]) (by kernel_rfl) (by simp) ?_
            refine AllReadyH.cons (o := ⟨some 57, _, _, _, _, _⟩) rfl (fun K hK => ?_) AllReadyH.nil
            go_simp
            refine hcall.mono ?_
            rintro e w4 ⟨rfl, hb4⟩
            have hb04 := hbA.trans (hb4.mono hbA.size)
            have HS4 := Lib.hid (hkeep w4 hb04)
            clear hcall hb4 hbA
            go_wp2_with fail
            refine hK.out _ _ ?_ (fun hHeld => ?_)
            focus (exact HS4.out)
            clear hK K
            try simp only [Act.put, List.setIfInBounds_toArray, List.set_cons_zero, List.set_cons_succ]
            refine wpAnyH_take (i := 15) (oi := ⟨some 58, _, _, _, _, _⟩) (v := ?_) rfl (by kernel_rfl) (by kernel_rfl) (by kernel_rfl) (fun _ _ _ h => h) (Or.inl ⟨by rfl, ?_⟩) (by assumption) ?_
            rotate_left
            focus (intro wq hSq; (try dsimp only at hSq); go_simp; try with_reducible rfl)
            try simp only [Act.put, List.setIfInBounds_toArray, List.set_cons_zero, List.set_cons_succ]
            refine wpAnyH_take (i := 16) (oi := ⟨some 59, _, _, _, _, _⟩) (v := ?_) rfl (by kernel_rfl) (by kernel_rfl) (by kernel_rfl) (fun _ _ _ h => h) (Or.inl ⟨by rfl, ?_⟩) (by assumption) ?_
            rotate_left
            focus (intro wq hSq; (try dsimp only at hSq); go_simp; try with_reducible rfl)
            try simp only [Act.put, List.setIfInBounds_toArray, List.set_cons_zero, List.set_cons_succ]
            refine wpAnyH_done (by kernel_rfl) ?_ _
            have hbr4 := hbr.trans (hb04.mono hsr)
            have mr4 := mr.below hb04 mr.lt
            have hOr4 := hOr.up hb04
            have hRl4 : w2.heap.size < w4.heap.size := by have := hb04.size; omega
            clear hbr mr hOr hRl pr q0 q1 q2 q3 q4 hOo HS4
            cases F with
            | true =>
              have HSN : Hid ((if true then D.S else crashS D.S l kept) = if true then S else crashS S (l.drop (k + 1)) (kept / 2 ^ (k + 1))) := HS
              go_wp2_with fail
              go_roundw
              case rel => exact ⟨k + 1, S, HK1.out.1, HK1.out.2, by go_num, hbr4, mr4, hOr4, HSL.out, hRl4, HSN⟩
              case measure => have := HK1.out; simp [intOf]; omega
            | false =>
              have HSN : Hid ((if false then D.S else crashS D.S l kept) = if false then S.set s xt else crashS (S.set s xt) (l.drop (k + 1)) (kept / 2 ^ (k + 1))) := by
                have := crash_step HS hkl hy
                rwa [if_pos hbit] at this
              have hcD : cacheOf { D with S := S } i = l := HL.out
              obtain ⟨ga, c', e2, hgaB, hgal, hd1, hd2, _⟩ := own_cell hOr4 hic (k := k) (by rw [hcD]; exact hkl)
              simp only [hcD] at e2 hd1 hd2
              rw [hy] at hd1 hd2
              rw [HGI.out, HN.out] at e2
              obtain ⟨rfl, rfl⟩ : a = some ⟨ga, 0, none⟩ ∧ c = c' := by injection e2 with e1 _ e2; exact ⟨e1, e2⟩
              obtain ⟨gs, caps, es, hgsB, hgsl, hds, hfs⟩ := own_sector hOr4 (s := s) hsl
              obtain ⟨rfl, rfl⟩ : xS = some ⟨gs, 0, none⟩ ∧ yS = caps := by injection es with e1 _ e2; exact ⟨e1, e2⟩
              have hg1 : gs ≠ ga := own_ne hOr4.s (hOr4.cs i hic) (by decide) rfl (by rw [HGI.out]; rfl)
              have hg2 : ga ≠ gs := fun e => hg1 e.symm
              have hg3 : w2.heap.size ≠ gs := own_blk hOr4.s mr4 (by decide) rfl
              have hg4 : gs ≠ w2.heap.size := fun e => hg3 e.symm
              have z0 : w4.cell? ⟨w2.heap.size, 0, none⟩ = some (.slice (some ⟨gs, 0, none⟩) D.S.length yS) := mr4.cell 0 _ rfl
              have HO5 := Lib.hid (hOr4.setS (g := gs) (cap := yS) (by rw [HSL.out]) s xt)
              have HM5 := Lib.hid (mr4.other hg3 s (.string xt))
              have HB5 := Lib.hid (hbr4.setCell (p := ⟨gs, s, none⟩) (show w1.heap.size ≤ gs from hgsB) (.string xt))
              have HR5 : Hid (w2.heap.size < (w4.setCell ⟨gs, s, none⟩ (.string xt)).heap.size) := by show _ < _; simpa using hRl4
              have s0 : (0 : Int) ≤ (s : Int) := by omega
              have s1 : (s : Int) < (D.S.length : Int) := by rw [HSL.out] at hsl; omega
              have HLS : Hid ((S.set s xt).length = D.S.length) := by show _ = _; rw [List.length_set]; exact HSL.out
              clear HS e2 es hOr4 mr4 hbr4 hy hkl hcD hbit
              generalize S[s] = tOld at *
              go_wp2_with fail
              go_region_held3 (fun w' => w'.cell? ⟨w2.heap.size, 0, none⟩ = some (.slice (some ⟨gs, 0, none⟩) D.S.length yS) ∧ w'.cell? ⟨ga, k * 2, none⟩ = some (.int .i64 (s : Int)) ∧ w'.cell? ⟨ga, k * 2 + 1, none⟩ = some (.string xt)) (go_keep) (fail)
              go_wp2_with fail
              go_roundw
              case rel => exact ⟨k + 1, S.set s xt, HK1.out.1, HK1.out.2, by go_num, HB5.out.drew, HM5.out, HO5.out.up ((Below.refl _ _).drew), HLS.out, HR5.out, HSN⟩
              case measure => have := HK1.out; simp [intOf]; omega
          · have hb1 : (bits .and .u64 ((kept : Int) / 2 ^ k) 1 == 1) = false := by
              rw [show (kept : Int) / 2 ^ k = (kept : Int) / 2 ^ min k 64 by rw [Nat.min_eq_left (by omega)], kept_bit hkept]
              exact beq_no (by omega)
            go_wp2_with fail
            refine wp_region_held_drew (S := (fun w' => w'.cell? ⟨b, 0, none⟩ = some (.slice aS D.S.length cS) ∧ w'.cell? ⟨b, 1, none⟩ = some (.slice aC D.C.length cC) ∧ w'.cell? ⟨b, 2, none⟩ = some (.slice (some ⟨gk, 0, none⟩) D.K.length cK) ∧ w'.cell? ⟨b, 3, none⟩ = some (.int .i64 D.n) ∧ w'.cell? ⟨b, 4, none⟩ = some (.slice aF D.F.length cF) ∧ w'.cell? ⟨gk, i, none⟩ = some (.int .i64 (D.K[i]'hi)))) (by kernel_rfl) ?_ (fun hHeld => ?_)
            focus (exact ⟨q0, q1, q2, q3, q4, hkc⟩)
            refine wpAnyH_take (i := 0) (oi := ⟨some 43, _, _, _, _, _⟩) (v := ?_) rfl (by kernel_rfl) (by kernel_rfl) (by kernel_rfl) (fun _ _ _ h => h) (Or.inl ⟨by rfl, ?_⟩) (by assumption) ?_
            rotate_left
            focus (intro wq hSq; (try dsimp only at hSq); go_simp; try with_reducible rfl)
            try simp only [Act.put, List.setIfInBounds_toArray, List.set_cons_zero, List.set_cons_succ]
            refine wpAnyH_take (i := 1) (oi := ⟨some 44, _, _, _, _, _⟩) (v := ?_) rfl (by kernel_rfl) (by kernel_rfl) (by kernel_rfl) (fun _ _ _ h => h) (Or.inl ⟨by rfl, ?_⟩) (by assumption) ?_
            rotate_left
            focus (intro wq hSq; (try dsimp only at hSq); go_simp; try with_reducible rfl)
            try simp only [Act.put, List.setIfInBounds_toArray, List.set_cons_zero, List.set_cons_succ]
            refine wpAnyH_take (i := 2) (oi := ⟨some 45, _, _, _, _, _⟩) (v := ?_) rfl (by kernel_rfl) (by kernel_rfl) (by kernel_rfl) (fun _ _ _ h => h) (Or.inl ⟨by rfl, ?_⟩) (by assumption) ?_
            rotate_left
            focus (intro wq hSq; (try dsimp only at hSq); go_simp; try with_reducible rfl)
            try simp only [Act.put, List.setIfInBounds_toArray, List.set_cons_zero, List.set_cons_succ]
            refine wpAnyH_take (i := 3) (oi := ⟨some 46, _, _, _, _, _⟩) (v := ?_) rfl (by kernel_rfl) (by kernel_rfl) (by kernel_rfl) (fun _ _ _ h => h) (Or.inl ⟨by rfl, ?_⟩) (by assumption) ?_
            rotate_left
            focus (intro wq hSq; (try dsimp only at hSq); go_simp; try with_reducible rfl)
            try simp only [Act.put, List.setIfInBounds_toArray, List.set_cons_zero, List.set_cons_succ]
            refine wpAnyH_take (i := 4) (oi := ⟨some 47, _, _, _, _, _⟩) (v := ?_) rfl (by kernel_rfl) (by kernel_rfl) (by kernel_rfl) (fun _ _ _ h => h) (Or.inl ⟨by rfl, ?_⟩) (by assumption) ?_
            rotate_left
            focus (intro wq hSq; (try dsimp only at hSq); go_simp; try with_reducible rfl)
            try simp only [Act.put, List.setIfInBounds_toArray, List.set_cons_zero, List.set_cons_succ]
            refine wpAnyH_take (i := 5) (oi := ⟨some 48, _, _, _, _, _⟩) (v := ?_) rfl (by kernel_rfl) (by kernel_rfl) (by kernel_rfl) (fun _ _ _ h => h) (Or.inl ⟨by rfl, ?_⟩) (by assumption) ?_
            rotate_left
            focus (intro wq hSq; (try dsimp only at hSq); go_simp; try with_reducible rfl)
            try simp only [Act.put, List.setIfInBounds_toArray, List.set_cons_zero, List.set_cons_succ]
            refine wpAnyH_take (i := 6) (oi := ⟨some 49, _, _, _, _, _⟩) (v := ?_) rfl (by kernel_rfl) (by kernel_rfl) (by kernel_rfl) (fun _ _ _ h => h) (Or.inl ⟨by rfl, ?_⟩) (by assumption) ?_
            rotate_left
            focus (intro wq hSq; (try dsimp only at hSq); go_simp; try with_reducible rfl)
            try simp only [Act.put, List.setIfInBounds_toArray, List.set_cons_zero, List.set_cons_succ]
            refine wpAnyH_take (i := 7) (oi := ⟨some 50, _, _, _, _, _⟩) (v := undef) rfl (by kernel_rfl) (by kernel_rfl) (by kernel_rfl) (fun _ _ _ h => h) (Or.inr ⟨by rfl, rfl⟩) (by assumption) ?_
            try simp only [Act.put, List.setIfInBounds_toArray, List.set_cons_zero, List.set_cons_succ]
            refine wpAnyH_take (i := 8) (oi := ⟨some 51, _, _, _, _, _⟩) (v := undef) rfl (by kernel_rfl) (by kernel_rfl) (by kernel_rfl) (fun _ _ _ h => h) (Or.inr ⟨by rfl, rfl⟩) (by assumption) ?_
            try simp only [Act.put, List.setIfInBounds_toArray, List.set_cons_zero, List.set_cons_succ]
            refine wpAnyH_take (i := 9) (oi := ⟨some 52, _, _, _, _, _⟩) (v := undef) rfl (by kernel_rfl) (by kernel_rfl) (by kernel_rfl) (fun _ _ _ h => h) (Or.inr ⟨by rfl, rfl⟩) (by assumption) ?_
            try simp only [Act.put, List.setIfInBounds_toArray, List.set_cons_zero, List.set_cons_succ]
            refine wpAnyH_take (i := 10) (oi := ⟨some 53, _, _, _, _, _⟩) (v := undef) rfl (by kernel_rfl) (by kernel_rfl) (by kernel_rfl) (fun _ _ _ h => h) (Or.inr ⟨by rfl, rfl⟩) (by assumption) ?_
            try simp only [Act.put, List.setIfInBounds_toArray, List.set_cons_zero, List.set_cons_succ]
            refine wpAnyH_take (i := 11) (oi := ⟨some 54, _, _, _, _, _⟩) (v := undef) rfl (by kernel_rfl) (by kernel_rfl) (by kernel_rfl) (fun _ _ _ h => h) (Or.inr ⟨by rfl, rfl⟩) (by assumption) ?_
            try simp only [Act.put, List.setIfInBounds_toArray, List.set_cons_zero, List.set_cons_succ]
            refine wpAnyH_take (i := 12) (oi := ⟨some 55, _, _, _, _, _⟩) (v := undef) rfl (by kernel_rfl) (by kernel_rfl) (by kernel_rfl) (fun _ _ _ h => h) (Or.inr ⟨by rfl, rfl⟩) (by assumption) ?_
            try simp only [Act.put, List.setIfInBounds_toArray, List.set_cons_zero, List.set_cons_succ]
            refine wpAnyH_take (i := 13) (oi := ⟨some 56, _, _, _, _, _⟩) (v := undef) rfl (by kernel_rfl) (by kernel_rfl) (by kernel_rfl) (fun _ _ _ h => h) (Or.inr ⟨by rfl, rfl⟩) (by assumption) ?_
            try simp only [Act.put, List.setIfInBounds_toArray, List.set_cons_zero, List.set_cons_succ]
            refine wpAnyH_take (i := 14) (oi := ⟨some 57, _, _, _, _, _⟩) (v := undef) rfl (by kernel_rfl) (by kernel_rfl) (by kernel_rfl) (fun _ _ _ h => h) (Or.inr ⟨by rfl, rfl⟩) (by assumption) ?_
            try simp only [Act.put, List.setIfInBounds_toArray, List.set_cons_zero, List.set_cons_succ]
            refine wpAnyH_take (i := 15) (oi := ⟨some 58, _, _, _, _, _⟩) (v := undef) rfl (by kernel_rfl) (by kernel_rfl) (by kernel_rfl) (fun _ _ _ h => h) (Or.inr ⟨by rfl, rfl⟩) (by assumption) ?_
            try simp only [Act.put, List.setIfInBounds_toArray, List.set_cons_zero, List.set_cons_succ]
            refine wpAnyH_take (i := 16) (oi := ⟨some 59, _, _, _, _, _⟩) (v := ?_) rfl (by kernel_rfl) (by kernel_rfl) (by kernel_rfl) (fun _ _ _ h => h) (Or.inl ⟨by rfl, ?_⟩) (by assumption) ?_
            rotate_left
            focus (intro wq hSq; (try dsimp only at hSq); go_simp; try with_reducible rfl)
            try simp only [Act.put, List.setIfInBounds_toArray, List.set_cons_zero, List.set_cons_succ]
            refine wpAnyH_done (by kernel_rfl) ?_ _
            have HSN : Hid ((if F then D.S else crashS D.S l kept) = if F then S else crashS S (l.drop (k + 1)) (kept / 2 ^ (k + 1))) := by
              show _ = _
              cases F with
              | true => exact HS
              | false =>
                have := crash_step HS hkl hy
                rwa [if_neg hbit] at this
            clear HS hy hkl hbit pr q0 q1 q2 q3 q4 hOo
            go_wp2_with fail
            go_roundw
            case rel => exact ⟨k + 1, S, HK1.out.1, HK1.out.2, by go_num, hbr.drew, mr, hOr.up ((Below.refl _ _).drew), HSL.out, hRl, HSN⟩
            case measure => have := HK1.out; simp [intOf]; omega
        · have d1 : decide ((k : Int) < (nl : Int)) = true := decide_eq_true (by omega)
          have d2 : decide ((k : Int) < 64) = false := decide_eq_false (by omega)
          have HFI : Hid ((if F then D.S else crashS D.S l kept) = S) := by
            show _ = _
            rw [HS]
            cases F with
            | true => rfl
            | false =>
              show crashS S (l.drop k) (kept / 2 ^ k) = S
              rw [show k = 64 by omega, Nat.div_eq_of_lt (by simpa using hkept), crashS_zero]
          have HFD : Hid (crashD D i kept = { { D with S := S } with C := D.C.set i [] }) := by
            show crashD D i kept = _
            unfold crashD
            rw [HKE.out, HF.out, HL.out, HFI.out]
          have hra := r1.below hbr r1.lt
          obtain ⟨gc', capc', a', c', hgc', hgi', hgcB', hgcl', hcc', hcf', _, _⟩ := own_cache hOr hic
          obtain ⟨rfl, rfl⟩ : gc = gc' ∧ yC = capc' := by injection hgc' with e1 _ e2; injection e1 with e1; injection e1 with e1; exact ⟨e1, e2⟩
          have hg1 : w2.heap.size ≠ gc := own_blk hOr.c mr (by decide) rfl
          have hg2 : gc ≠ w2.heap.size := fun e => hg1 e.symm
          have hws := HWS.out
          have hg3 : gc ≠ b + 1 := by omega
          have hg4 : b + 1 ≠ gc := by omega
          have hO5 := hOr.setC rfl hic (World.ownsRow_nil _ _ _ _) (l := []) (by intro j x _ _ hx; cases hx)
          have r5 := hra.other hg4 i (.slice none 0 0)
          have ha5 := (ha1.trans (hbr.mono (by omega))).setCell (p := ⟨gc, i, none⟩) (show b ≤ gc by omega) (.slice none 0 0)
          obtain ⟨m0, m1, m2, m3, m4⟩ := five_cells mr
          obtain ⟨z0, z1, z2, z3, z4⟩ := five_cells hra
          obtain ⟨f0, f1, f2, f3, f4⟩ := five_free hra
          have H1 := Lib.hid (into5_range r5 rfl (.slice xS D.S.length yS) (.slice (some ⟨gc, 0, none⟩) D.C.length yC) (.slice xK D.K.length yK) D.n (.slice xF D.F.length yF))
          have H2 := Lib.hid (OwnD.less (B' := B) (into5_other hO5 r5 (by decide) (by decide) (by decide) (by decide) (.slice xS D.S.length yS) (.slice (some ⟨gc, 0, none⟩) D.C.length yC) (.slice xK D.K.length yK) D.n (.slice xF D.F.length yF)) (by omega))
          have H3 := Lib.hid (into5_below ha5 (Nat.le_succ b) (.slice xS D.S.length yS) (.slice (some ⟨gc, 0, none⟩) D.C.length yC) (.slice xK D.K.length yK) D.n (.slice xF D.F.length yF))
          clear hO5 r5 ha5 hra mr hOr hbr hgc' hgi' q0 q1 q2 q3 q4 pr hOo
          go_wp2_with fail
          refine bodyPost_ret (results_c2 (cs := [.slice xS D.S.length yS, .slice (some ⟨gc, 0, none⟩) D.C.length yC, .slice xK D.K.length yK, .int .i64 D.n, .slice xF D.F.length yF]) Try.results25 (by rfl) (by rfl) H1.out Try.underlying29 rfl (by kernel_rfl)) rfl ?_
          rw [HP.out, HE.out, show (i : Int).toNat = i from rfl, HFD.out]
          exact rDev_of H2.out (by rw [hbe]; exact H3.out) rfl
      · have d1 : decide ((k : Int) < (nl : Int)) = false := decide_eq_false (by omega)
        have HFI : Hid ((if F then D.S else crashS D.S l kept) = S) := by
          show _ = _
          rw [HS]
          cases F with
          | true => rfl
          | false =>
            show crashS S (l.drop k) (kept / 2 ^ k) = S
            rw [List.drop_eq_nil_of_le (by rw [HN.out]; omega)]
            rfl
        have HFD : Hid (crashD D i kept = { { D with S := S } with C := D.C.set i [] }) := by
          show crashD D i kept = _
          unfold crashD
          rw [HKE.out, HF.out, HL.out, HFI.out]
        have hra := r1.below hbr r1.lt
        obtain ⟨gc', capc', a', c', hgc', hgi', hgcB', hgcl', hcc', hcf', _, _⟩ := own_cache hOr hic
        obtain ⟨rfl, rfl⟩ : gc = gc' ∧ yC = capc' := by injection hgc' with e1 _ e2; injection e1 with e1; injection e1 with e1; exact ⟨e1, e2⟩
        have hg1 : w2.heap.size ≠ gc := own_blk hOr.c mr (by decide) rfl
        have hg2 : gc ≠ w2.heap.size := fun e => hg1 e.symm
        have hws := HWS.out
        have hg3 : gc ≠ b + 1 := by omega
        have hg4 : b + 1 ≠ gc := by omega
        have hO5 := hOr.setC rfl hic (World.ownsRow_nil _ _ _ _) (l := []) (by intro j x _ _ hx; cases hx)
        have r5 := hra.other hg4 i (.slice none 0 0)
        have ha5 := (ha1.trans (hbr.mono (by omega))).setCell (p := ⟨gc, i, none⟩) (show b ≤ gc by omega) (.slice none 0 0)
        obtain ⟨m0, m1, m2, m3, m4⟩ := five_cells mr
        obtain ⟨z0, z1, z2, z3, z4⟩ := five_cells hra
        obtain ⟨f0, f1, f2, f3, f4⟩ := five_free hra
        have H1 := Lib.hid (into5_range r5 rfl (.slice xS D.S.length yS) (.slice (some ⟨gc, 0, none⟩) D.C.length yC) (.slice xK D.K.length yK) D.n (.slice xF D.F.length yF))
        have H2 := Lib.hid (OwnD.less (B' := B) (into5_other hO5 r5 (by decide) (by decide) (by decide) (by decide) (.slice xS D.S.length yS) (.slice (some ⟨gc, 0, none⟩) D.C.length yC) (.slice xK D.K.length yK) D.n (.slice xF D.F.length yF)) (by omega))
        have H3 := Lib.hid (into5_below ha5 (Nat.le_succ b) (.slice xS D.S.length yS) (.slice (some ⟨gc, 0, none⟩) D.C.length yC) (.slice xK D.K.length yK) D.n (.slice xF D.F.length yF))
        clear hO5 r5 ha5 hra mr hOr hbr hgc' hgi' q0 q1 q2 q3 q4 pr hOo
        go_wp2_with fail
        refine bodyPost_ret (results_c2 (cs := [.slice xS D.S.length yS, .slice (some ⟨gc, 0, none⟩) D.C.length yC, .slice xK D.K.length yK, .int .i64 D.n, .slice xF D.F.length yF]) Try.results25 (by rfl) (by rfl) H1.out Try.underlying29 rfl (by kernel_rfl)) rfl ?_
        rw [HP.out, HE.out, show (i : Int).toNat = i from rfl, HFD.out]
        exact rDev_of H2.out (by rw [hbe]; exact H3.out) rfl
  · have HP : Hid (crD D node kept = D) := if_neg hN
    have HE : Hid (nodeE D node = 2) := if_neg hN
    have hcs := node_bad hN
    clear hN
    go_enter Try.func25, Try.ntmps25
    go_wp2_with fail
    rw [← hW]
    clear hW
    refine hc.mono ?_
    rintro e w1 ⟨rfl, hb1⟩
    have p1 := p0.below hb1 p0.lt
    have r1 := r0.below hb1 r0.lt
    have hO1 := hO0.up hb1
    have ha1 := hb0.trans (hb1.mono (by omega))
    clear q0 q1 q2 q3 q4 p0 r0 hb0 hc hO0 hb1
    obtain ⟨q0, q1, q2, q3, q4⟩ := five_cells p1
    obtain ⟨z0, z1, z2, z3, z4⟩ := five_cells r1
    obtain ⟨f0, f1, f2, f3, f4⟩ := five_free r1
    have H1 := Lib.hid (into5_range r1 rfl (.slice aS D.S.length cS) (.slice aC D.C.length cC) (.slice aK D.K.length cK) D.n (.slice aF D.F.length cF))
    have H2 := Lib.hid (into5_other hO1 r1 (by decide) (by decide) (by decide) (by decide) (.slice aS D.S.length cS) (.slice aC D.C.length cC) (.slice aK D.K.length cK) D.n (.slice aF D.F.length cF))
    have H3 := Lib.hid (into5_below ha1 (Nat.le_succ b) (.slice aS D.S.length cS) (.slice aC D.C.length cC) (.slice aK D.K.length cK) D.n (.slice aF D.F.length cF))
    clear hO1 p1 r1 ha1
    rcases hcs with t1 | ⟨t1, t2⟩
    all_goals go_wp2_with fail
    all_goals refine bodyPost_ret (results_c2 (cs := [.slice aS D.S.length cS, .slice aC D.C.length cC, .slice aK D.K.length cK, .int .i64 D.n, .slice aF D.F.length cF]) Try.results25 (by rfl) (by rfl) H1.out Try.underlying29 rfl (by kernel_rfl)) rfl ?_
    all_goals rw [HP.out, HE.out]
    all_goals exact rDev_of H2.out (by rw [hbe]; exact H3.out) rfl

end Go.Proofs.Ytleemgjbihdbgaa

/-
  The document's device: an act, kind by kind: by contract. (what is shared)
-/
namespace Go.Proofs.Ytleemgjbihdbgaa
open Go.RowKit
set_option linter.unusedVariables false
set_option linter.unusedSimpArgs false

theorem do_is {D : Dev} {i : Nat} {a : ActM} {E : Int} (hi : i < D.K.length) (h : actE D i a = E) (hE : E ≠ 0) : doD D (i : Int) a = D ∧ doS D (i : Int) a = ⟨#[]⟩ ∧ refE D (i : Int) a = E := by
  have hn : NodeOk D (i : Int) := ⟨by omega, by omega⟩
  have hr : refE D (i : Int) a = E := by unfold refE; rw [if_pos hn]; exact h
  obtain ⟨h1, h2⟩ := do_err (D := D) (node := (i : Int)) (a := a) (by rw [hr]; exact hE)
  exact ⟨h1, h2, hr⟩
theorem do_ok {D : Dev} {i : Nat} {a : ActM} (hi : i < D.K.length) (h : actE D i a = 0) : doD D (i : Int) a = actD D i a ∧ doS D (i : Int) a = actS D i a ∧ refE D (i : Int) a = 0 := by
  have hn : NodeOk D (i : Int) := ⟨by omega, by omega⟩
  have hr : refE D (i : Int) a = 0 := by unfold refE; rw [if_pos hn]; exact h
  obtain ⟨j, hj, _, _, h1, h2⟩ := do_okay hr
  obtain rfl : i = j := by omega
  exact ⟨h1, h2, hr⟩
theorem act_cells {w : World} {b : Nat} {v0 v1 v2 v3 : Value} {T : TypeId} (h : Blk w b #[v0, v1, v2, v3] T) : w.cell? ⟨b, 0, none⟩ = some v0 ∧ w.cell? ⟨b, 1, none⟩ = some v1 ∧ w.cell? ⟨b, 2, none⟩ = some v2 ∧ w.cell? ⟨b, 3, none⟩ = some v3 :=
  ⟨h.cell 0 _ rfl, h.cell 1 _ rfl, h.cell 2 _ rfl, h.cell 3 _ rfl⟩

end Go.Proofs.Ytleemgjbihdbgaa

/-
  The document's device: an act, kind by kind: by contract. (reading)
-/
namespace Go.Proofs.Ytleemgjbihdbgaa
open Go.RowKit
set_option linter.unusedVariables false
set_option linter.unusedSimpArgs false

set_option maxRecDepth 100000 in
set_option maxHeartbeats 1000000 in
theorem refDo1 (B : Nat) (vS vC vK vF : Value) (f : Nat → Value) (D : Dev) (i : Nat) (s : Int) (t : ByteArray) (key : Int) (w : World) (hO : OwnD w B vS vC vK vF f D) (hB : B ≤ w.heap.size) (hm : MayD D) (hS : Small D 1099511627776) (hi : i < D.K.length) (ha : ActBd ⟨1, s, t, key⟩) (htm : t.size ≤ maxLen) :
    Calls Try.prog 14 #[.agg #[vS, vC, vK, .int .i64 D.n, vF], .int .i64 (i : Int), .agg #[.int .i8 1, .int .i64 s, .string t, .int .i64 key]] w (RAct B (doD D (i : Int) ⟨1, s, t, key⟩) (doS D (i : Int) ⟨1, s, t, key⟩) (refE D (i : Int) ⟨1, s, t, key⟩) w) := by
  obtain ⟨aS, cS, aC, cC, aK, cK, aF, cF, rfl, rfl, rfl, rfl⟩ := own_shapes hO
  obtain ⟨gk, capk, hgk, hgkB, hgkl, _, _⟩ := own_key hO hi
  obtain ⟨rfl, rfl⟩ : aK = some ⟨gk, 0, none⟩ ∧ cK = capk := by injection hgk with e1 _ e2; exact ⟨e1, e2⟩
  clear hgk
  obtain ⟨W0, hW⟩ : ∃ W0, W0 = ((w.alloc (.cells #[.slice aS D.S.length cS, .slice aC D.C.length cC, .slice (some ⟨gk, 0, none⟩) D.K.length cK, .int .i64 D.n, .slice aF D.F.length cF] 29)).alloc (.cells #[.int .i8 1, .int .i64 s, .string t, .int .i64 key] 38)).alloc (.cells #[.slice none 0 0, .slice none 0 0, .slice none 0 0, .int .i64 0, .slice none 0 0] 29) := ⟨_, rfl⟩
  obtain ⟨b, hbe⟩ : ∃ b, w.heap.size = b := ⟨_, rfl⟩
  have hb0 : Below b w W0 := by rw [hW]; exact (((Below.refl _ _).alloc (by omega) _).alloc (by simp; omega) _).alloc (by simp; omega) _
  have p0 : Blk W0 b #[.slice aS D.S.length cS, .slice aC D.C.length cC, .slice (some ⟨gk, 0, none⟩) D.K.length cK, .int .i64 D.n, .slice aF D.F.length cF] 29 := by rw [hW, ← hbe]; exact ((Blk.new w _ _).alloc _).alloc _
  have m0 : Blk W0 (b + 1) #[.int .i8 1, .int .i64 s, .string t, .int .i64 key] 38 := by
    have h1 := (Blk.new (w.alloc (.cells #[.slice aS D.S.length cS, .slice aC D.C.length cC, .slice (some ⟨gk, 0, none⟩) D.K.length cK, .int .i64 D.n, .slice aF D.F.length cF] 29)) #[.int .i8 1, .int .i64 s, .string t, .int .i64 key] 38).alloc (.cells #[.slice none 0 0, .slice none 0 0, .slice none 0 0, .int .i64 0, .slice none 0 0] 29)
    rw [hW, ← hbe]
    simpa using h1
  have r0 : Blk W0 (b + 1 + 1) #[.slice none 0 0, .slice none 0 0, .slice none 0 0, .int .i64 0, .slice none 0 0] 29 := by
    have h1 := Blk.new ((w.alloc (.cells #[.slice aS D.S.length cS, .slice aC D.C.length cC, .slice (some ⟨gk, 0, none⟩) D.K.length cK, .int .i64 D.n, .slice aF D.F.length cF] 29)).alloc (.cells #[.int .i8 1, .int .i64 s, .string t, .int .i64 key] 38)) #[.slice none 0 0, .slice none 0 0, .slice none 0 0, .int .i64 0, .slice none 0 0] 29
    rw [hW, ← hbe]
    simpa using h1
  have hO0 := hO.up (hbe ▸ hb0)
  have hsz : W0.heap.size = b + 3 := by rw [hW, ← hbe]; simp
  have hc := refCheck_yes _ D W0 hO0.dev hm hS.s
  have HCK := Lib.hid hm.ck
  have HBB : Hid (B ≤ b) := hbe ▸ hB
  have HSS := Lib.hid hS
  have HMM := Lib.hid hm
  have HHI := Lib.hid hi
  have HAB := Lib.hid ha
  unfold maxLen at htm
  clear hO hm hB ha
  obtain ⟨q0, q1, q2, q3, q4⟩ := five_cells p0
  obtain ⟨y0, y1, y2, y3⟩ := act_cells m0
  have t1 : decide ((i : Int) < 0) = false := decide_eq_false (by omega)
  have t2 : decide ((D.K.length : Int) ≤ (i : Int)) = false := decide_eq_false (by omega)
  go_enter Try.func14, Try.ntmps14
  go_wp2_with fail
  rw [← hW]
  clear hW
  refine hc.mono ?_
  rintro e w1 ⟨rfl, hc1⟩
  have p1 := p0.below hc1 p0.lt
  have m1 := m0.below hc1 m0.lt
  have r1 := r0.below hc1 r0.lt
  have hO1 := hO0.up hc1
  have hs1 := hc1.size
  have hb1 := hb0.trans (hc1.mono (by omega))
  clear q0 q1 q2 q3 q4 y0 y1 y2 y3 p0 m0 r0 hb0 hO0 hc1 hc
  obtain ⟨q0, q1, q2, q3, q4⟩ := five_cells p1
  obtain ⟨y0, y1, y2, y3⟩ := act_cells m1
  have hkc : w1.cell? ⟨gk, i, none⟩ = some (.int .i64 (D.K[i]'hi)) := by
    rw [hO1.k.cellAt i (by omega), List.getElem?_map, List.getElem?_eq_getElem hi]
    rfl
  obtain ⟨F, hF⟩ : ∃ F, fencedK D (D.K[i]'hi) = F := ⟨_, rfl⟩
  have HFE : Hid (fencedAny D.F [D.K[i]'hi] = F) := (fencedAny_one D _).trans hF
  have HKE : Hid (fencedK D (keyOf D i) = F) := by show _ = _; unfold keyOf; rw [List.getD, List.getElem?_eq_getElem hi]; exact hF
  clear hF
  obtain ⟨WA, hWA⟩ : ∃ WA, WA = (w1.alloc (.cells #[.int .i64 (D.K[i]'hi)] 3)).drew := ⟨_, rfl⟩
  have hbA : Below w1.heap.size w1 WA := by rw [hWA]; exact (below_alloc w1 _).drew
  have hgl : gk < w1.heap.size := by omega
  have hkeep : ∀ wx : World, Below w1.heap.size w1 wx → (wx.cell? ⟨b, 0, none⟩ = some (.slice aS D.S.length cS) ∧ wx.cell? ⟨b, 1, none⟩ = some (.slice aC D.C.length cC) ∧ wx.cell? ⟨b, 2, none⟩ = some (.slice (some ⟨gk, 0, none⟩) D.K.length cK) ∧ wx.cell? ⟨b, 3, none⟩ = some (.int .i64 D.n) ∧ wx.cell? ⟨b, 4, none⟩ = some (.slice aF D.F.length cF) ∧ wx.cell? ⟨gk, i, none⟩ = some (.int .i64 (D.K[i]'hi)) ∧ wx.cell? ⟨b + 1, 0, none⟩ = some (.int .i8 1)) := fun wx hx => by
    obtain ⟨n0, n1, n2, n3, n4⟩ := five_cells (p1.below hx p1.lt)
    exact ⟨n0, n1, n2, n3, n4, (hx.cell (p := ⟨gk, i, none⟩) hgl).trans hkc, (m1.below hx m1.lt).cell 0 _ rfl⟩
  have HWA0 : Hid (((w1.alloc (.cells #[.int .i64 (D.K[i]'hi)] 3)).drew).cell? ⟨b, 0, none⟩ = some (.slice aS D.S.length cS) ∧ ((w1.alloc (.cells #[.int .i64 (D.K[i]'hi)] 3)).drew).cell? ⟨b, 1, none⟩ = some (.slice aC D.C.length cC) ∧ ((w1.alloc (.cells #[.int .i64 (D.K[i]'hi)] 3)).drew).cell? ⟨b, 2, none⟩ = some (.slice (some ⟨gk, 0, none⟩) D.K.length cK) ∧ ((w1.alloc (.cells #[.int .i64 (D.K[i]'hi)] 3)).drew).cell? ⟨b, 3, none⟩ = some (.int .i64 D.n) ∧ ((w1.alloc (.cells #[.int .i64 (D.K[i]'hi)] 3)).drew).cell? ⟨b, 4, none⟩ = some (.slice aF D.F.length cF) ∧ ((w1.alloc (.cells #[.int .i64 (D.K[i]'hi)] 3)).drew).cell? ⟨gk, i, none⟩ = some (.int .i64 (D.K[i]'hi)) ∧ ((w1.alloc (.cells #[.int .i64 (D.K[i]'hi)] 3)).drew).cell? ⟨b + 1, 0, none⟩ = some (.int .i8 1)) := hkeep _ ((below_alloc w1 _).drew)
  have hlA : Lies WA WA.heap.size (some ⟨w1.heap.size, 0, none⟩) 1 ([D.K[i]'hi].map (Value.int .i64)) := by
    have h : WA.ownsRow w1.heap.size 3 1 (.slice (some ⟨w1.heap.size, 0, none⟩) 1 1) 1 [.int .i64 (D.K[i]'hi)] := by rw [hWA]; exact own_up (World.ownsRow_lit w1 #[.int .i64 (D.K[i]'hi)] 1 (Nat.le_refl _) (by decide) rfl) ((Below.refl _ _).drew)
    exact Lies.of_own h
  have hcall := refFenced_any _ D (some ⟨w1.heap.size, 0, none⟩) 1 1 [D.K[i]'hi] WA (hO1.up hbA).dev hlA rfl (by decide)
  rw [HFE.out] at hcall
  have i0 : (0 : Int) ≤ (i : Int) := by omega
  have i2 : (i : Int) < (D.K.length : Int) := by omega
  clear hlA
  go_wp2_with fail
  refine wp_region_held_drew (S := (fun w' => w'.cell? ⟨b, 0, none⟩ = some (.slice aS D.S.length cS) ∧ w'.cell? ⟨b, 1, none⟩ = some (.slice aC D.C.length cC) ∧ w'.cell? ⟨b, 2, none⟩ = some (.slice (some ⟨gk, 0, none⟩) D.K.length cK) ∧ w'.cell? ⟨b, 3, none⟩ = some (.int .i64 D.n) ∧ w'.cell? ⟨b, 4, none⟩ = some (.slice aF D.F.length cF) ∧ w'.cell? ⟨gk, i, none⟩ = some (.int .i64 (D.K[i]'hi)) ∧ w'.cell? ⟨b + 1, 0, none⟩ = some (.int .i8 1))) (by kernel_rfl) ?_ (fun hHeld => ?_)
  focus (exact ⟨q0, q1, q2, q3, q4, hkc, y0⟩)
  refine wpAnyH_take (i := 0) (oi := ⟨some 78, _, _, _, _, _⟩) (v := ?_) rfl (by kernel_rfl) (by kernel_rfl) (by kernel_rfl) (fun _ _ _ h => h) (Or.inl ⟨by rfl, ?_⟩) (by assumption) ?_
  rotate_left
  focus (intro wq hSq; (try dsimp only at hSq); go_simp; try with_reducible rfl)
  try simp only [Act.put, List.setIfInBounds_toArray, List.set_cons_zero, List.set_cons_succ]
  refine wpAnyH_take (i := 1) (oi := ⟨some 79, _, _, _, _, _⟩) (v := ?_) rfl (by kernel_rfl) (by kernel_rfl) (by kernel_rfl) (fun _ _ _ h => h) (Or.inl ⟨by rfl, ?_⟩) (by assumption) ?_
  rotate_left
  focus (intro wq hSq; (try dsimp only at hSq); go_simp; try with_reducible rfl)
  try simp only [Act.put, List.setIfInBounds_toArray, List.set_cons_zero, List.set_cons_succ]
  refine wpAnyH_take (i := 2) (oi := ⟨some 80, _, _, _, _, _⟩) (v := ?_) rfl (by kernel_rfl) (by kernel_rfl) (by kernel_rfl) (fun _ _ _ h => h) (Or.inl ⟨by rfl, ?_⟩) (by assumption) ?_
  rotate_left
  focus (intro wq hSq; (try dsimp only at hSq); go_simp; try with_reducible rfl)
  try simp only [Act.put, List.setIfInBounds_toArray, List.set_cons_zero, List.set_cons_succ]
  refine wpAnyH_take (i := 3) (oi := ⟨some 81, _, _, _, _, _⟩) (v := ?_) rfl (by kernel_rfl) (by kernel_rfl) (by kernel_rfl) (fun _ _ _ h => h) (Or.inl ⟨by rfl, ?_⟩) (by assumption) ?_
  rotate_left
  focus (intro wq hSq; (try dsimp only at hSq); go_simp; try with_reducible rfl)
  try simp only [Act.put, List.setIfInBounds_toArray, List.set_cons_zero, List.set_cons_succ]
  refine wpAnyH_take (i := 4) (oi := ⟨some 82, _, _, _, _, _⟩) (v := ?_) rfl (by kernel_rfl) (by kernel_rfl) (by kernel_rfl) (fun _ _ _ h => h) (Or.inl ⟨by rfl, ?_⟩) (by assumption) ?_
  rotate_left
  focus (intro wq hSq; (try dsimp only at hSq); go_simp; try with_reducible rfl)
  try simp only [Act.put, List.setIfInBounds_toArray, List.set_cons_zero, List.set_cons_succ]
  refine wpAnyH_take (i := 5) (oi := ⟨some 83, _, _, _, _, _⟩) (v := ?_) rfl (by kernel_rfl) (by kernel_rfl) (by kernel_rfl) (fun _ _ _ h => h) (Or.inl ⟨by rfl, ?_⟩) (by assumption) ?_
  rotate_left
  focus (intro wq hSq; (try dsimp only at hSq); go_simp; try with_reducible rfl)
  try simp only [Act.put, List.setIfInBounds_toArray, List.set_cons_zero, List.set_cons_succ]
  refine wpAnyH_take (i := 6) (oi := ⟨some 84, _, _, _, _, _⟩) (v := ?_) rfl (by kernel_rfl) (by kernel_rfl) (by kernel_rfl) (fun _ _ _ h => h) (Or.inl ⟨by rfl, ?_⟩) (by assumption) ?_
  rotate_left
  focus (intro wq hSq; (try dsimp only at hSq); go_simp; try with_reducible rfl)
  try simp only [Act.put, List.setIfInBounds_toArray, List.set_cons_zero, List.set_cons_succ]
  refine wpAnyH_take (i := 7) (oi := ⟨some 85, _, _, _, _, _⟩) (v := ?_) rfl (by kernel_rfl) (by kernel_rfl) (by kernel_rfl) (fun _ _ _ h => h) (Or.inl ⟨by rfl, ?_⟩) (by assumption) ?_
  rotate_left
  focus (intro wq hSq; (try dsimp only at hSq); go_simp; try with_reducible rfl)
  try simp only [Act.put, List.setIfInBounds_toArray, List.set_cons_zero, List.set_cons_succ]
  refine wpAnyH_take (i := 8) (oi := ⟨some 86, _, _, _, _, _⟩) (v := ?_) rfl (by kernel_rfl) (by kernel_rfl) (by kernel_rfl) (fun _ _ _ h => h) (Or.inl ⟨by rfl, ?_⟩) (by assumption) ?_
  rotate_left
  focus (intro wq hSq; (try dsimp only at hSq); go_simp; try with_reducible rfl)
  try simp only [Act.put, List.setIfInBounds_toArray, List.set_cons_zero, List.set_cons_succ]
  refine wpAnyH_take (i := 9) (oi := ⟨some 87, _, _, _, _, _⟩) (v := ?_) rfl (by kernel_rfl) (by kernel_rfl) (by kernel_rfl) (fun _ _ _ h => h) (Or.inl ⟨by rfl, ?_⟩) (by assumption) ?_
  rotate_left
  focus (intro wq hSq; (try dsimp only at hSq); go_simp; try with_reducible rfl)
  try simp only [Act.put, List.setIfInBounds_toArray, List.set_cons_zero, List.set_cons_succ]
  refine wpAnyH_ready (rs := [10]) (by kernel_rfl) (by simp) ?_
  refine AllReadyH.cons (o := ⟨some 88, _, _, _, _, _⟩) rfl (fun K hK => ?_) AllReadyH.nil
  go_simp
  refine hK.out _ _ ?_ (fun hHeld => ?_)
  focus (exact HWA0.out)
  clear hK K
  try simp only [Act.put, List.setIfInBounds_toArray, List.set_cons_zero, List.set_cons_succ]
  rw [← hWA]
  clear hWA HWA0
  refine wpAnyH_ready (rs := [11]) (by kernel_rfl) (by simp) ?_
  refine AllReadyH.cons (o := ⟨some 89, _, _, _, _, _⟩) rfl (fun K hK => ?_) AllReadyH.nil
  go_simp
  refine hcall.mono ?_
  rintro e w4 ⟨rfl, hb4⟩
  have hc4 := hbA.trans (hb4.mono hbA.size)
  have HS4 := Lib.hid (hkeep w4 hc4)
  clear hcall hb4 hbA hkeep
  go_wp2_with fail
  refine hK.out _ _ ?_ (fun hHeld => ?_)
  focus (exact HS4.out)
  clear hK K
  try simp only [Act.put, List.setIfInBounds_toArray, List.set_cons_zero, List.set_cons_succ]
  refine wpAnyH_take (i := 12) (oi := ⟨some 90, _, _, _, _, _⟩) (v := ?_) rfl (by kernel_rfl) (by kernel_rfl) (by kernel_rfl) (fun _ _ _ h => h) (Or.inl ⟨by rfl, ?_⟩) (by assumption) ?_
  rotate_left
  focus (intro wq hSq; (try dsimp only at hSq); go_simp; try with_reducible rfl)
  try simp only [Act.put, List.setIfInBounds_toArray, List.set_cons_zero, List.set_cons_succ]
  refine wpAnyH_done (by kernel_rfl) ?_ _
  clear HS4 hkc
  have p4 := p1.below hc4 p1.lt
  have m4 := m1.below hc4 m1.lt
  have r4 := r1.below hc4 r1.lt
  have hO4 := hO1.up hc4
  have hs4 := hc4.size
  have hb4 := hb1.trans (hc4.mono (by omega))
  clear q0 q1 q2 q3 q4 y0 y1 y2 y3 p1 m1 r1 hb1 hO1 hc4
  obtain ⟨q0, q1, q2, q3, q4⟩ := five_cells p4
  obtain ⟨y0, y1, y2, y3⟩ := act_cells m4
  cases F with
  | true =>
    have HX : Hid (doD D (i : Int) ⟨1, s, t, key⟩ = D ∧ doS D (i : Int) ⟨1, s, t, key⟩ = ⟨#[]⟩ ∧ refE D (i : Int) ⟨1, s, t, key⟩ = 61) := do_is HHI.out (by simp [actE, HKE.out]) (by decide)
    obtain ⟨z0, z1, z2, z3, z4⟩ := five_cells r4
    obtain ⟨f0, f1, f2, f3, f4⟩ := five_free r4
    have H1 := Lib.hid (into5_range r4 rfl (.slice aS D.S.length cS) (.slice aC D.C.length cC) (.slice (some ⟨gk, 0, none⟩) D.K.length cK) D.n (.slice aF D.F.length cF))
    have H2 := Lib.hid (into5_other hO4 r4 (by decide) (by decide) (by decide) (by decide) (.slice aS D.S.length cS) (.slice aC D.C.length cC) (.slice (some ⟨gk, 0, none⟩) D.K.length cK) D.n (.slice aF D.F.length cF))
    have H3 := Lib.hid (into5_below hb4 (show b ≤ b + 1 + 1 by omega) (.slice aS D.S.length cS) (.slice aC D.C.length cC) (.slice (some ⟨gk, 0, none⟩) D.K.length cK) D.n (.slice aF D.F.length cF))
    clear hO4 p4 m4 r4 hb4
    go_wp2_with fail
    refine bodyPost_ret (results_c3 (cs := [.slice aS D.S.length cS, .slice aC D.C.length cC, .slice (some ⟨gk, 0, none⟩) D.K.length cK, .int .i64 D.n, .slice aF D.F.length cF]) Try.results14 (by rfl) (by rfl) (by rfl) H1.out Try.underlying29 rfl (by kernel_rfl)) rfl ?_
    rw [HX.out.1, HX.out.2.1, HX.out.2.2]
    exact rAct_of H2.out (by rw [hbe]; exact H3.out) rfl
  | false =>
    by_cases hs0 : 0 ≤ s ∧ s < (D.S.length : Int)
    · have HOK : Hid (doD D (i : Int) ⟨1, s, t, key⟩ = D ∧ doS D (i : Int) ⟨1, s, t, key⟩ = readD D i s ∧ refE D (i : Int) ⟨1, s, t, key⟩ = 0) := by
        have h0 : actE D i ⟨1, s, t, key⟩ = 0 := by simp [actE, HKE.out, hs0]
        obtain ⟨h1, h2, h3⟩ := do_ok HHI.out h0
        refine ⟨?_, ?_, h3⟩
        · rw [h1]; simp [actD, h0]
        · rw [h2]; simp [actS, h0]
      obtain ⟨s', rfl⟩ := Int.eq_ofNat_of_zero_le hs0.1
      have hsl : s' < D.S.length := by have := hs0.2; omega
      have s0 : decide ((s' : Int) < 0) = false := decide_eq_false (by omega)
      have s1 : decide ((D.S.length : Int) ≤ (s' : Int)) = false := decide_eq_false (by omega)
      have s2 : (0 : Int) ≤ (s' : Int) := by omega
      have s3 : (s' : Int) < (D.S.length : Int) := by omega
      have HSL := Lib.hid hsl
      clear hs0
      have hcp := refCopied_any _ D w4 hO4.dev HSS.out
      have HOUTN : Hid (B ≤ w4.heap.size ∧ b + 3 ≤ w4.heap.size) := by have := HBB.out; show _ ∧ _; omega
      go_wp2_with fail
      refine hcp.mono ?_
      rintro e w5 ⟨uS, uC, uK, uF, g, rfl, hN5, hc5⟩
      clear hcp
      obtain ⟨xS, yS, xC, yC, xK, yK, xF, yF, rfl, rfl, rfl, rfl⟩ := own_shapes hN5
      have hic : i < D.C.length := by have := HCK.out; omega
      obtain ⟨gc, capc, a, c, hgc, hgi, hgcB, hgcl, hcc, hcf, hlc, hcm⟩ := own_cache hN5 hic
      obtain ⟨rfl, rfl⟩ : xC = some ⟨gc, 0, none⟩ ∧ yC = capc := by injection hgc with e1 _ e2; exact ⟨e1, e2⟩
      obtain ⟨hk, caph, hhk, hhkB, hhkl, _, _⟩ := own_key hN5 hi
      obtain ⟨rfl, rfl⟩ : xK = some ⟨hk, 0, none⟩ ∧ yK = caph := by injection hhk with e1 _ e2; exact ⟨e1, e2⟩
      clear hgc hhk
      have p5 := p4.below hc5 p4.lt
      have m5 := m4.below hc5 m4.lt
      have r5 := r4.below hc5 r4.lt
      have hO5 := hO4.up hc5
      have hs5 := hc5.size
      have hb5 := hb4.trans (hc5.mono (by omega))
      clear q0 q1 q2 q3 q4 y0 y1 y2 y3 p4 m4 r4 hb4 hO4 hc5
      obtain ⟨q0, q1, q2, q3, q4⟩ := five_cells p5
      obtain ⟨y0, y1, y2, y3⟩ := act_cells m5
      obtain ⟨w6, hw6⟩ : ∃ W, W = w5.alloc (.cells #[.slice xS D.S.length yS, .slice (some ⟨gc, 0, none⟩) D.C.length yC, .slice (some ⟨hk, 0, none⟩) D.K.length yK, .int .i64 D.n, .slice xF D.F.length yF] 29) := ⟨_, rfl⟩
      have hc6 : Below w5.heap.size w5 w6 := hw6 ▸ below_alloc w5 _
      have R6 : Blk w6 w5.heap.size #[.slice xS D.S.length yS, .slice (some ⟨gc, 0, none⟩) D.C.length yC, .slice (some ⟨hk, 0, none⟩) D.K.length yK, .int .i64 D.n, .slice xF D.F.length yF] 29 := hw6 ▸ Blk.new w5 _ _
      have hN6 := hN5.up hc6
      have hcc6 : w6.cell? ⟨gc, i, none⟩ = some (.slice a (cacheOf D i).length c) := (hc6.cell (p := ⟨gc, i, none⟩) hgcl).trans hcc
      have hcf6 : w6.frozen? ⟨gc, i, none⟩ = false := hN6.c.frozenAt i
      have HR6 : Hid (w5.heap.size < w6.heap.size) := by show _ < _; rw [hw6]; simp
      have HGI := Lib.hid hgi
      have HGC : Hid (w4.heap.size ≤ gc ∧ gc < w5.heap.size) := ⟨hgcB, hgcl⟩
      have HHK : Hid (w4.heap.size ≤ hk ∧ hk < w5.heap.size) := ⟨hhkB, hhkl⟩
      have HMC := Lib.hid hcm
      have HLC0 := hlc
      obtain ⟨l, hl⟩ : ∃ l, cacheOf D i = l := ⟨_, rfl⟩
      have HL := Lib.hid hl
      have HCO : Hid (CacheOk l D.S.length) := by show CacheOk l _; rw [← hl]; exact cache_ok HMM.out i
      rw [hl] at hcc hcc6 hlc HGI
      obtain ⟨nl, hnl⟩ : ∃ n, l.length = n := ⟨_, rfl⟩
      have HN := Lib.hid hnl
      rw [hnl] at hcc hcc6 hlc HGI
      have hA6 : Lies w6 w6.heap.size a (nl * 2) (celV l) := by
        have h := hN6.cs i hic
        rw [HGI.out, show D.C.getD i [] = l from HL.out, HN.out] at h
        exact lies_own2 h
      have hpl := refPlace_any a nl c l (s' : Int) w6.heap.size w6 hA6 HN.out (by have := HMC.out; omega)
      have HS2 : Hid (nl ≤ 1099511627776) := by
        show nl ≤ _
        rw [← HN.out, ← HL.out]
        exact HSS.out.cs _ (by unfold cacheOf; rw [List.getD, List.getElem?_eq_getElem hic]; exact List.getElem_mem hic)
      have i0 : (0 : Int) ≤ (i : Int) := by omega
      have i1 : (i : Int) < (D.C.length : Int) := by omega
      have hcl := hgcl
      have hbl1 : b + 1 < w5.heap.size := by have := HOUTN.out; omega
      have hbl2 : b + 1 + 1 < w5.heap.size := by have := HOUTN.out; omega
      have HLC := Lib.hid hlc
      clear hl hnl hgi hcf hN5 hcm hlc HLC0
      go_wp2_with fail
      rw [← hw6]
      refine hpl.mono ?_
      rintro e w7 ⟨rfl, rfl⟩
      clear hpl hcc hw6 hcl hgcB hgcl hhkB hhkl
      have p6 := p5.below hc6 p5.lt
      have m6 := m5.below hc6 m5.lt
      have r6 := r5.below hc6 r5.lt
      have hO6 := hO5.up hc6
      have hs6 := hc6.size
      have hb6 := hb5.trans (hc6.mono (by omega))
      clear q0 q1 q2 q3 q4 y0 y1 y2 y3 p5 m5 r5 hb5 hO5 hc6
      obtain ⟨q0, q1, q2, q3, q4⟩ := five_cells p6
      obtain ⟨y0, y1, y2, y3⟩ := act_cells m6
      cases hp : placeO l (s' : Int) with
      | some k =>
        obtain ⟨hkl, -⟩ := place_some hp
        have HRD : Hid (readD D i (s' : Int) = (l[k]'hkl).2) := by
          show _ = _
          unfold readD
          rw [HL.out, hp]
          simp only
          rw [getD_some hkl]
        rw [placeI_some hp]
        obtain ⟨ga, c', e2, hgaB, hgal, hd1, hd2, _⟩ := own_cell hN6 hic (k := k) (by rw [show cacheOf D i = l from HL.out]; exact hkl)
        have hd3 : w6.cell? ⟨ga, k * 2 + 1, none⟩ = some (.string (l[k]'hkl).2) := by
          rw [hd2]
          congr 3
          exact (by have := HL.out; subst this; rfl)
        rw [HGI.out] at e2
        obtain ⟨rfl, rfl⟩ : a = some ⟨ga, 0, none⟩ ∧ c = c' := by injection e2 with e1 _ e2; exact ⟨e1, e2⟩
        have hg1 : ga ≠ b + 1 + 1 := by have := HOUTN.out; omega
        have hg2 : b + 1 + 1 ≠ ga := fun e => hg1 e.symm
        have k0 : (0 : Int) ≤ (k : Int) := by omega
        have k1 : (k : Int) < (nl : Int) := by have := HN.out; omega
        rw [HRD.out] at HOK
        clear hd1 hd2 e2
        generalize (l[k]'hkl).2 = tx at *
        have hg3 : w5.heap.size ≠ b + 1 + 1 := by omega
        have hg4 : b + 1 + 1 ≠ w5.heap.size := by omega
        have hg5 : b + 1 ≠ b + 1 + 1 := by omega
        obtain ⟨x0, x1, x2, x3, x4⟩ := five_cells R6
        obtain ⟨z0, z1, z2, z3, z4⟩ := five_cells r6
        obtain ⟨f0, f1, f2, f3, f4⟩ := five_free r6
        have H1 := Lib.hid ((into5_self r6 rfl (.slice xS D.S.length yS) (.slice (some ⟨gc, 0, none⟩) D.C.length yC) (.slice (some ⟨hk, 0, none⟩) D.K.length yK) D.n (.slice xF D.F.length yF)).drew).range
        have H2 := Lib.hid (OwnD.less (B' := B) ((into5_other hN6 r6 (by decide) (by decide) (by decide) (by decide) (.slice xS D.S.length yS) (.slice (some ⟨gc, 0, none⟩) D.C.length yC) (.slice (some ⟨hk, 0, none⟩) D.K.length yK) D.n (.slice xF D.F.length yF)).up ((Below.refl _ _).drew)) (by have := HOUTN.out; omega))
        have H3 := Lib.hid (into5_below hb6 (show b ≤ b + 1 + 1 by omega) (.slice xS D.S.length yS) (.slice (some ⟨gc, 0, none⟩) D.C.length yC) (.slice (some ⟨hk, 0, none⟩) D.K.length yK) D.n (.slice xF D.F.length yF)).drew
        clear R6 r6 hb6 hN6 q0 q1 q2 q3 q4 y2 y3 p6 m6 hO6 hA6
        go_wp2_with fail
        go_region_held3 (fun w' => w'.cell? ⟨w5.heap.size, 0, none⟩ = some (.slice xS D.S.length yS) ∧ w'.cell? ⟨w5.heap.size, 1, none⟩ = some (.slice (some ⟨gc, 0, none⟩) D.C.length yC) ∧ w'.cell? ⟨w5.heap.size, 2, none⟩ = some (.slice (some ⟨hk, 0, none⟩) D.K.length yK) ∧ w'.cell? ⟨w5.heap.size, 3, none⟩ = some (.int .i64 D.n) ∧ w'.cell? ⟨w5.heap.size, 4, none⟩ = some (.slice xF D.F.length yF) ∧ w'.cell? ⟨ga, k * 2 + 1, none⟩ = some (.string tx)) (go_keep) (fail)
        go_wp2_with fail
        refine bodyPost_ret (results_c3 (cs := [.slice xS D.S.length yS, .slice (some ⟨gc, 0, none⟩) D.C.length yC, .slice (some ⟨hk, 0, none⟩) D.K.length yK, .int .i64 D.n, .slice xF D.F.length yF]) Try.results14 (by rfl) (by rfl) (by rfl) H1.out Try.underlying29 rfl (by kernel_rfl)) rfl ?_
        rw [HOK.out.1, HOK.out.2.1, HOK.out.2.2]
        exact rAct_of H2.out (by rw [hbe]; exact H3.out) rfl
      | none =>
        have HRD : Hid (readD D i (s' : Int) = D.S[s']'hsl) := by
          show _ = _
          unfold readD
          rw [HL.out, hp]
          simp only [Int.toNat_natCast]
          rw [List.getD, List.getElem?_eq_getElem hsl]
          rfl
        rw [placeI_none hp]
        obtain ⟨gs, caps, es, hgsB, hgsl, hds, hfs⟩ := own_sector hN6 hsl
        obtain ⟨rfl, rfl⟩ : xS = some ⟨gs, 0, none⟩ ∧ yS = caps := by injection es with e1 _ e2; exact ⟨e1, e2⟩
        have hg1 : gs ≠ b + 1 + 1 := by have := HOUTN.out; omega
        have hg2 : b + 1 + 1 ≠ gs := fun e => hg1 e.symm
        rw [HRD.out] at HOK
        clear es
        generalize D.S[s']'hsl = tx at *
        have hg3 : w5.heap.size ≠ b + 1 + 1 := by omega
        have hg4 : b + 1 + 1 ≠ w5.heap.size := by omega
        have hg5 : b + 1 ≠ b + 1 + 1 := by omega
        obtain ⟨x0, x1, x2, x3, x4⟩ := five_cells R6
        obtain ⟨z0, z1, z2, z3, z4⟩ := five_cells r6
        obtain ⟨f0, f1, f2, f3, f4⟩ := five_free r6
        have H1 := Lib.hid ((into5_self r6 rfl (.slice (some ⟨gs, 0, none⟩) D.S.length yS) (.slice (some ⟨gc, 0, none⟩) D.C.length yC) (.slice (some ⟨hk, 0, none⟩) D.K.length yK) D.n (.slice xF D.F.length yF)).drew).range
        have H2 := Lib.hid (OwnD.less (B' := B) ((into5_other hN6 r6 (by decide) (by decide) (by decide) (by decide) (.slice (some ⟨gs, 0, none⟩) D.S.length yS) (.slice (some ⟨gc, 0, none⟩) D.C.length yC) (.slice (some ⟨hk, 0, none⟩) D.K.length yK) D.n (.slice xF D.F.length yF)).up ((Below.refl _ _).drew)) (by have := HOUTN.out; omega))
        have H3 := Lib.hid (into5_below hb6 (show b ≤ b + 1 + 1 by omega) (.slice (some ⟨gs, 0, none⟩) D.S.length yS) (.slice (some ⟨gc, 0, none⟩) D.C.length yC) (.slice (some ⟨hk, 0, none⟩) D.K.length yK) D.n (.slice xF D.F.length yF)).drew
        clear R6 r6 hb6 hN6 q0 q1 q2 q3 q4 y2 y3 p6 m6 hO6 hA6
        go_wp2_with fail
        go_region_held3 (fun w' => w'.cell? ⟨w5.heap.size, 0, none⟩ = some (.slice (some ⟨gs, 0, none⟩) D.S.length yS) ∧ w'.cell? ⟨w5.heap.size, 1, none⟩ = some (.slice (some ⟨gc, 0, none⟩) D.C.length yC) ∧ w'.cell? ⟨w5.heap.size, 2, none⟩ = some (.slice (some ⟨hk, 0, none⟩) D.K.length yK) ∧ w'.cell? ⟨w5.heap.size, 3, none⟩ = some (.int .i64 D.n) ∧ w'.cell? ⟨w5.heap.size, 4, none⟩ = some (.slice xF D.F.length yF) ∧ w'.cell? ⟨b + 1, 1, none⟩ = some (.int .i64 (s' : Int)) ∧ w'.cell? ⟨gs, s', none⟩ = some (.string tx)) (go_keep) (fail)
        go_wp2_with fail
        refine bodyPost_ret (results_c3 (cs := [.slice (some ⟨gs, 0, none⟩) D.S.length yS, .slice (some ⟨gc, 0, none⟩) D.C.length yC, .slice (some ⟨hk, 0, none⟩) D.K.length yK, .int .i64 D.n, .slice xF D.F.length yF]) Try.results14 (by rfl) (by rfl) (by rfl) H1.out Try.underlying29 rfl (by kernel_rfl)) rfl ?_
        rw [HOK.out.1, HOK.out.2.1, HOK.out.2.2]
        exact rAct_of H2.out (by rw [hbe]; exact H3.out) rfl
    · have hcs : decide (s < 0) = true ∨ (decide (s < 0) = false ∧ decide ((D.S.length : Int) ≤ s) = true) := by
        by_cases h : s < 0
        · exact .inl (decide_eq_true h)
        · exact .inr ⟨decide_eq_false h, decide_eq_true (by omega)⟩
      have hn : ¬ (0 ≤ s ∧ s < (D.S.length : Int)) := hs0
      rcases hcs with s1 | ⟨s1, s2⟩
      · have HX : Hid (doD D (i : Int) ⟨1, s, t, key⟩ = D ∧ doS D (i : Int) ⟨1, s, t, key⟩ = ⟨#[]⟩ ∧ refE D (i : Int) ⟨1, s, t, key⟩ = 60) := do_is HHI.out (by simp [actE, HKE.out]; omega) (by decide)
        obtain ⟨z0, z1, z2, z3, z4⟩ := five_cells r4
        obtain ⟨f0, f1, f2, f3, f4⟩ := five_free r4
        have H1 := Lib.hid (into5_range r4 rfl (.slice aS D.S.length cS) (.slice aC D.C.length cC) (.slice (some ⟨gk, 0, none⟩) D.K.length cK) D.n (.slice aF D.F.length cF))
        have H2 := Lib.hid (into5_other hO4 r4 (by decide) (by decide) (by decide) (by decide) (.slice aS D.S.length cS) (.slice aC D.C.length cC) (.slice (some ⟨gk, 0, none⟩) D.K.length cK) D.n (.slice aF D.F.length cF))
        have H3 := Lib.hid (into5_below hb4 (show b ≤ b + 1 + 1 by omega) (.slice aS D.S.length cS) (.slice aC D.C.length cC) (.slice (some ⟨gk, 0, none⟩) D.K.length cK) D.n (.slice aF D.F.length cF))
        clear hO4 p4 m4 r4 hb4
        go_wp2_with fail
        refine bodyPost_ret (results_c3 (cs := [.slice aS D.S.length cS, .slice aC D.C.length cC, .slice (some ⟨gk, 0, none⟩) D.K.length cK, .int .i64 D.n, .slice aF D.F.length cF]) Try.results14 (by rfl) (by rfl) (by rfl) H1.out Try.underlying29 rfl (by kernel_rfl)) rfl ?_
        rw [HX.out.1, HX.out.2.1, HX.out.2.2]
        exact rAct_of H2.out (by rw [hbe]; exact H3.out) rfl
      · have HX : Hid (doD D (i : Int) ⟨1, s, t, key⟩ = D ∧ doS D (i : Int) ⟨1, s, t, key⟩ = ⟨#[]⟩ ∧ refE D (i : Int) ⟨1, s, t, key⟩ = 60) := do_is HHI.out (by simp [actE, HKE.out]; omega) (by decide)
        obtain ⟨z0, z1, z2, z3, z4⟩ := five_cells r4
        obtain ⟨f0, f1, f2, f3, f4⟩ := five_free r4
        have H1 := Lib.hid (into5_range r4 rfl (.slice aS D.S.length cS) (.slice aC D.C.length cC) (.slice (some ⟨gk, 0, none⟩) D.K.length cK) D.n (.slice aF D.F.length cF))
        have H2 := Lib.hid (into5_other hO4 r4 (by decide) (by decide) (by decide) (by decide) (.slice aS D.S.length cS) (.slice aC D.C.length cC) (.slice (some ⟨gk, 0, none⟩) D.K.length cK) D.n (.slice aF D.F.length cF))
        have H3 := Lib.hid (into5_below hb4 (show b ≤ b + 1 + 1 by omega) (.slice aS D.S.length cS) (.slice aC D.C.length cC) (.slice (some ⟨gk, 0, none⟩) D.K.length cK) D.n (.slice aF D.F.length cF))
        clear hO4 p4 m4 r4 hb4
        go_wp2_with fail
        refine bodyPost_ret (results_c3 (cs := [.slice aS D.S.length cS, .slice aC D.C.length cC, .slice (some ⟨gk, 0, none⟩) D.K.length cK, .int .i64 D.n, .slice aF D.F.length cF]) Try.results14 (by rfl) (by rfl) (by rfl) H1.out Try.underlying29 rfl (by kernel_rfl)) rfl ?_
        rw [HX.out.1, HX.out.2.1, HX.out.2.2]
        exact rAct_of H2.out (by rw [hbe]; exact H3.out) rfl

end Go.Proofs.Ytleemgjbihdbgaa

/-
  The document's device: an act, kind by kind: by contract. (forcing)
-/
namespace Go.Proofs.Ytleemgjbihdbgaa
open Go.RowKit
set_option linter.unusedVariables false
set_option linter.unusedSimpArgs false

set_option maxRecDepth 100000 in
set_option maxHeartbeats 1000000 in
theorem refDo2 (B : Nat) (vS vC vK vF : Value) (f : Nat → Value) (D : Dev) (i : Nat) (s : Int) (t : ByteArray) (key : Int) (w : World) (hO : OwnD w B vS vC vK vF f D) (hB : B ≤ w.heap.size) (hm : MayD D) (hS : Small D 1099511627776) (hi : i < D.K.length) (ha : ActBd ⟨2, s, t, key⟩) (htm : t.size ≤ maxLen) :
    Calls Try.prog 14 #[.agg #[vS, vC, vK, .int .i64 D.n, vF], .int .i64 (i : Int), .agg #[.int .i8 2, .int .i64 s, .string t, .int .i64 key]] w (RAct B (doD D (i : Int) ⟨2, s, t, key⟩) (doS D (i : Int) ⟨2, s, t, key⟩) (refE D (i : Int) ⟨2, s, t, key⟩) w) := by
  obtain ⟨aS, cS, aC, cC, aK, cK, aF, cF, rfl, rfl, rfl, rfl⟩ := own_shapes hO
  obtain ⟨gk, capk, hgk, hgkB, hgkl, _, _⟩ := own_key hO hi
  obtain ⟨rfl, rfl⟩ : aK = some ⟨gk, 0, none⟩ ∧ cK = capk := by injection hgk with e1 _ e2; exact ⟨e1, e2⟩
  clear hgk
  obtain ⟨W0, hW⟩ : ∃ W0, W0 = ((w.alloc (.cells #[.slice aS D.S.length cS, .slice aC D.C.length cC, .slice (some ⟨gk, 0, none⟩) D.K.length cK, .int .i64 D.n, .slice aF D.F.length cF] 29)).alloc (.cells #[.int .i8 2, .int .i64 s, .string t, .int .i64 key] 38)).alloc (.cells #[.slice none 0 0, .slice none 0 0, .slice none 0 0, .int .i64 0, .slice none 0 0] 29) := ⟨_, rfl⟩
  obtain ⟨b, hbe⟩ : ∃ b, w.heap.size = b := ⟨_, rfl⟩
  have hb0 : Below b w W0 := by rw [hW]; exact (((Below.refl _ _).alloc (by omega) _).alloc (by simp; omega) _).alloc (by simp; omega) _
  have p0 : Blk W0 b #[.slice aS D.S.length cS, .slice aC D.C.length cC, .slice (some ⟨gk, 0, none⟩) D.K.length cK, .int .i64 D.n, .slice aF D.F.length cF] 29 := by rw [hW, ← hbe]; exact ((Blk.new w _ _).alloc _).alloc _
  have m0 : Blk W0 (b + 1) #[.int .i8 2, .int .i64 s, .string t, .int .i64 key] 38 := by
    have h1 := (Blk.new (w.alloc (.cells #[.slice aS D.S.length cS, .slice aC D.C.length cC, .slice (some ⟨gk, 0, none⟩) D.K.length cK, .int .i64 D.n, .slice aF D.F.length cF] 29)) #[.int .i8 2, .int .i64 s, .string t, .int .i64 key] 38).alloc (.cells #[.slice none 0 0, .slice none 0 0, .slice none 0 0, .int .i64 0, .slice none 0 0] 29)
    rw [hW, ← hbe]
    simpa using h1
  have r0 : Blk W0 (b + 1 + 1) #[.slice none 0 0, .slice none 0 0, .slice none 0 0, .int .i64 0, .slice none 0 0] 29 := by
    have h1 := Blk.new ((w.alloc (.cells #[.slice aS D.S.length cS, .slice aC D.C.length cC, .slice (some ⟨gk, 0, none⟩) D.K.length cK, .int .i64 D.n, .slice aF D.F.length cF] 29)).alloc (.cells #[.int .i8 2, .int .i64 s, .string t, .int .i64 key] 38)) #[.slice none 0 0, .slice none 0 0, .slice none 0 0, .int .i64 0, .slice none 0 0] 29
    rw [hW, ← hbe]
    simpa using h1
  have hO0 := hO.up (hbe ▸ hb0)
  have hsz : W0.heap.size = b + 3 := by rw [hW, ← hbe]; simp
  have hc := refCheck_yes _ D W0 hO0.dev hm hS.s
  have HCK := Lib.hid hm.ck
  have HBB : Hid (B ≤ b) := hbe ▸ hB
  have HSS := Lib.hid hS
  have HMM := Lib.hid hm
  have HHI := Lib.hid hi
  have HAB := Lib.hid ha
  unfold maxLen at htm
  clear hO hm hB ha
  obtain ⟨q0, q1, q2, q3, q4⟩ := five_cells p0
  obtain ⟨y0, y1, y2, y3⟩ := act_cells m0
  have t1 : decide ((i : Int) < 0) = false := decide_eq_false (by omega)
  have t2 : decide ((D.K.length : Int) ≤ (i : Int)) = false := decide_eq_false (by omega)
  go_enter Try.func14, Try.ntmps14
  go_wp2_with fail
  rw [← hW]
  clear hW
  refine hc.mono ?_
  rintro e w1 ⟨rfl, hc1⟩
  have p1 := p0.below hc1 p0.lt
  have m1 := m0.below hc1 m0.lt
  have r1 := r0.below hc1 r0.lt
  have hO1 := hO0.up hc1
  have hs1 := hc1.size
  have hb1 := hb0.trans (hc1.mono (by omega))
  clear q0 q1 q2 q3 q4 y0 y1 y2 y3 p0 m0 r0 hb0 hO0 hc1 hc
  obtain ⟨q0, q1, q2, q3, q4⟩ := five_cells p1
  obtain ⟨y0, y1, y2, y3⟩ := act_cells m1
  by_cases h512 : 512 < t.size
  · have h5 : decide ((512 : Int) < (t.size : Int)) = true := decide_eq_true (by omega)
    have HX : Hid (doD D (i : Int) ⟨2, s, t, key⟩ = D ∧ doS D (i : Int) ⟨2, s, t, key⟩ = ⟨#[]⟩ ∧ refE D (i : Int) ⟨2, s, t, key⟩ = 2) := do_is HHI.out (by simp [actE, h512]) (by decide)
    obtain ⟨z0, z1, z2, z3, z4⟩ := five_cells r1
    obtain ⟨f0, f1, f2, f3, f4⟩ := five_free r1
    have H1 := Lib.hid (into5_range r1 rfl (.slice aS D.S.length cS) (.slice aC D.C.length cC) (.slice (some ⟨gk, 0, none⟩) D.K.length cK) D.n (.slice aF D.F.length cF))
    have H2 := Lib.hid (into5_other hO1 r1 (by decide) (by decide) (by decide) (by decide) (.slice aS D.S.length cS) (.slice aC D.C.length cC) (.slice (some ⟨gk, 0, none⟩) D.K.length cK) D.n (.slice aF D.F.length cF))
    have H3 := Lib.hid (into5_below hb1 (show b ≤ b + 1 + 1 by omega) (.slice aS D.S.length cS) (.slice aC D.C.length cC) (.slice (some ⟨gk, 0, none⟩) D.K.length cK) D.n (.slice aF D.F.length cF))
    clear hO1 p1 m1 r1 hb1
    go_wp2_with fail
    refine bodyPost_ret (results_c3 (cs := [.slice aS D.S.length cS, .slice aC D.C.length cC, .slice (some ⟨gk, 0, none⟩) D.K.length cK, .int .i64 D.n, .slice aF D.F.length cF]) Try.results14 (by rfl) (by rfl) (by rfl) H1.out Try.underlying29 rfl (by kernel_rfl)) rfl ?_
    rw [HX.out.1, HX.out.2.1, HX.out.2.2]
    exact rAct_of H2.out (by rw [hbe]; exact H3.out) rfl
  · have h5 : decide ((512 : Int) < (t.size : Int)) = false := decide_eq_false (by omega)
    have hkc : w1.cell? ⟨gk, i, none⟩ = some (.int .i64 (D.K[i]'hi)) := by
      rw [hO1.k.cellAt i (by omega), List.getElem?_map, List.getElem?_eq_getElem hi]
      rfl
    obtain ⟨F, hF⟩ : ∃ F, fencedK D (D.K[i]'hi) = F := ⟨_, rfl⟩
    have HFE : Hid (fencedAny D.F [D.K[i]'hi] = F) := (fencedAny_one D _).trans hF
    have HKE : Hid (fencedK D (keyOf D i) = F) := by show _ = _; unfold keyOf; rw [List.getD, List.getElem?_eq_getElem hi]; exact hF
    clear hF
    obtain ⟨WA, hWA⟩ : ∃ WA, WA = (w1.alloc (.cells #[.int .i64 (D.K[i]'hi)] 3)).drew := ⟨_, rfl⟩
    have hbA : Below w1.heap.size w1 WA := by rw [hWA]; exact (below_alloc w1 _).drew
    have hgl : gk < w1.heap.size := by omega
    have hkeep : ∀ wx : World, Below w1.heap.size w1 wx → (wx.cell? ⟨b, 0, none⟩ = some (.slice aS D.S.length cS) ∧ wx.cell? ⟨b, 1, none⟩ = some (.slice aC D.C.length cC) ∧ wx.cell? ⟨b, 2, none⟩ = some (.slice (some ⟨gk, 0, none⟩) D.K.length cK) ∧ wx.cell? ⟨b, 3, none⟩ = some (.int .i64 D.n) ∧ wx.cell? ⟨b, 4, none⟩ = some (.slice aF D.F.length cF) ∧ wx.cell? ⟨gk, i, none⟩ = some (.int .i64 (D.K[i]'hi)) ∧ wx.cell? ⟨b + 1, 0, none⟩ = some (.int .i8 2)) := fun wx hx => by
      obtain ⟨n0, n1, n2, n3, n4⟩ := five_cells (p1.below hx p1.lt)
      exact ⟨n0, n1, n2, n3, n4, (hx.cell (p := ⟨gk, i, none⟩) hgl).trans hkc, (m1.below hx m1.lt).cell 0 _ rfl⟩
    have HWA0 : Hid (((w1.alloc (.cells #[.int .i64 (D.K[i]'hi)] 3)).drew).cell? ⟨b, 0, none⟩ = some (.slice aS D.S.length cS) ∧ ((w1.alloc (.cells #[.int .i64 (D.K[i]'hi)] 3)).drew).cell? ⟨b, 1, none⟩ = some (.slice aC D.C.length cC) ∧ ((w1.alloc (.cells #[.int .i64 (D.K[i]'hi)] 3)).drew).cell? ⟨b, 2, none⟩ = some (.slice (some ⟨gk, 0, none⟩) D.K.length cK) ∧ ((w1.alloc (.cells #[.int .i64 (D.K[i]'hi)] 3)).drew).cell? ⟨b, 3, none⟩ = some (.int .i64 D.n) ∧ ((w1.alloc (.cells #[.int .i64 (D.K[i]'hi)] 3)).drew).cell? ⟨b, 4, none⟩ = some (.slice aF D.F.length cF) ∧ ((w1.alloc (.cells #[.int .i64 (D.K[i]'hi)] 3)).drew).cell? ⟨gk, i, none⟩ = some (.int .i64 (D.K[i]'hi)) ∧ ((w1.alloc (.cells #[.int .i64 (D.K[i]'hi)] 3)).drew).cell? ⟨b + 1, 0, none⟩ = some (.int .i8 2)) := hkeep _ ((below_alloc w1 _).drew)
    have hlA : Lies WA WA.heap.size (some ⟨w1.heap.size, 0, none⟩) 1 ([D.K[i]'hi].map (Value.int .i64)) := by
      have h : WA.ownsRow w1.heap.size 3 1 (.slice (some ⟨w1.heap.size, 0, none⟩) 1 1) 1 [.int .i64 (D.K[i]'hi)] := by rw [hWA]; exact own_up (World.ownsRow_lit w1 #[.int .i64 (D.K[i]'hi)] 1 (Nat.le_refl _) (by decide) rfl) ((Below.refl _ _).drew)
      exact Lies.of_own h
    have hcall := refFenced_any _ D (some ⟨w1.heap.size, 0, none⟩) 1 1 [D.K[i]'hi] WA (hO1.up hbA).dev hlA rfl (by decide)
    rw [HFE.out] at hcall
    have i0 : (0 : Int) ≤ (i : Int) := by omega
    have i2 : (i : Int) < (D.K.length : Int) := by omega
    clear hlA
    go_wp2_with fail
    refine wp_region_held_drew (S := (fun w' => w'.cell? ⟨b, 0, none⟩ = some (.slice aS D.S.length cS) ∧ w'.cell? ⟨b, 1, none⟩ = some (.slice aC D.C.length cC) ∧ w'.cell? ⟨b, 2, none⟩ = some (.slice (some ⟨gk, 0, none⟩) D.K.length cK) ∧ w'.cell? ⟨b, 3, none⟩ = some (.int .i64 D.n) ∧ w'.cell? ⟨b, 4, none⟩ = some (.slice aF D.F.length cF) ∧ w'.cell? ⟨gk, i, none⟩ = some (.int .i64 (D.K[i]'hi)) ∧ w'.cell? ⟨b + 1, 0, none⟩ = some (.int .i8 2))) (by kernel_rfl) ?_ (fun hHeld => ?_)
    focus (exact ⟨q0, q1, q2, q3, q4, hkc, y0⟩)
    refine wpAnyH_take (i := 0) (oi := ⟨some 78, _, _, _, _, _⟩) (v := ?_) rfl (by kernel_rfl) (by kernel_rfl) (by kernel_rfl) (fun _ _ _ h => h) (Or.inl ⟨by rfl, ?_⟩) (by assumption) ?_
    rotate_left
    focus (intro wq hSq; (try dsimp only at hSq); go_simp; try with_reducible rfl)
    try simp only [Act.put, List.setIfInBounds_toArray, List.set_cons_zero, List.set_cons_succ]
    refine wpAnyH_take (i := 1) (oi := ⟨some 79, _, _, _, _, _⟩) (v := ?_) rfl (by kernel_rfl) (by kernel_rfl) (by kernel_rfl) (fun _ _ _ h => h) (Or.inl ⟨by rfl, ?_⟩) (by assumption) ?_
    rotate_left
    focus (intro wq hSq; (try dsimp only at hSq); go_simp; try with_reducible rfl)
    try simp only [Act.put, List.setIfInBounds_toArray, List.set_cons_zero, List.set_cons_succ]
    refine wpAnyH_take (i := 2) (oi := ⟨some 80, _, _, _, _, _⟩) (v := ?_) rfl (by kernel_rfl) (by kernel_rfl) (by kernel_rfl) (fun _ _ _ h => h) (Or.inl ⟨by rfl, ?_⟩) (by assumption) ?_
    rotate_left
    focus (intro wq hSq; (try dsimp only at hSq); go_simp; try with_reducible rfl)
    try simp only [Act.put, List.setIfInBounds_toArray, List.set_cons_zero, List.set_cons_succ]
    refine wpAnyH_take (i := 3) (oi := ⟨some 81, _, _, _, _, _⟩) (v := ?_) rfl (by kernel_rfl) (by kernel_rfl) (by kernel_rfl) (fun _ _ _ h => h) (Or.inl ⟨by rfl, ?_⟩) (by assumption) ?_
    rotate_left
    focus (intro wq hSq; (try dsimp only at hSq); go_simp; try with_reducible rfl)
    try simp only [Act.put, List.setIfInBounds_toArray, List.set_cons_zero, List.set_cons_succ]
    refine wpAnyH_take (i := 4) (oi := ⟨some 82, _, _, _, _, _⟩) (v := ?_) rfl (by kernel_rfl) (by kernel_rfl) (by kernel_rfl) (fun _ _ _ h => h) (Or.inl ⟨by rfl, ?_⟩) (by assumption) ?_
    rotate_left
    focus (intro wq hSq; (try dsimp only at hSq); go_simp; try with_reducible rfl)
    try simp only [Act.put, List.setIfInBounds_toArray, List.set_cons_zero, List.set_cons_succ]
    refine wpAnyH_take (i := 5) (oi := ⟨some 83, _, _, _, _, _⟩) (v := ?_) rfl (by kernel_rfl) (by kernel_rfl) (by kernel_rfl) (fun _ _ _ h => h) (Or.inl ⟨by rfl, ?_⟩) (by assumption) ?_
    rotate_left
    focus (intro wq hSq; (try dsimp only at hSq); go_simp; try with_reducible rfl)
    try simp only [Act.put, List.setIfInBounds_toArray, List.set_cons_zero, List.set_cons_succ]
    refine wpAnyH_take (i := 6) (oi := ⟨some 84, _, _, _, _, _⟩) (v := ?_) rfl (by kernel_rfl) (by kernel_rfl) (by kernel_rfl) (fun _ _ _ h => h) (Or.inl ⟨by rfl, ?_⟩) (by assumption) ?_
    rotate_left
    focus (intro wq hSq; (try dsimp only at hSq); go_simp; try with_reducible rfl)
    try simp only [Act.put, List.setIfInBounds_toArray, List.set_cons_zero, List.set_cons_succ]
    refine wpAnyH_take (i := 7) (oi := ⟨some 85, _, _, _, _, _⟩) (v := ?_) rfl (by kernel_rfl) (by kernel_rfl) (by kernel_rfl) (fun _ _ _ h => h) (Or.inl ⟨by rfl, ?_⟩) (by assumption) ?_
    rotate_left
    focus (intro wq hSq; (try dsimp only at hSq); go_simp; try with_reducible rfl)
    try simp only [Act.put, List.setIfInBounds_toArray, List.set_cons_zero, List.set_cons_succ]
    refine wpAnyH_take (i := 8) (oi := ⟨some 86, _, _, _, _, _⟩) (v := ?_) rfl (by kernel_rfl) (by kernel_rfl) (by kernel_rfl) (fun _ _ _ h => h) (Or.inl ⟨by rfl, ?_⟩) (by assumption) ?_
    rotate_left
    focus (intro wq hSq; (try dsimp only at hSq); go_simp; try with_reducible rfl)
    try simp only [Act.put, List.setIfInBounds_toArray, List.set_cons_zero, List.set_cons_succ]
    refine wpAnyH_take (i := 9) (oi := ⟨some 87, _, _, _, _, _⟩) (v := ?_) rfl (by kernel_rfl) (by kernel_rfl) (by kernel_rfl) (fun _ _ _ h => h) (Or.inl ⟨by rfl, ?_⟩) (by assumption) ?_
    rotate_left
    focus (intro wq hSq; (try dsimp only at hSq); go_simp; try with_reducible rfl)
    try simp only [Act.put, List.setIfInBounds_toArray, List.set_cons_zero, List.set_cons_succ]
    refine wpAnyH_ready (rs := [10]) (by kernel_rfl) (by simp) ?_
    refine AllReadyH.cons (o := ⟨some 88, _, _, _, _, _⟩) rfl (fun K hK => ?_) AllReadyH.nil
    go_simp
    refine hK.out _ _ ?_ (fun hHeld => ?_)
    focus (exact HWA0.out)
    clear hK K
    try simp only [Act.put, List.setIfInBounds_toArray, List.set_cons_zero, List.set_cons_succ]
    rw [← hWA]
    clear hWA HWA0
    refine wpAnyH_ready (rs := [11]) (by kernel_rfl) (by simp) ?_
    refine AllReadyH.cons (o := ⟨some 89, _, _, _, _, _⟩) rfl (fun K hK => ?_) AllReadyH.nil
    go_simp
    refine hcall.mono ?_
    rintro e w4 ⟨rfl, hb4⟩
    have hc4 := hbA.trans (hb4.mono hbA.size)
    have HS4 := Lib.hid (hkeep w4 hc4)
    clear hcall hb4 hbA hkeep
    go_wp2_with fail
    refine hK.out _ _ ?_ (fun hHeld => ?_)
    focus (exact HS4.out)
    clear hK K
    try simp only [Act.put, List.setIfInBounds_toArray, List.set_cons_zero, List.set_cons_succ]
    refine wpAnyH_take (i := 12) (oi := ⟨some 90, _, _, _, _, _⟩) (v := ?_) rfl (by kernel_rfl) (by kernel_rfl) (by kernel_rfl) (fun _ _ _ h => h) (Or.inl ⟨by rfl, ?_⟩) (by assumption) ?_
    rotate_left
    focus (intro wq hSq; (try dsimp only at hSq); go_simp; try with_reducible rfl)
    try simp only [Act.put, List.setIfInBounds_toArray, List.set_cons_zero, List.set_cons_succ]
    refine wpAnyH_done (by kernel_rfl) ?_ _
    clear HS4 hkc
    have p4 := p1.below hc4 p1.lt
    have m4 := m1.below hc4 m1.lt
    have r4 := r1.below hc4 r1.lt
    have hO4 := hO1.up hc4
    have hs4 := hc4.size
    have hb4 := hb1.trans (hc4.mono (by omega))
    clear q0 q1 q2 q3 q4 y0 y1 y2 y3 p1 m1 r1 hb1 hO1 hc4
    obtain ⟨q0, q1, q2, q3, q4⟩ := five_cells p4
    obtain ⟨y0, y1, y2, y3⟩ := act_cells m4
    cases F with
    | true =>
      have HX : Hid (doD D (i : Int) ⟨2, s, t, key⟩ = D ∧ doS D (i : Int) ⟨2, s, t, key⟩ = ⟨#[]⟩ ∧ refE D (i : Int) ⟨2, s, t, key⟩ = 61) := do_is HHI.out (by simp [actE, HKE.out, h512]) (by decide)
      obtain ⟨z0, z1, z2, z3, z4⟩ := five_cells r4
      obtain ⟨f0, f1, f2, f3, f4⟩ := five_free r4
      have H1 := Lib.hid (into5_range r4 rfl (.slice aS D.S.length cS) (.slice aC D.C.length cC) (.slice (some ⟨gk, 0, none⟩) D.K.length cK) D.n (.slice aF D.F.length cF))
      have H2 := Lib.hid (into5_other hO4 r4 (by decide) (by decide) (by decide) (by decide) (.slice aS D.S.length cS) (.slice aC D.C.length cC) (.slice (some ⟨gk, 0, none⟩) D.K.length cK) D.n (.slice aF D.F.length cF))
      have H3 := Lib.hid (into5_below hb4 (show b ≤ b + 1 + 1 by omega) (.slice aS D.S.length cS) (.slice aC D.C.length cC) (.slice (some ⟨gk, 0, none⟩) D.K.length cK) D.n (.slice aF D.F.length cF))
      clear hO4 p4 m4 r4 hb4
      go_wp2_with fail
      refine bodyPost_ret (results_c3 (cs := [.slice aS D.S.length cS, .slice aC D.C.length cC, .slice (some ⟨gk, 0, none⟩) D.K.length cK, .int .i64 D.n, .slice aF D.F.length cF]) Try.results14 (by rfl) (by rfl) (by rfl) H1.out Try.underlying29 rfl (by kernel_rfl)) rfl ?_
      rw [HX.out.1, HX.out.2.1, HX.out.2.2]
      exact rAct_of H2.out (by rw [hbe]; exact H3.out) rfl
    | false =>
      by_cases hs0 : 0 ≤ s ∧ s < (D.S.length : Int)
      · have HOK : Hid (doD D (i : Int) ⟨2, s, t, key⟩ = forceD D i s t ∧ doS D (i : Int) ⟨2, s, t, key⟩ = ⟨#[]⟩ ∧ refE D (i : Int) ⟨2, s, t, key⟩ = 0) := by
          have h0 : actE D i ⟨2, s, t, key⟩ = 0 := by simp [actE, HKE.out, hs0, h512]
          obtain ⟨h1, h2, h3⟩ := do_ok HHI.out h0
          refine ⟨?_, ?_, h3⟩
          · rw [h1]; simp [actD, h0]
          · rw [h2]; simp [actS, h0]
        obtain ⟨s', rfl⟩ := Int.eq_ofNat_of_zero_le hs0.1
        have hsl : s' < D.S.length := by have := hs0.2; omega
        have s0 : decide ((s' : Int) < 0) = false := decide_eq_false (by omega)
        have s1 : decide ((D.S.length : Int) ≤ (s' : Int)) = false := decide_eq_false (by omega)
        have s2 : (0 : Int) ≤ (s' : Int) := by omega
        have s3 : (s' : Int) < (D.S.length : Int) := by omega
        clear hs0
        have hcp := refCopied_any _ D w4 hO4.dev HSS.out
        have HOUTN : Hid (B ≤ w4.heap.size ∧ b + 3 ≤ w4.heap.size) := by have := HBB.out; show _ ∧ _; omega
        go_wp2_with fail
        refine hcp.mono ?_
        rintro e w5 ⟨uS, uC, uK, uF, g, rfl, hN5, hc5⟩
        clear hcp
        obtain ⟨xS, yS, xC, yC, xK, yK, xF, yF, rfl, rfl, rfl, rfl⟩ := own_shapes hN5
        have hic : i < D.C.length := by have := HCK.out; omega
        obtain ⟨gc, capc, a, c, hgc, hgi, hgcB, hgcl, hcc, hcf, hlc, hcm⟩ := own_cache hN5 hic
        obtain ⟨rfl, rfl⟩ : xC = some ⟨gc, 0, none⟩ ∧ yC = capc := by injection hgc with e1 _ e2; exact ⟨e1, e2⟩
        obtain ⟨hk, caph, hhk, hhkB, hhkl, _, _⟩ := own_key hN5 hi
        obtain ⟨rfl, rfl⟩ : xK = some ⟨hk, 0, none⟩ ∧ yK = caph := by injection hhk with e1 _ e2; exact ⟨e1, e2⟩
        clear hgc hhk
        have p5 := p4.below hc5 p4.lt
        have m5 := m4.below hc5 m4.lt
        have r5 := r4.below hc5 r4.lt
        have hO5 := hO4.up hc5
        have hs5 := hc5.size
        have hb5 := hb4.trans (hc5.mono (by omega))
        clear q0 q1 q2 q3 q4 y0 y1 y2 y3 p4 m4 r4 hb4 hO4 hc5
        obtain ⟨q0, q1, q2, q3, q4⟩ := five_cells p5
        obtain ⟨y0, y1, y2, y3⟩ := act_cells m5
        obtain ⟨w6, hw6⟩ : ∃ W, W = w5.alloc (.cells #[.slice xS D.S.length yS, .slice (some ⟨gc, 0, none⟩) D.C.length yC, .slice (some ⟨hk, 0, none⟩) D.K.length yK, .int .i64 D.n, .slice xF D.F.length yF] 29) := ⟨_, rfl⟩
        have hc6 : Below w5.heap.size w5 w6 := hw6 ▸ below_alloc w5 _
        have R6 : Blk w6 w5.heap.size #[.slice xS D.S.length yS, .slice (some ⟨gc, 0, none⟩) D.C.length yC, .slice (some ⟨hk, 0, none⟩) D.K.length yK, .int .i64 D.n, .slice xF D.F.length yF] 29 := hw6 ▸ Blk.new w5 _ _
        have hN6 := hN5.up hc6
        have hcc6 : w6.cell? ⟨gc, i, none⟩ = some (.slice a (cacheOf D i).length c) := (hc6.cell (p := ⟨gc, i, none⟩) hgcl).trans hcc
        have hcf6 : w6.frozen? ⟨gc, i, none⟩ = false := hN6.c.frozenAt i
        have HR6 : Hid (w5.heap.size < w6.heap.size) := by show _ < _; rw [hw6]; simp
        have HGI := Lib.hid hgi
        have HGC : Hid (w4.heap.size ≤ gc ∧ gc < w5.heap.size) := ⟨hgcB, hgcl⟩
        have HHK : Hid (w4.heap.size ≤ hk ∧ hk < w5.heap.size) := ⟨hhkB, hhkl⟩
        have HMC := Lib.hid hcm
        have HLC0 := hlc
        obtain ⟨l, hl⟩ : ∃ l, cacheOf D i = l := ⟨_, rfl⟩
        have HL := Lib.hid hl
        have HCO : Hid (CacheOk l D.S.length) := by show CacheOk l _; rw [← hl]; exact cache_ok HMM.out i
        rw [hl] at hcc hcc6 hlc HGI
        obtain ⟨nl, hnl⟩ : ∃ n, l.length = n := ⟨_, rfl⟩
        have HN := Lib.hid hnl
        rw [hnl] at hcc hcc6 hlc HGI
        have hA6 : Lies w6 w6.heap.size a (nl * 2) (celV l) := by
          have h := hN6.cs i hic
          rw [HGI.out, show D.C.getD i [] = l from HL.out, HN.out] at h
          exact lies_own2 h
        have hpl := refPlace_any a nl c l (s' : Int) w6.heap.size w6 hA6 HN.out (by have := HMC.out; omega)
        have HS2 : Hid (nl ≤ 1099511627776) := by
          show nl ≤ _
          rw [← HN.out, ← HL.out]
          exact HSS.out.cs _ (by unfold cacheOf; rw [List.getD, List.getElem?_eq_getElem hic]; exact List.getElem_mem hic)
        have i0 : (0 : Int) ≤ (i : Int) := by omega
        have i1 : (i : Int) < (D.C.length : Int) := by omega
        have hcl := hgcl
        have hbl1 : b + 1 < w5.heap.size := by have := HOUTN.out; omega
        have hbl2 : b + 1 + 1 < w5.heap.size := by have := HOUTN.out; omega
        have HLC := Lib.hid hlc
        clear hl hnl hgi hcf hN5 hcm hlc HLC0
        go_wp2_with fail
        rw [← hw6]
        refine hpl.mono ?_
        rintro e w7 ⟨rfl, rfl⟩
        clear hpl hcc hw6 hcl hgcB hgcl hhkB hhkl
        have p6 := p5.below hc6 p5.lt
        have m6 := m5.below hc6 m5.lt
        have r6 := r5.below hc6 r5.lt
        have hO6 := hO5.up hc6
        have hs6 := hc6.size
        have hb6 := hb5.trans (hc6.mono (by omega))
        clear q0 q1 q2 q3 q4 y0 y1 y2 y3 p5 m5 r5 hb5 hO5 hc6
        obtain ⟨q0, q1, q2, q3, q4⟩ := five_cells p6
        obtain ⟨y0, y1, y2, y3⟩ := act_cells m6
        obtain ⟨gs, caps, es, hgsB, hgsl, hds, hfs⟩ := own_sector hN6 hsl
        obtain ⟨rfl, rfl⟩ : xS = some ⟨gs, 0, none⟩ ∧ yS = caps := by injection es with e1 _ e2; exact ⟨e1, e2⟩
        have hg3 : w5.heap.size ≠ gs := own_blk hN6.s R6 (by decide) rfl
        have hg4 : gs ≠ w5.heap.size := fun e => hg3 e.symm
        have hg5 : b + 1 + 1 ≠ gs := by have := HOUTN.out; omega
        have hg5' : gs ≠ b + 1 + 1 := fun e => hg5 e.symm
        have hg6 : w5.heap.size ≠ gc := own_blk hN6.c R6 (by decide) rfl
        have hg7 : gc ≠ w5.heap.size := fun e => hg6 e.symm
        have hg8 : b + 1 + 1 ≠ gc := by have := HOUTN.out; have := HGC.out; omega
        have x0 : w6.cell? ⟨w5.heap.size, 0, none⟩ = some (.slice (some ⟨gs, 0, none⟩) D.S.length yS) := R6.cell 0 _ rfl
        have hN7 := hN6.setS rfl s' t
        have R7 := R6.other hg3 s' (.string t)
        have r7 := r6.other hg5 s' (.string t)
        have hb7 := hb6.setCell (p := ⟨gs, s', none⟩) (show b ≤ gs by have := HOUTN.out; omega) (.string t)
        clear es q0 q1 q2 q3 q4 y3 p6 m6 hO6
        generalize D.S[s']'hsl = tOld at *
        cases hp : placeO l (s' : Int) with
        | some k =>
          obtain ⟨hkl, hks⟩ := place_some hp
          rw [placeI_some hp]
          have HFL : Hid (forceD D i (s' : Int) t = { D with S := D.S.set s' t, C := D.C.set i (l.eraseIdx k) }) := by
            show _ = _
            unfold forceD forceC
            rw [HL.out, hp]
            rfl
          rw [HFL.out] at HOK
          have hkn : k < nl := by have := HN.out; omega
          have k0 : (0 : Int) ≤ (k : Int) := by omega
          obtain ⟨ga, c', e2, hgaB, hgal, _, _, _⟩ := own_cell hN6 hic (k := k) (by rw [show cacheOf D i = l from HL.out]; exact hkl)
          rw [HGI.out] at e2
          obtain ⟨rfl, rfl⟩ : a = some ⟨ga, 0, none⟩ ∧ c = c' := by injection e2 with e1 _ e2; exact ⟨e1, e2⟩
          obtain ⟨w8, hw8⟩ : ∃ W, W = (w6.setCell ⟨gs, s', none⟩ (.string t)).drew := ⟨_, rfl⟩
          have hdr : Below (w6.setCell ⟨gs, s', none⟩ (.string t)).heap.size (w6.setCell ⟨gs, s', none⟩ (.string t)) w8 := by rw [hw8]; exact (Below.refl _ _).drew
          have hN8 := hN7.up hdr
          have R8 := R7.below hdr R7.lt
          have r8 := r7.below hdr r7.lt
          have hb8 : Below b w w8 := by rw [hw8]; exact hb7.drew
          have hs8 : w6.heap.size = w8.heap.size := by rw [hw8]; simp
          have x8' : ((w6.setCell ⟨gs, s', none⟩ (.string t)).drew).cell? ⟨w5.heap.size, 1, none⟩ = some (.slice (some ⟨gc, 0, none⟩) D.C.length yC) := by rw [← hw8]; exact R8.cell 1 _ rfl
          have x8 : w8.cell? ⟨w5.heap.size, 1, none⟩ = some (.slice (some ⟨gc, 0, none⟩) D.C.length yC) := R8.cell 1 _ rfl
          have hA8 : Lies w8 w8.heap.size (some ⟨ga, 0, none⟩) (nl * 2) (celV l) := by
            have h := hN8.cs i hic
            rw [HGI.out, show D.C.getD i [] = l from HL.out, HN.out] at h
            exact lies_own2 h
          have hcw := refWithout_any ⟨ga, 0, none⟩ nl c w8.heap.size l k (k + 1) (nl - (k + 1)) (c - (k + 1)) w8 hA8 HN.out HS2.out HLC.out HMC.out (Nat.le_refl _) hkn rfl rfl rfl
          have HS8 := Lib.hid hs8
          have HKN := Lib.hid hkn
          have HER : Hid ((l.eraseIdx k).length = nl - 1) := by show _ = _; rw [List.length_eraseIdx_of_lt hkl, HN.out]
          clear e2 hN6 R6 r6 hb6 hN7 R7 r7 hb7 hdr hs8 hA6
          go_wp2_with fail
          refine wp_region_held_drew (S := (fun w' => w'.cell? ⟨w5.heap.size, 1, none⟩ = some (.slice (some ⟨gc, 0, none⟩) D.C.length yC))) (by kernel_rfl) ?_ (fun hHeld => ?_)
          focus (exact x8')
          rw [← hw8]
          clear hw8 x8' y0 y1 y2
          refine wpAnyH_take (i := 0) (oi := ⟨some 153, _, _, _, _, _⟩) (v := ?_) rfl (by kernel_rfl) (by kernel_rfl) (by kernel_rfl) (fun _ _ _ h => h) (Or.inl ⟨by rfl, ?_⟩) (by assumption) ?_
          rotate_left
          focus (intro wq hSq; (try dsimp only at hSq); go_simp; try with_reducible rfl)
          try simp only [Act.put, List.setIfInBounds_toArray, List.set_cons_zero, List.set_cons_succ]
          refine wpAnyH_take (i := 1) (oi := ⟨some 154, _, _, _, _, _⟩) (v := ?_) rfl (by kernel_rfl) (by kernel_rfl) (by kernel_rfl) (fun _ _ _ h => h) (Or.inl ⟨by rfl, ?_⟩) (by assumption) ?_
          rotate_left
          focus (intro wq hSq; (try dsimp only at hSq); go_simp; try with_reducible rfl)
          try simp only [Act.put, List.setIfInBounds_toArray, List.set_cons_zero, List.set_cons_succ]
          refine wpAnyH_take (i := 2) (oi := ⟨some 155, _, _, _, _, _⟩) (v := ?_) rfl (by kernel_rfl) (by kernel_rfl) (by kernel_rfl) (fun _ _ _ h => h) (Or.inl ⟨by rfl, ?_⟩) (by assumption) ?_
          rotate_left
          focus (intro wq hSq; (try dsimp only at hSq); go_simp; try with_reducible rfl)
          try simp only [Act.put, List.setIfInBounds_toArray, List.set_cons_zero, List.set_cons_succ]
          refine wpAnyH_take (i := 3) (oi := ⟨some 156, _, _, _, _, _⟩) (v := ?_) rfl (by kernel_rfl) (by kernel_rfl) (by kernel_rfl) (fun _ _ _ h => h) (Or.inl ⟨by rfl, ?_⟩) (by assumption) ?_
          rotate_left
          focus (intro wq hSq; (try dsimp only at hSq); go_simp; try with_reducible rfl)
          try simp only [Act.put, List.setIfInBounds_toArray, List.set_cons_zero, List.set_cons_succ]
          refine wpAnyH_take (i := 4) (oi := ⟨some 157, _, _, _, _, _⟩) (v := ?_) rfl (by kernel_rfl) (by kernel_rfl) (by kernel_rfl) (fun _ _ _ h => h) (Or.inl ⟨by rfl, ?_⟩) (by assumption) ?_
          rotate_left
          focus (intro wq hSq; (try dsimp only at hSq); go_simp; try with_reducible rfl)
          try simp only [Act.put, List.setIfInBounds_toArray, List.set_cons_zero, List.set_cons_succ]
          refine wpAnyH_ready (rs := [5]) (by kernel_rfl) (by simp) ?_
          refine AllReadyH.cons (o := ⟨some 158, _, _, _, _, _⟩) rfl (fun K hK => ?_) AllReadyH.nil
          go_simp
          refine hcw.mono ?_
          rintro e w9 ⟨v', rfl, hu, hc9⟩
          clear hcw
          obtain ⟨A', c2, rfl, _, _⟩ := own_shape2 hu
          have hN9 := hN8.up hc9
          have R9 := R8.below hc9 R8.lt
          have r9 := r8.below hc9 r8.lt
          have hs9 := hc9.size
          have hb9 := hb8.trans (hc9.mono (by have := HS8.out; have := HR6.out; omega))
          have x9 : w9.cell? ⟨w5.heap.size, 1, none⟩ = some (.slice (some ⟨gc, 0, none⟩) D.C.length yC) := R9.cell 1 _ rfl
          obtain ⟨gc', capc', a', c'', hgc', _, _, hgcl', hcc9, hcf9, _, _⟩ := own_cache hN9 hic
          obtain ⟨rfl, rfl⟩ : gc = gc' ∧ yC = capc' := by injection hgc' with e1 _ e2; injection e1 with e1; injection e1 with e1; exact ⟨e1, e2⟩
          have hN10 := hN9.setC (l := l.eraseIdx k) rfl hic (u := .slice A' (nl - 1) c2) (by rw [HER.out]; exact own_less hu (by have := HS8.out; have := HR6.out; have := HOUTN.out; omega)) (by
            intro j x hj hjn h1 h2
            have z1 := (hu.lt x h1).1
            have z2 := ((hN8.cs j hj).lt x h2).2
            omega)
          have R10 := R9.other hg6 i (.slice A' (nl - 1) c2)
          have r10 := r9.other hg8 i (.slice A' (nl - 1) c2)
          have hb10 := hb9.setCell (p := ⟨gc, i, none⟩) (show b ≤ gc by have := HGC.out; have := HOUTN.out; omega) (.slice A' (nl - 1) c2)
          have x10 := R10.cell 1 _ rfl
          clear hgc' hN8 R8 r8 hb8 hN9 R9 r9 hb9 hc9 hu hA8
          go_wp2_with fail
          refine hK.out _ _ ?_ (fun hHeld => ?_)
          focus (exact x9)
          clear hK K
          try simp only [Act.put, List.setIfInBounds_toArray, List.set_cons_zero, List.set_cons_succ]
          refine wpAnyH_take (i := 6) (oi := ⟨some 159, _, _, _, _, _⟩) (v := ?_) rfl (by kernel_rfl) (by kernel_rfl) (by kernel_rfl) (fun _ _ _ h => h) (Or.inl ⟨by rfl, ?_⟩) (by assumption) ?_
          rotate_left
          focus (intro wq hSq; (try dsimp only at hSq); go_simp; try with_reducible rfl)
          try simp only [Act.put, List.setIfInBounds_toArray, List.set_cons_zero, List.set_cons_succ]
          refine wpAnyH_ready (rs := [7]) (by kernel_rfl) (by simp) ?_
          refine AllReadyH.cons (o := ⟨none, _, _, _, _, _⟩) rfl (fun K hK => ?_) AllReadyH.nil
          go_simp
          refine hK.out _ _ ?_ (fun hHeld => ?_)
          focus (exact x10)
          clear hK K
          try simp only [Act.put, List.setIfInBounds_toArray, List.set_cons_zero, List.set_cons_succ]
          refine wpAnyH_done (by kernel_rfl) ?_ _
          obtain ⟨x0, x1, x2, x3, x4⟩ := five_cells R10
          obtain ⟨z0, z1, z2, z3, z4⟩ := five_cells r10
          obtain ⟨f0, f1, f2, f3, f4⟩ := five_free r10
          have H1 := Lib.hid (into5_range r10 rfl (.slice (some ⟨gs, 0, none⟩) D.S.length yS) (.slice (some ⟨gc, 0, none⟩) D.C.length yC) (.slice (some ⟨hk, 0, none⟩) D.K.length yK) (D.n) (.slice xF D.F.length yF))
          have H2 := Lib.hid (OwnD.less (B' := B) (into5_other hN10 r10 (by decide) (by decide) (by decide) (by decide) (.slice (some ⟨gs, 0, none⟩) D.S.length yS) (.slice (some ⟨gc, 0, none⟩) D.C.length yC) (.slice (some ⟨hk, 0, none⟩) D.K.length yK) (D.n) (.slice xF D.F.length yF)) (by have := HOUTN.out; omega))
          have H3 := Lib.hid (into5_below hb10 (show b ≤ b + 1 + 1 by omega) (.slice (some ⟨gs, 0, none⟩) D.S.length yS) (.slice (some ⟨gc, 0, none⟩) D.C.length yC) (.slice (some ⟨hk, 0, none⟩) D.K.length yK) (D.n) (.slice xF D.F.length yF))
          clear R10 r10 hb10 hN10 
          go_wp2_with fail
          refine bodyPost_ret (results_c3 (cs := [.slice (some ⟨gs, 0, none⟩) D.S.length yS, .slice (some ⟨gc, 0, none⟩) D.C.length yC, .slice (some ⟨hk, 0, none⟩) D.K.length yK, .int .i64 (D.n), .slice xF D.F.length yF]) Try.results14 (by rfl) (by rfl) (by rfl) H1.out Try.underlying29 rfl (by kernel_rfl)) rfl ?_
          rw [HOK.out.1, HOK.out.2.1, HOK.out.2.2]
          exact rAct_of H2.out (by rw [hbe]; exact H3.out) rfl
        | none =>
          rw [placeI_none hp]
          have HFL : Hid (forceD D i (s' : Int) t = { D with S := D.S.set s' t }) := by
            show _ = _
            unfold forceD forceC
            rw [HL.out, hp]
            simp only [Int.toNat_natCast]
            congr 1
            rw [← HL.out]
            unfold cacheOf
            rw [List.getD, List.getElem?_eq_getElem hic]
            exact List.set_getElem_self hic
          rw [HFL.out] at HOK
          have XC := five_cells R6
          have ZC := five_cells r6
          have FC := five_free r6
          clear R6 r6 hb6 hN6 hA6
          obtain ⟨v0, v1, v2, v3, v4⟩ := XC
          obtain ⟨z0, z1, z2, z3, z4⟩ := ZC
          obtain ⟨f0, f1, f2, f3, f4⟩ := FC
          have H1 := Lib.hid (into5_range r7 rfl (.slice (some ⟨gs, 0, none⟩) D.S.length yS) (.slice (some ⟨gc, 0, none⟩) D.C.length yC) (.slice (some ⟨hk, 0, none⟩) D.K.length yK) D.n (.slice xF D.F.length yF))
          have H2 := Lib.hid (OwnD.less (B' := B) (into5_other hN7 r7 (by decide) (by decide) (by decide) (by decide) (.slice (some ⟨gs, 0, none⟩) D.S.length yS) (.slice (some ⟨gc, 0, none⟩) D.C.length yC) (.slice (some ⟨hk, 0, none⟩) D.K.length yK) D.n (.slice xF D.F.length yF)) (by have := HOUTN.out; omega))
          have H3 := Lib.hid (into5_below hb7 (show b ≤ b + 1 + 1 by omega) (.slice (some ⟨gs, 0, none⟩) D.S.length yS) (.slice (some ⟨gc, 0, none⟩) D.C.length yC) (.slice (some ⟨hk, 0, none⟩) D.K.length yK) D.n (.slice xF D.F.length yF))
          clear R7 r7 hb7 hN7
          go_wp2_with fail
          refine bodyPost_ret (results_c3 (cs := [.slice (some ⟨gs, 0, none⟩) D.S.length yS, .slice (some ⟨gc, 0, none⟩) D.C.length yC, .slice (some ⟨hk, 0, none⟩) D.K.length yK, .int .i64 D.n, .slice xF D.F.length yF]) Try.results14 (by rfl) (by rfl) (by rfl) H1.out Try.underlying29 rfl (by kernel_rfl)) rfl ?_
          rw [HOK.out.1, HOK.out.2.1, HOK.out.2.2]
          exact rAct_of H2.out (by rw [hbe]; exact H3.out) rfl
      · have hcs : decide (s < 0) = true ∨ (decide (s < 0) = false ∧ decide ((D.S.length : Int) ≤ s) = true) := by
          by_cases h : s < 0
          · exact .inl (decide_eq_true h)
          · exact .inr ⟨decide_eq_false h, decide_eq_true (by omega)⟩
        have hn : ¬ (0 ≤ s ∧ s < (D.S.length : Int)) := hs0
        rcases hcs with s1 | ⟨s1, s2⟩
        · have HX : Hid (doD D (i : Int) ⟨2, s, t, key⟩ = D ∧ doS D (i : Int) ⟨2, s, t, key⟩ = ⟨#[]⟩ ∧ refE D (i : Int) ⟨2, s, t, key⟩ = 60) := do_is HHI.out (by simp [actE, HKE.out, h512]; omega) (by decide)
          obtain ⟨z0, z1, z2, z3, z4⟩ := five_cells r4
          obtain ⟨f0, f1, f2, f3, f4⟩ := five_free r4
          have H1 := Lib.hid (into5_range r4 rfl (.slice aS D.S.length cS) (.slice aC D.C.length cC) (.slice (some ⟨gk, 0, none⟩) D.K.length cK) D.n (.slice aF D.F.length cF))
          have H2 := Lib.hid (into5_other hO4 r4 (by decide) (by decide) (by decide) (by decide) (.slice aS D.S.length cS) (.slice aC D.C.length cC) (.slice (some ⟨gk, 0, none⟩) D.K.length cK) D.n (.slice aF D.F.length cF))
          have H3 := Lib.hid (into5_below hb4 (show b ≤ b + 1 + 1 by omega) (.slice aS D.S.length cS) (.slice aC D.C.length cC) (.slice (some ⟨gk, 0, none⟩) D.K.length cK) D.n (.slice aF D.F.length cF))
          clear hO4 p4 m4 r4 hb4
          go_wp2_with fail
          refine bodyPost_ret (results_c3 (cs := [.slice aS D.S.length cS, .slice aC D.C.length cC, .slice (some ⟨gk, 0, none⟩) D.K.length cK, .int .i64 D.n, .slice aF D.F.length cF]) Try.results14 (by rfl) (by rfl) (by rfl) H1.out Try.underlying29 rfl (by kernel_rfl)) rfl ?_
          rw [HX.out.1, HX.out.2.1, HX.out.2.2]
          exact rAct_of H2.out (by rw [hbe]; exact H3.out) rfl
        · have HX : Hid (doD D (i : Int) ⟨2, s, t, key⟩ = D ∧ doS D (i : Int) ⟨2, s, t, key⟩ = ⟨#[]⟩ ∧ refE D (i : Int) ⟨2, s, t, key⟩ = 60) := do_is HHI.out (by simp [actE, HKE.out, h512]; omega) (by decide)
          obtain ⟨z0, z1, z2, z3, z4⟩ := five_cells r4
          obtain ⟨f0, f1, f2, f3, f4⟩ := five_free r4
          have H1 := Lib.hid (into5_range r4 rfl (.slice aS D.S.length cS) (.slice aC D.C.length cC) (.slice (some ⟨gk, 0, none⟩) D.K.length cK) D.n (.slice aF D.F.length cF))
          have H2 := Lib.hid (into5_other hO4 r4 (by decide) (by decide) (by decide) (by decide) (.slice aS D.S.length cS) (.slice aC D.C.length cC) (.slice (some ⟨gk, 0, none⟩) D.K.length cK) D.n (.slice aF D.F.length cF))
          have H3 := Lib.hid (into5_below hb4 (show b ≤ b + 1 + 1 by omega) (.slice aS D.S.length cS) (.slice aC D.C.length cC) (.slice (some ⟨gk, 0, none⟩) D.K.length cK) D.n (.slice aF D.F.length cF))
          clear hO4 p4 m4 r4 hb4
          go_wp2_with fail
          refine bodyPost_ret (results_c3 (cs := [.slice aS D.S.length cS, .slice aC D.C.length cC, .slice (some ⟨gk, 0, none⟩) D.K.length cK, .int .i64 D.n, .slice aF D.F.length cF]) Try.results14 (by rfl) (by rfl) (by rfl) H1.out Try.underlying29 rfl (by kernel_rfl)) rfl ?_
          rw [HX.out.1, HX.out.2.1, HX.out.2.2]
          exact rAct_of H2.out (by rw [hbe]; exact H3.out) rfl

end Go.Proofs.Ytleemgjbihdbgaa

/-
  The document's device: an act, kind by kind: by contract. (putting)
-/
namespace Go.Proofs.Ytleemgjbihdbgaa
open Go.RowKit
set_option linter.unusedVariables false
set_option linter.unusedSimpArgs false

set_option maxRecDepth 100000 in
set_option maxHeartbeats 1000000 in
theorem refDo3 (B : Nat) (vS vC vK vF : Value) (f : Nat → Value) (D : Dev) (i : Nat) (s : Int) (t : ByteArray) (key : Int) (w : World) (hO : OwnD w B vS vC vK vF f D) (hB : B ≤ w.heap.size) (hm : MayD D) (hS : Small D 1099511627776) (hi : i < D.K.length) (ha : ActBd ⟨3, s, t, key⟩) (htm : t.size ≤ maxLen) :
    Calls Try.prog 14 #[.agg #[vS, vC, vK, .int .i64 D.n, vF], .int .i64 (i : Int), .agg #[.int .i8 3, .int .i64 s, .string t, .int .i64 key]] w (RAct B (doD D (i : Int) ⟨3, s, t, key⟩) (doS D (i : Int) ⟨3, s, t, key⟩) (refE D (i : Int) ⟨3, s, t, key⟩) w) := by
  obtain ⟨aS, cS, aC, cC, aK, cK, aF, cF, rfl, rfl, rfl, rfl⟩ := own_shapes hO
  obtain ⟨gk, capk, hgk, hgkB, hgkl, _, _⟩ := own_key hO hi
  obtain ⟨rfl, rfl⟩ : aK = some ⟨gk, 0, none⟩ ∧ cK = capk := by injection hgk with e1 _ e2; exact ⟨e1, e2⟩
  clear hgk
  obtain ⟨W0, hW⟩ : ∃ W0, W0 = ((w.alloc (.cells #[.slice aS D.S.length cS, .slice aC D.C.length cC, .slice (some ⟨gk, 0, none⟩) D.K.length cK, .int .i64 D.n, .slice aF D.F.length cF] 29)).alloc (.cells #[.int .i8 3, .int .i64 s, .string t, .int .i64 key] 38)).alloc (.cells #[.slice none 0 0, .slice none 0 0, .slice none 0 0, .int .i64 0, .slice none 0 0] 29) := ⟨_, rfl⟩
  obtain ⟨b, hbe⟩ : ∃ b, w.heap.size = b := ⟨_, rfl⟩
  have hb0 : Below b w W0 := by rw [hW]; exact (((Below.refl _ _).alloc (by omega) _).alloc (by simp; omega) _).alloc (by simp; omega) _
  have p0 : Blk W0 b #[.slice aS D.S.length cS, .slice aC D.C.length cC, .slice (some ⟨gk, 0, none⟩) D.K.length cK, .int .i64 D.n, .slice aF D.F.length cF] 29 := by rw [hW, ← hbe]; exact ((Blk.new w _ _).alloc _).alloc _
  have m0 : Blk W0 (b + 1) #[.int .i8 3, .int .i64 s, .string t, .int .i64 key] 38 := by
    have h1 := (Blk.new (w.alloc (.cells #[.slice aS D.S.length cS, .slice aC D.C.length cC, .slice (some ⟨gk, 0, none⟩) D.K.length cK, .int .i64 D.n, .slice aF D.F.length cF] 29)) #[.int .i8 3, .int .i64 s, .string t, .int .i64 key] 38).alloc (.cells #[.slice none 0 0, .slice none 0 0, .slice none 0 0, .int .i64 0, .slice none 0 0] 29)
    rw [hW, ← hbe]
    simpa using h1
  have r0 : Blk W0 (b + 1 + 1) #[.slice none 0 0, .slice none 0 0, .slice none 0 0, .int .i64 0, .slice none 0 0] 29 := by
    have h1 := Blk.new ((w.alloc (.cells #[.slice aS D.S.length cS, .slice aC D.C.length cC, .slice (some ⟨gk, 0, none⟩) D.K.length cK, .int .i64 D.n, .slice aF D.F.length cF] 29)).alloc (.cells #[.int .i8 3, .int .i64 s, .string t, .int .i64 key] 38)) #[.slice none 0 0, .slice none 0 0, .slice none 0 0, .int .i64 0, .slice none 0 0] 29
    rw [hW, ← hbe]
    simpa using h1
  have hO0 := hO.up (hbe ▸ hb0)
  have hsz : W0.heap.size = b + 3 := by rw [hW, ← hbe]; simp
  have hc := refCheck_yes _ D W0 hO0.dev hm hS.s
  have HCK := Lib.hid hm.ck
  have HBB : Hid (B ≤ b) := hbe ▸ hB
  have HSS := Lib.hid hS
  have HMM := Lib.hid hm
  have HHI := Lib.hid hi
  have HAB := Lib.hid ha
  unfold maxLen at htm
  clear hO hm hB ha
  obtain ⟨q0, q1, q2, q3, q4⟩ := five_cells p0
  obtain ⟨y0, y1, y2, y3⟩ := act_cells m0
  have t1 : decide ((i : Int) < 0) = false := decide_eq_false (by omega)
  have t2 : decide ((D.K.length : Int) ≤ (i : Int)) = false := decide_eq_false (by omega)
  go_enter Try.func14, Try.ntmps14
  go_wp2_with fail
  rw [← hW]
  clear hW
  refine hc.mono ?_
  rintro e w1 ⟨rfl, hc1⟩
  have p1 := p0.below hc1 p0.lt
  have m1 := m0.below hc1 m0.lt
  have r1 := r0.below hc1 r0.lt
  have hO1 := hO0.up hc1
  have hs1 := hc1.size
  have hb1 := hb0.trans (hc1.mono (by omega))
  clear q0 q1 q2 q3 q4 y0 y1 y2 y3 p0 m0 r0 hb0 hO0 hc1 hc
  obtain ⟨q0, q1, q2, q3, q4⟩ := five_cells p1
  obtain ⟨y0, y1, y2, y3⟩ := act_cells m1
  by_cases h512 : 512 < t.size
  · have h5 : decide ((512 : Int) < (t.size : Int)) = true := decide_eq_true (by omega)
    have HX : Hid (doD D (i : Int) ⟨3, s, t, key⟩ = D ∧ doS D (i : Int) ⟨3, s, t, key⟩ = ⟨#[]⟩ ∧ refE D (i : Int) ⟨3, s, t, key⟩ = 2) := do_is HHI.out (by simp [actE, h512]) (by decide)
    obtain ⟨z0, z1, z2, z3, z4⟩ := five_cells r1
    obtain ⟨f0, f1, f2, f3, f4⟩ := five_free r1
    have H1 := Lib.hid (into5_range r1 rfl (.slice aS D.S.length cS) (.slice aC D.C.length cC) (.slice (some ⟨gk, 0, none⟩) D.K.length cK) D.n (.slice aF D.F.length cF))
    have H2 := Lib.hid (into5_other hO1 r1 (by decide) (by decide) (by decide) (by decide) (.slice aS D.S.length cS) (.slice aC D.C.length cC) (.slice (some ⟨gk, 0, none⟩) D.K.length cK) D.n (.slice aF D.F.length cF))
    have H3 := Lib.hid (into5_below hb1 (show b ≤ b + 1 + 1 by omega) (.slice aS D.S.length cS) (.slice aC D.C.length cC) (.slice (some ⟨gk, 0, none⟩) D.K.length cK) D.n (.slice aF D.F.length cF))
    clear hO1 p1 m1 r1 hb1
    go_wp2_with fail
    refine bodyPost_ret (results_c3 (cs := [.slice aS D.S.length cS, .slice aC D.C.length cC, .slice (some ⟨gk, 0, none⟩) D.K.length cK, .int .i64 D.n, .slice aF D.F.length cF]) Try.results14 (by rfl) (by rfl) (by rfl) H1.out Try.underlying29 rfl (by kernel_rfl)) rfl ?_
    rw [HX.out.1, HX.out.2.1, HX.out.2.2]
    exact rAct_of H2.out (by rw [hbe]; exact H3.out) rfl
  · have h5 : decide ((512 : Int) < (t.size : Int)) = false := decide_eq_false (by omega)
    have hkc : w1.cell? ⟨gk, i, none⟩ = some (.int .i64 (D.K[i]'hi)) := by
      rw [hO1.k.cellAt i (by omega), List.getElem?_map, List.getElem?_eq_getElem hi]
      rfl
    obtain ⟨F, hF⟩ : ∃ F, fencedK D (D.K[i]'hi) = F := ⟨_, rfl⟩
    have HFE : Hid (fencedAny D.F [D.K[i]'hi] = F) := (fencedAny_one D _).trans hF
    have HKE : Hid (fencedK D (keyOf D i) = F) := by show _ = _; unfold keyOf; rw [List.getD, List.getElem?_eq_getElem hi]; exact hF
    clear hF
    obtain ⟨WA, hWA⟩ : ∃ WA, WA = (w1.alloc (.cells #[.int .i64 (D.K[i]'hi)] 3)).drew := ⟨_, rfl⟩
    have hbA : Below w1.heap.size w1 WA := by rw [hWA]; exact (below_alloc w1 _).drew
    have hgl : gk < w1.heap.size := by omega
    have hkeep : ∀ wx : World, Below w1.heap.size w1 wx → (wx.cell? ⟨b, 0, none⟩ = some (.slice aS D.S.length cS) ∧ wx.cell? ⟨b, 1, none⟩ = some (.slice aC D.C.length cC) ∧ wx.cell? ⟨b, 2, none⟩ = some (.slice (some ⟨gk, 0, none⟩) D.K.length cK) ∧ wx.cell? ⟨b, 3, none⟩ = some (.int .i64 D.n) ∧ wx.cell? ⟨b, 4, none⟩ = some (.slice aF D.F.length cF) ∧ wx.cell? ⟨gk, i, none⟩ = some (.int .i64 (D.K[i]'hi)) ∧ wx.cell? ⟨b + 1, 0, none⟩ = some (.int .i8 3)) := fun wx hx => by
      obtain ⟨n0, n1, n2, n3, n4⟩ := five_cells (p1.below hx p1.lt)
      exact ⟨n0, n1, n2, n3, n4, (hx.cell (p := ⟨gk, i, none⟩) hgl).trans hkc, (m1.below hx m1.lt).cell 0 _ rfl⟩
    have HWA0 : Hid (((w1.alloc (.cells #[.int .i64 (D.K[i]'hi)] 3)).drew).cell? ⟨b, 0, none⟩ = some (.slice aS D.S.length cS) ∧ ((w1.alloc (.cells #[.int .i64 (D.K[i]'hi)] 3)).drew).cell? ⟨b, 1, none⟩ = some (.slice aC D.C.length cC) ∧ ((w1.alloc (.cells #[.int .i64 (D.K[i]'hi)] 3)).drew).cell? ⟨b, 2, none⟩ = some (.slice (some ⟨gk, 0, none⟩) D.K.length cK) ∧ ((w1.alloc (.cells #[.int .i64 (D.K[i]'hi)] 3)).drew).cell? ⟨b, 3, none⟩ = some (.int .i64 D.n) ∧ ((w1.alloc (.cells #[.int .i64 (D.K[i]'hi)] 3)).drew).cell? ⟨b, 4, none⟩ = some (.slice aF D.F.length cF) ∧ ((w1.alloc (.cells #[.int .i64 (D.K[i]'hi)] 3)).drew).cell? ⟨gk, i, none⟩ = some (.int .i64 (D.K[i]'hi)) ∧ ((w1.alloc (.cells #[.int .i64 (D.K[i]'hi)] 3)).drew).cell? ⟨b + 1, 0, none⟩ = some (.int .i8 3)) := hkeep _ ((below_alloc w1 _).drew)
    have hlA : Lies WA WA.heap.size (some ⟨w1.heap.size, 0, none⟩) 1 ([D.K[i]'hi].map (Value.int .i64)) := by
      have h : WA.ownsRow w1.heap.size 3 1 (.slice (some ⟨w1.heap.size, 0, none⟩) 1 1) 1 [.int .i64 (D.K[i]'hi)] := by rw [hWA]; exact own_up (World.ownsRow_lit w1 #[.int .i64 (D.K[i]'hi)] 1 (Nat.le_refl _) (by decide) rfl) ((Below.refl _ _).drew)
      exact Lies.of_own h
    have hcall := refFenced_any _ D (some ⟨w1.heap.size, 0, none⟩) 1 1 [D.K[i]'hi] WA (hO1.up hbA).dev hlA rfl (by decide)
    rw [HFE.out] at hcall
    have i0 : (0 : Int) ≤ (i : Int) := by omega
    have i2 : (i : Int) < (D.K.length : Int) := by omega
    clear hlA
    go_wp2_with fail
    refine wp_region_held_drew (S := (fun w' => w'.cell? ⟨b, 0, none⟩ = some (.slice aS D.S.length cS) ∧ w'.cell? ⟨b, 1, none⟩ = some (.slice aC D.C.length cC) ∧ w'.cell? ⟨b, 2, none⟩ = some (.slice (some ⟨gk, 0, none⟩) D.K.length cK) ∧ w'.cell? ⟨b, 3, none⟩ = some (.int .i64 D.n) ∧ w'.cell? ⟨b, 4, none⟩ = some (.slice aF D.F.length cF) ∧ w'.cell? ⟨gk, i, none⟩ = some (.int .i64 (D.K[i]'hi)) ∧ w'.cell? ⟨b + 1, 0, none⟩ = some (.int .i8 3))) (by kernel_rfl) ?_ (fun hHeld => ?_)
    focus (exact ⟨q0, q1, q2, q3, q4, hkc, y0⟩)
    refine wpAnyH_take (i := 0) (oi := ⟨some 78, _, _, _, _, _⟩) (v := ?_) rfl (by kernel_rfl) (by kernel_rfl) (by kernel_rfl) (fun _ _ _ h => h) (Or.inl ⟨by rfl, ?_⟩) (by assumption) ?_
    rotate_left
    focus (intro wq hSq; (try dsimp only at hSq); go_simp; try with_reducible rfl)
    try simp only [Act.put, List.setIfInBounds_toArray, List.set_cons_zero, List.set_cons_succ]
    refine wpAnyH_take (i := 1) (oi := ⟨some 79, _, _, _, _, _⟩) (v := ?_) rfl (by kernel_rfl) (by kernel_rfl) (by kernel_rfl) (fun _ _ _ h => h) (Or.inl ⟨by rfl, ?_⟩) (by assumption) ?_
    rotate_left
    focus (intro wq hSq; (try dsimp only at hSq); go_simp; try with_reducible rfl)
    try simp only [Act.put, List.setIfInBounds_toArray, List.set_cons_zero, List.set_cons_succ]
    refine wpAnyH_take (i := 2) (oi := ⟨some 80, _, _, _, _, _⟩) (v := ?_) rfl (by kernel_rfl) (by kernel_rfl) (by kernel_rfl) (fun _ _ _ h => h) (Or.inl ⟨by rfl, ?_⟩) (by assumption) ?_
    rotate_left
    focus (intro wq hSq; (try dsimp only at hSq); go_simp; try with_reducible rfl)
    try simp only [Act.put, List.setIfInBounds_toArray, List.set_cons_zero, List.set_cons_succ]
    refine wpAnyH_take (i := 3) (oi := ⟨some 81, _, _, _, _, _⟩) (v := ?_) rfl (by kernel_rfl) (by kernel_rfl) (by kernel_rfl) (fun _ _ _ h => h) (Or.inl ⟨by rfl, ?_⟩) (by assumption) ?_
    rotate_left
    focus (intro wq hSq; (try dsimp only at hSq); go_simp; try with_reducible rfl)
    try simp only [Act.put, List.setIfInBounds_toArray, List.set_cons_zero, List.set_cons_succ]
    refine wpAnyH_take (i := 4) (oi := ⟨some 82, _, _, _, _, _⟩) (v := ?_) rfl (by kernel_rfl) (by kernel_rfl) (by kernel_rfl) (fun _ _ _ h => h) (Or.inl ⟨by rfl, ?_⟩) (by assumption) ?_
    rotate_left
    focus (intro wq hSq; (try dsimp only at hSq); go_simp; try with_reducible rfl)
    try simp only [Act.put, List.setIfInBounds_toArray, List.set_cons_zero, List.set_cons_succ]
    refine wpAnyH_take (i := 5) (oi := ⟨some 83, _, _, _, _, _⟩) (v := ?_) rfl (by kernel_rfl) (by kernel_rfl) (by kernel_rfl) (fun _ _ _ h => h) (Or.inl ⟨by rfl, ?_⟩) (by assumption) ?_
    rotate_left
    focus (intro wq hSq; (try dsimp only at hSq); go_simp; try with_reducible rfl)
    try simp only [Act.put, List.setIfInBounds_toArray, List.set_cons_zero, List.set_cons_succ]
    refine wpAnyH_take (i := 6) (oi := ⟨some 84, _, _, _, _, _⟩) (v := ?_) rfl (by kernel_rfl) (by kernel_rfl) (by kernel_rfl) (fun _ _ _ h => h) (Or.inl ⟨by rfl, ?_⟩) (by assumption) ?_
    rotate_left
    focus (intro wq hSq; (try dsimp only at hSq); go_simp; try with_reducible rfl)
    try simp only [Act.put, List.setIfInBounds_toArray, List.set_cons_zero, List.set_cons_succ]
    refine wpAnyH_take (i := 7) (oi := ⟨some 85, _, _, _, _, _⟩) (v := ?_) rfl (by kernel_rfl) (by kernel_rfl) (by kernel_rfl) (fun _ _ _ h => h) (Or.inl ⟨by rfl, ?_⟩) (by assumption) ?_
    rotate_left
    focus (intro wq hSq; (try dsimp only at hSq); go_simp; try with_reducible rfl)
    try simp only [Act.put, List.setIfInBounds_toArray, List.set_cons_zero, List.set_cons_succ]
    refine wpAnyH_take (i := 8) (oi := ⟨some 86, _, _, _, _, _⟩) (v := ?_) rfl (by kernel_rfl) (by kernel_rfl) (by kernel_rfl) (fun _ _ _ h => h) (Or.inl ⟨by rfl, ?_⟩) (by assumption) ?_
    rotate_left
    focus (intro wq hSq; (try dsimp only at hSq); go_simp; try with_reducible rfl)
    try simp only [Act.put, List.setIfInBounds_toArray, List.set_cons_zero, List.set_cons_succ]
    refine wpAnyH_take (i := 9) (oi := ⟨some 87, _, _, _, _, _⟩) (v := ?_) rfl (by kernel_rfl) (by kernel_rfl) (by kernel_rfl) (fun _ _ _ h => h) (Or.inl ⟨by rfl, ?_⟩) (by assumption) ?_
    rotate_left
    focus (intro wq hSq; (try dsimp only at hSq); go_simp; try with_reducible rfl)
    try simp only [Act.put, List.setIfInBounds_toArray, List.set_cons_zero, List.set_cons_succ]
    refine wpAnyH_ready (rs := [10]) (by kernel_rfl) (by simp) ?_
    refine AllReadyH.cons (o := ⟨some 88, _, _, _, _, _⟩) rfl (fun K hK => ?_) AllReadyH.nil
    go_simp
    refine hK.out _ _ ?_ (fun hHeld => ?_)
    focus (exact HWA0.out)
    clear hK K
    try simp only [Act.put, List.setIfInBounds_toArray, List.set_cons_zero, List.set_cons_succ]
    rw [← hWA]
    clear hWA HWA0
    refine wpAnyH_ready (rs := [11]) (by kernel_rfl) (by simp) ?_
    refine AllReadyH.cons (o := ⟨some 89, _, _, _, _, _⟩) rfl (fun K hK => ?_) AllReadyH.nil
    go_simp
    refine hcall.mono ?_
    rintro e w4 ⟨rfl, hb4⟩
    have hc4 := hbA.trans (hb4.mono hbA.size)
    have HS4 := Lib.hid (hkeep w4 hc4)
    clear hcall hb4 hbA hkeep
    go_wp2_with fail
    refine hK.out _ _ ?_ (fun hHeld => ?_)
    focus (exact HS4.out)
    clear hK K
    try simp only [Act.put, List.setIfInBounds_toArray, List.set_cons_zero, List.set_cons_succ]
    refine wpAnyH_take (i := 12) (oi := ⟨some 90, _, _, _, _, _⟩) (v := ?_) rfl (by kernel_rfl) (by kernel_rfl) (by kernel_rfl) (fun _ _ _ h => h) (Or.inl ⟨by rfl, ?_⟩) (by assumption) ?_
    rotate_left
    focus (intro wq hSq; (try dsimp only at hSq); go_simp; try with_reducible rfl)
    try simp only [Act.put, List.setIfInBounds_toArray, List.set_cons_zero, List.set_cons_succ]
    refine wpAnyH_done (by kernel_rfl) ?_ _
    clear HS4 hkc
    have p4 := p1.below hc4 p1.lt
    have m4 := m1.below hc4 m1.lt
    have r4 := r1.below hc4 r1.lt
    have hO4 := hO1.up hc4
    have hs4 := hc4.size
    have hb4 := hb1.trans (hc4.mono (by omega))
    clear q0 q1 q2 q3 q4 y0 y1 y2 y3 p1 m1 r1 hb1 hO1 hc4
    obtain ⟨q0, q1, q2, q3, q4⟩ := five_cells p4
    obtain ⟨y0, y1, y2, y3⟩ := act_cells m4
    cases F with
    | true =>
      have HX : Hid (doD D (i : Int) ⟨3, s, t, key⟩ = D ∧ doS D (i : Int) ⟨3, s, t, key⟩ = ⟨#[]⟩ ∧ refE D (i : Int) ⟨3, s, t, key⟩ = 61) := do_is HHI.out (by simp [actE, HKE.out, h512]) (by decide)
      obtain ⟨z0, z1, z2, z3, z4⟩ := five_cells r4
      obtain ⟨f0, f1, f2, f3, f4⟩ := five_free r4
      have H1 := Lib.hid (into5_range r4 rfl (.slice aS D.S.length cS) (.slice aC D.C.length cC) (.slice (some ⟨gk, 0, none⟩) D.K.length cK) D.n (.slice aF D.F.length cF))
      have H2 := Lib.hid (into5_other hO4 r4 (by decide) (by decide) (by decide) (by decide) (.slice aS D.S.length cS) (.slice aC D.C.length cC) (.slice (some ⟨gk, 0, none⟩) D.K.length cK) D.n (.slice aF D.F.length cF))
      have H3 := Lib.hid (into5_below hb4 (show b ≤ b + 1 + 1 by omega) (.slice aS D.S.length cS) (.slice aC D.C.length cC) (.slice (some ⟨gk, 0, none⟩) D.K.length cK) D.n (.slice aF D.F.length cF))
      clear hO4 p4 m4 r4 hb4
      go_wp2_with fail
      refine bodyPost_ret (results_c3 (cs := [.slice aS D.S.length cS, .slice aC D.C.length cC, .slice (some ⟨gk, 0, none⟩) D.K.length cK, .int .i64 D.n, .slice aF D.F.length cF]) Try.results14 (by rfl) (by rfl) (by rfl) H1.out Try.underlying29 rfl (by kernel_rfl)) rfl ?_
      rw [HX.out.1, HX.out.2.1, HX.out.2.2]
      exact rAct_of H2.out (by rw [hbe]; exact H3.out) rfl
    | false =>
      by_cases hs0 : 0 ≤ s ∧ s < (D.S.length : Int)
      · have HOK : Hid (doD D (i : Int) ⟨3, s, t, key⟩ = putD D i s t ∧ doS D (i : Int) ⟨3, s, t, key⟩ = ⟨#[]⟩ ∧ refE D (i : Int) ⟨3, s, t, key⟩ = 0) := by
          have h0 : actE D i ⟨3, s, t, key⟩ = 0 := by simp [actE, HKE.out, hs0, h512]
          obtain ⟨h1, h2, h3⟩ := do_ok HHI.out h0
          refine ⟨?_, ?_, h3⟩
          · rw [h1]; simp [actD, h0]
          · rw [h2]; simp [actS, h0]
        obtain ⟨s', rfl⟩ := Int.eq_ofNat_of_zero_le hs0.1
        have hsl : s' < D.S.length := by have := hs0.2; omega
        have s0 : decide ((s' : Int) < 0) = false := decide_eq_false (by omega)
        have s1 : decide ((D.S.length : Int) ≤ (s' : Int)) = false := decide_eq_false (by omega)
        clear hs0
        have hcp := refCopied_any _ D w4 hO4.dev HSS.out
        have HOUTN : Hid (B ≤ w4.heap.size ∧ b + 3 ≤ w4.heap.size) := by have := HBB.out; show _ ∧ _; omega
        go_wp2_with fail
        refine hcp.mono ?_
        rintro e w5 ⟨uS, uC, uK, uF, g, rfl, hN5, hc5⟩
        clear hcp
        obtain ⟨xS, yS, xC, yC, xK, yK, xF, yF, rfl, rfl, rfl, rfl⟩ := own_shapes hN5
        have hic : i < D.C.length := by have := HCK.out; omega
        obtain ⟨gc, capc, a, c, hgc, hgi, hgcB, hgcl, hcc, hcf, hlc, hcm⟩ := own_cache hN5 hic
        obtain ⟨rfl, rfl⟩ : xC = some ⟨gc, 0, none⟩ ∧ yC = capc := by injection hgc with e1 _ e2; exact ⟨e1, e2⟩
        obtain ⟨hk, caph, hhk, hhkB, hhkl, _, _⟩ := own_key hN5 hi
        obtain ⟨rfl, rfl⟩ : xK = some ⟨hk, 0, none⟩ ∧ yK = caph := by injection hhk with e1 _ e2; exact ⟨e1, e2⟩
        clear hgc hhk
        have p5 := p4.below hc5 p4.lt
        have m5 := m4.below hc5 m4.lt
        have r5 := r4.below hc5 r4.lt
        have hO5 := hO4.up hc5
        have hs5 := hc5.size
        have hb5 := hb4.trans (hc5.mono (by omega))
        clear q0 q1 q2 q3 q4 y0 y1 y2 y3 p4 m4 r4 hb4 hO4 hc5
        obtain ⟨q0, q1, q2, q3, q4⟩ := five_cells p5
        obtain ⟨y0, y1, y2, y3⟩ := act_cells m5
        obtain ⟨w6, hw6⟩ : ∃ W, W = w5.alloc (.cells #[.slice xS D.S.length yS, .slice (some ⟨gc, 0, none⟩) D.C.length yC, .slice (some ⟨hk, 0, none⟩) D.K.length yK, .int .i64 D.n, .slice xF D.F.length yF] 29) := ⟨_, rfl⟩
        have hc6 : Below w5.heap.size w5 w6 := hw6 ▸ below_alloc w5 _
        have R6 : Blk w6 w5.heap.size #[.slice xS D.S.length yS, .slice (some ⟨gc, 0, none⟩) D.C.length yC, .slice (some ⟨hk, 0, none⟩) D.K.length yK, .int .i64 D.n, .slice xF D.F.length yF] 29 := hw6 ▸ Blk.new w5 _ _
        have hN6 := hN5.up hc6
        have hcc6 : w6.cell? ⟨gc, i, none⟩ = some (.slice a (cacheOf D i).length c) := (hc6.cell (p := ⟨gc, i, none⟩) hgcl).trans hcc
        have hcf6 : w6.frozen? ⟨gc, i, none⟩ = false := hN6.c.frozenAt i
        have HR6 : Hid (w5.heap.size < w6.heap.size) := by show _ < _; rw [hw6]; simp
        have HGI := Lib.hid hgi
        have HGC : Hid (w4.heap.size ≤ gc ∧ gc < w5.heap.size) := ⟨hgcB, hgcl⟩
        have HHK : Hid (w4.heap.size ≤ hk ∧ hk < w5.heap.size) := ⟨hhkB, hhkl⟩
        have HMC := Lib.hid hcm
        have HLC0 := hlc
        obtain ⟨l, hl⟩ : ∃ l, cacheOf D i = l := ⟨_, rfl⟩
        have HL := Lib.hid hl
        have HCO : Hid (CacheOk l D.S.length) := by show CacheOk l _; rw [← hl]; exact cache_ok HMM.out i
        rw [hl] at hcc hcc6 hlc HGI
        obtain ⟨nl, hnl⟩ : ∃ n, l.length = n := ⟨_, rfl⟩
        have HN := Lib.hid hnl
        rw [hnl] at hcc hcc6 hlc HGI
        have hA6 : Lies w6 w6.heap.size a (nl * 2) (celV l) := by
          have h := hN6.cs i hic
          rw [HGI.out, show D.C.getD i [] = l from HL.out, HN.out] at h
          exact lies_own2 h
        have hpl := refPlace_any a nl c l (s' : Int) w6.heap.size w6 hA6 HN.out (by have := HMC.out; omega)
        have HS2 : Hid (nl ≤ 1099511627776) := by
          show nl ≤ _
          rw [← HN.out, ← HL.out]
          exact HSS.out.cs _ (by unfold cacheOf; rw [List.getD, List.getElem?_eq_getElem hic]; exact List.getElem_mem hic)
        have i0 : (0 : Int) ≤ (i : Int) := by omega
        have i1 : (i : Int) < (D.C.length : Int) := by omega
        have hcl := hgcl
        have hbl1 : b + 1 < w5.heap.size := by have := HOUTN.out; omega
        have hbl2 : b + 1 + 1 < w5.heap.size := by have := HOUTN.out; omega
        have HLC := Lib.hid hlc
        clear hl hnl hgi hcf hN5 hcm hlc HLC0
        go_wp2_with fail
        rw [← hw6]
        refine hpl.mono ?_
        rintro e w7 ⟨rfl, rfl⟩
        clear hpl hcc hw6 hcl hgcB hgcl hhkB hhkl
        have p6 := p5.below hc6 p5.lt
        have m6 := m5.below hc6 m5.lt
        have r6 := r5.below hc6 r5.lt
        have hO6 := hO5.up hc6
        have hs6 := hc6.size
        have hb6 := hb5.trans (hc6.mono (by omega))
        clear q0 q1 q2 q3 q4 y0 y1 y2 y3 p5 m5 r5 hb5 hO5 hc6
        obtain ⟨q0, q1, q2, q3, q4⟩ := five_cells p6
        obtain ⟨y0, y1, y2, y3⟩ := act_cells m6
        cases hp : placeO l (s' : Int) with
        | some k =>
          obtain ⟨hkl, hks⟩ := place_some hp
          rw [placeI_some hp]
          have HFL : Hid (putD D i (s' : Int) t = { D with C := D.C.set i (l.set k ((s' : Int), t)) }) := by
            show _ = _
            unfold putD putC setCache
            rw [HL.out, hp]
          rw [HFL.out] at HOK
          have k0 : (0 : Int) ≤ (k : Int) := by omega
          have k1 : (k : Int) < (nl : Int) := by have := HN.out; omega
          obtain ⟨ga, c', e2, hgaB, hgal, _, hd2, hfz⟩ := own_cell hN6 hic (k := k) (by rw [show cacheOf D i = l from HL.out]; exact hkl)
          rw [HGI.out] at e2
          obtain ⟨rfl, rfl⟩ : a = some ⟨ga, 0, none⟩ ∧ c = c' := by injection e2 with e1 _ e2; exact ⟨e1, e2⟩
          have hown : w6.ownsRow w4.heap.size 59 2 (.slice (some ⟨ga, 0, none⟩) nl c) nl (celV l) := by
            have h := hN6.cs i hic
            rw [HGI.out, show D.C.getD i [] = l from HL.out, HN.out] at h
            exact h
          have hst := hown.stored (k * 2 + 1) (.string t)
          have hN7 : OwnD (w6.setCell ⟨ga, k * 2 + 1, none⟩ (.string t)) w4.heap.size (.slice xS D.S.length yS) (.slice (some ⟨gc, 0, none⟩) D.C.length yC) (.slice (some ⟨hk, 0, none⟩) D.K.length yK) (.slice xF D.F.length yF) g { D with C := D.C.set i (l.set k ((s' : Int), t)) } := by
            refine hN6.turnC hic rfl (by rw [HGI.out]; exact hst.2) ?_
            rw [List.length_set, HN.out, ← celV_set _ _ _ hkl hks, HGI.out]
            exact hst.1
          have hg1 : w5.heap.size ≠ ga := own_blk hown R6 (by decide) rfl
          have hg2 : ga ≠ w5.heap.size := fun e => hg1 e.symm
          have hg3 : b + 1 + 1 ≠ ga := by have := HOUTN.out; omega
          have hg4 : ga ≠ b + 1 + 1 := fun e => hg3 e.symm
          obtain ⟨v0, v1, v2, v3, v4⟩ := five_cells R6
          obtain ⟨zz0, zz1, zz2, zz3, zz4⟩ := five_cells r6
          obtain ⟨ff0, ff1, ff2, ff3, ff4⟩ := five_free r6
          have R7 := R6.other hg1 (k * 2 + 1) (.string t)
          have r7 := r6.other hg3 (k * 2 + 1) (.string t)
          have hb7 := hb6.setCell (p := ⟨ga, k * 2 + 1, none⟩) (show b ≤ ga by have := HOUTN.out; omega) (.string t)
          clear e2 hown hst hN6 R6 r6 hb6 hA6 q0 q1 q2 q3 q4 y1 y3 p6 m6 hO6
          have H1 := Lib.hid (into5_range r7 rfl (.slice xS D.S.length yS) (.slice (some ⟨gc, 0, none⟩) D.C.length yC) (.slice (some ⟨hk, 0, none⟩) D.K.length yK) D.n (.slice xF D.F.length yF))
          have H2 := Lib.hid (OwnD.less (B' := B) (into5_other hN7 r7 (by decide) (by decide) (by decide) (by decide) (.slice xS D.S.length yS) (.slice (some ⟨gc, 0, none⟩) D.C.length yC) (.slice (some ⟨hk, 0, none⟩) D.K.length yK) D.n (.slice xF D.F.length yF)) (by have := HOUTN.out; omega))
          have H3 := Lib.hid (into5_below hb7 (show b ≤ b + 1 + 1 by omega) (.slice xS D.S.length yS) (.slice (some ⟨gc, 0, none⟩) D.C.length yC) (.slice (some ⟨hk, 0, none⟩) D.K.length yK) D.n (.slice xF D.F.length yF))
          clear R7 r7 hb7 hN7
          go_wp2_with fail
          refine bodyPost_ret (results_c3 (cs := [.slice xS D.S.length yS, .slice (some ⟨gc, 0, none⟩) D.C.length yC, .slice (some ⟨hk, 0, none⟩) D.K.length yK, .int .i64 D.n, .slice xF D.F.length yF]) Try.results14 (by rfl) (by rfl) (by rfl) H1.out Try.underlying29 rfl (by kernel_rfl)) rfl ?_
          rw [HOK.out.1, HOK.out.2.1, HOK.out.2.2]
          exact rAct_of H2.out (by rw [hbe]; exact H3.out) rfl
        | none =>
          rw [placeI_none hp]
          have HFL : Hid (putD D i (s' : Int) t = { D with C := D.C.set i (l ++ [((s' : Int), t)]) }) := by
            show _ = _
            unfold putD putC setCache
            rw [HL.out, hp]
          rw [HFL.out] at HOK
          obtain ⟨i0', hi', hz0, hz1, hz2⟩ := info_parts infoCell
          have hg6 : w5.heap.size ≠ gc := own_blk hN6.c R6 (by decide) rfl
          have hg7 : gc ≠ w5.heap.size := fun e => hg6 e.symm
          have hg8 : b + 1 + 1 ≠ gc := by have := HOUTN.out; have := HGC.out; omega
          have hg9 : b + 1 ≠ gc := by have := HOUTN.out; have := HGC.out; omega
          have hg9' : gc ≠ b + 1 := fun e => hg9 e.symm
          have x1 : w6.cell? ⟨w5.heap.size, 1, none⟩ = some (.slice (some ⟨gc, 0, none⟩) D.C.length yC) := R6.cell 1 _ rfl
          obtain ⟨WA, hWA⟩ : ∃ WA, WA = (w6.alloc (.cells #[.int .i64 (s' : Int), .string t] 59)).drew := ⟨_, rfl⟩
          have hbA : Below w6.heap.size w6 WA := by rw [hWA]; exact (below_alloc w6 _).drew
          have hNA := hN6.up hbA
          have RA := R6.below hbA R6.lt
          have rA := r6.below hbA r6.lt
          have mA := m6.below hbA m6.lt
          have HWA0 : Hid (((w6.alloc (.cells #[.int .i64 (s' : Int), .string t] 59)).drew).cell? ⟨w5.heap.size, 1, none⟩ = some (.slice (some ⟨gc, 0, none⟩) D.C.length yC) ∧ ((w6.alloc (.cells #[.int .i64 (s' : Int), .string t] 59)).drew).cell? ⟨b + 1, 1, none⟩ = some (.int .i64 (s' : Int)) ∧ ((w6.alloc (.cells #[.int .i64 (s' : Int), .string t] 59)).drew).cell? ⟨b + 1, 2, none⟩ = some (.string t)) := by
            show _ ∧ _ ∧ _
            rw [← hWA]
            exact ⟨RA.cell 1 _ rfl, mA.cell 1 _ rfl, mA.cell 2 _ rfl⟩
          have HWA := Lib.hid (show (WA.cell? ⟨w5.heap.size, 1, none⟩ = some (.slice (some ⟨gc, 0, none⟩) D.C.length yC) ∧ WA.cell? ⟨b + 1, 1, none⟩ = some (.int .i64 (s' : Int)) ∧ WA.cell? ⟨b + 1, 2, none⟩ = some (.string t)) from ⟨RA.cell 1 _ rfl, mA.cell 1 _ rfl, mA.cell 2 _ rfl⟩)
          have HOWN : Hid (WA.ownsRow w4.heap.size 59 2 (.slice a nl c) nl (celV l)) := by
            have h := hNA.cs i hic
            rw [HGI.out, show D.C.getD i [] = l from HL.out, HN.out] at h
            exact h
          have HNEW : Hid (∀ j u, (celV [((s' : Int), t)])[j]? = some u → WA.cell? ((⟨w6.heap.size, 0, none⟩ : Addr).add j) = some u) := fun j u hj => by
            rw [hWA, Addr.add_lit]
            show (w6.alloc _).cell? _ = some u
            rw [Nat.zero_add]
            refine (Blk.new w6 _ _).cell j u ?_
            match j, hj with
            | 0, hj => exact hj
            | 1, hj => exact hj
            | j + 2, hj => simp [celV] at hj
          have HB1 : Hid (nl + 1 ≤ maxLen) := by have := HS2.out; show _ ≤ _; unfold maxLen; omega
          have HB2 : Hid ((nl + 1) * 24 ≤ 140737488355328) := by have := HS2.out; show _ ≤ _; omega
          have HB3 : Hid (w4.heap.size ≤ WA.heap.size) := by have := hbA.size; have := HR6.out; show _ ≤ _; omega
          have HSTEP : Hid (∀ ga cap2 w7, w7.ownsRow w4.heap.size 59 2 (.slice (some ⟨ga, 0, none⟩) (nl + 1) cap2) (nl + 1) (celV l ++ celV [((s' : Int), t)]) → WA.grownBy w7 (Value.slice a nl c).ownBlock → ((Value.slice a nl c).ownBlock = some ga ∨ ga = WA.heap.size) →
              (w7.cell? ⟨w5.heap.size, 1, none⟩ = some (.slice (some ⟨gc, 0, none⟩) D.C.length yC) ∧ w7.cell? ⟨b + 1, 1, none⟩ = some (.int .i64 (s' : Int)) ∧ w7.cell? ⟨b + 1, 2, none⟩ = some (.string t)) ∧ ((w7.setCell ⟨gc, i, none⟩ (.slice (some ⟨ga, 0, none⟩) (nl + 1) cap2)).cell? ⟨w5.heap.size, 1, none⟩ = some (.slice (some ⟨gc, 0, none⟩) D.C.length yC) ∧ (w7.setCell ⟨gc, i, none⟩ (.slice (some ⟨ga, 0, none⟩) (nl + 1) cap2)).cell? ⟨b + 1, 1, none⟩ = some (.int .i64 (s' : Int)) ∧ (w7.setCell ⟨gc, i, none⟩ (.slice (some ⟨ga, 0, none⟩) (nl + 1) cap2)).cell? ⟨b + 1, 2, none⟩ = some (.string t)) ∧
              w7.cell? ⟨gc, i, none⟩ = some (.slice a nl c) ∧ w7.frozen? ⟨gc, i, none⟩ = false ∧
              Hid (Blk (w7.setCell ⟨gc, i, none⟩ (.slice (some ⟨ga, 0, none⟩) (nl + 1) cap2)) w5.heap.size #[.slice xS D.S.length yS, .slice (some ⟨gc, 0, none⟩) D.C.length yC, .slice (some ⟨hk, 0, none⟩) D.K.length yK, .int .i64 D.n, .slice xF D.F.length yF] 29 ∧ Blk (w7.setCell ⟨gc, i, none⟩ (.slice (some ⟨ga, 0, none⟩) (nl + 1) cap2)) (b + 1 + 1) #[.slice none 0 0, .slice none 0 0, .slice none 0 0, .int .i64 0, .slice none 0 0] 29 ∧ Below b w (w7.setCell ⟨gc, i, none⟩ (.slice (some ⟨ga, 0, none⟩) (nl + 1) cap2)) ∧
                OwnD (w7.setCell ⟨gc, i, none⟩ (.slice (some ⟨ga, 0, none⟩) (nl + 1) cap2)) w4.heap.size (.slice xS D.S.length yS) (.slice (some ⟨gc, 0, none⟩) D.C.length yC) (.slice (some ⟨hk, 0, none⟩) D.K.length yK) (.slice xF D.F.length yF) (fun j => if j = i then .slice (some ⟨ga, 0, none⟩) (nl + 1) cap2 else g j) { D with C := D.C.set i (l ++ [((s' : Int), t)]) })) := by
            intro ga cap2 w7 hown7 hgrow hat
            have hrow : ∀ x, (Value.slice a nl c).ownBlock = some x → w4.heap.size ≤ x ∧ x ≠ w5.heap.size ∧ x ≠ gc := fun x hx => ⟨(HOWN.out.lt x hx).1, fun e => own_blk HOWN.out RA (by decide) hx e.symm, own_ne HOWN.out hNA.c (by decide) hx rfl⟩
            have hA2 := hNA.swapC (l := l ++ [((s' : Int), t)]) rfl hic (by rw [HGI.out]) hgrow (u := .slice (some ⟨ga, 0, none⟩) (nl + 1) cap2) (by rw [List.length_append, celV_append, HN.out]; exact hown7) (by
              rcases hat with h2 | h2
              · exact .inl (by rw [HGI.out, h2]; rfl)
              · exact .inr fun x hx => by simp [Value.ownBlock] at hx; omega)
            have hho := HOUTN.out
            have hhc := HGC.out
            have hhr := HR6.out
            have hba := hbA.size
            have R7 : Blk w7 w5.heap.size #[.slice xS D.S.length yS, .slice (some ⟨gc, 0, none⟩) D.C.length yC, .slice (some ⟨hk, 0, none⟩) D.K.length yK, .int .i64 D.n, .slice xF D.F.length yF] 29 := (hgrow.block w5.heap.size (by omega) (fun e => (hrow _ e.symm).2.1 rfl)).trans RA
            have r7 : Blk w7 (b + 1 + 1) #[.slice none 0 0, .slice none 0 0, .slice none 0 0, .int .i64 0, .slice none 0 0] 29 := (hgrow.block (b + 1 + 1) (by omega) (fun e => by have := (hrow _ e.symm).1; omega)).trans rA
            have m7 : Blk w7 (b + 1) #[.int .i8 3, .int .i64 (s' : Int), .string t, .int .i64 key] 38 := (hgrow.block (b + 1) (by omega) (fun e => by have := (hrow _ e.symm).1; omega)).trans mA
            have hb7 : Below b w w7 := (hb6.trans (hbA.mono (by omega))).grown hgrow (by omega) (fun x hx => by have := (hrow x hx).1; omega)
            have hcc7 : w7.cell? ⟨gc, i, none⟩ = some (.slice a nl c) := hgrow.cell (a := ⟨gc, i, none⟩) ((hbA.cell (p := ⟨gc, i, none⟩) (show gc < w6.heap.size by omega)).trans hcc6) (fun e => (hrow _ e.symm).2.2 rfl)
            have hcf7 : w7.frozen? ⟨gc, i, none⟩ = false := (hgrow.frozen_far ⟨gc, i, none⟩ (show gc < WA.heap.size by omega) (fun e => (hrow _ e.symm).2.2 rfl)).trans (hNA.c.frozenAt i)
            exact ⟨⟨R7.cell 1 _ rfl, m7.cell 1 _ rfl, m7.cell 2 _ rfl⟩, ⟨(R7.other hg6 i _).cell 1 _ rfl, (m7.other hg9 i _).cell 1 _ rfl, (m7.other hg9 i _).cell 2 _ rfl⟩, hcc7, hcf7, ⟨R7.other hg6 i _, r7.other hg8 i _, hb7.setCell (show b ≤ gc by omega) _, hA2⟩⟩
          clear hNA RA rA mA hN6 R6 r6 hb6 m6 p6 hO6 hA6 q0 q1 q2 q3 q4 y3 hbA
          go_wp2_with fail
          refine wp_region_held_drew (S := (fun w' => w'.cell? ⟨w5.heap.size, 1, none⟩ = some (.slice (some ⟨gc, 0, none⟩) D.C.length yC) ∧ w'.cell? ⟨b + 1, 1, none⟩ = some (.int .i64 (s' : Int)) ∧ w'.cell? ⟨b + 1, 2, none⟩ = some (.string t))) (by kernel_rfl) ?_ (fun hHeld => ?_)
          focus (exact ⟨x1, y1, y2⟩)
          refine wpAnyH_take (i := 0) (oi := ⟨some 170, _, _, _, _, _⟩) (v := ?_) rfl (by kernel_rfl) (by kernel_rfl) (by kernel_rfl) (fun _ _ _ h => h) (Or.inl ⟨by rfl, ?_⟩) (by assumption) ?_
          rotate_left
          focus (intro wq hSq; (try dsimp only at hSq); go_simp; try with_reducible rfl)
          try simp only [Act.put, List.setIfInBounds_toArray, List.set_cons_zero, List.set_cons_succ]
          refine wpAnyH_take (i := 1) (oi := ⟨some 171, _, _, _, _, _⟩) (v := ?_) rfl (by kernel_rfl) (by kernel_rfl) (by kernel_rfl) (fun _ _ _ h => h) (Or.inl ⟨by rfl, ?_⟩) (by assumption) ?_
          rotate_left
          focus (intro wq hSq; (try dsimp only at hSq); go_simp; try with_reducible rfl)
          try simp only [Act.put, List.setIfInBounds_toArray, List.set_cons_zero, List.set_cons_succ]
          refine wpAnyH_take (i := 2) (oi := ⟨some 172, _, _, _, _, _⟩) (v := ?_) rfl (by kernel_rfl) (by kernel_rfl) (by kernel_rfl) (fun _ _ _ h => h) (Or.inl ⟨by rfl, ?_⟩) (by assumption) ?_
          rotate_left
          focus (intro wq hSq; (try dsimp only at hSq); go_simp; try with_reducible rfl)
          try simp only [Act.put, List.setIfInBounds_toArray, List.set_cons_zero, List.set_cons_succ]
          refine wpAnyH_take (i := 3) (oi := ⟨some 173, _, _, _, _, _⟩) (v := ?_) rfl (by kernel_rfl) (by kernel_rfl) (by kernel_rfl) (fun _ _ _ h => h) (Or.inl ⟨by rfl, ?_⟩) (by assumption) ?_
          rotate_left
          focus (intro wq hSq; (try dsimp only at hSq); go_simp; try with_reducible rfl)
          try simp only [Act.put, List.setIfInBounds_toArray, List.set_cons_zero, List.set_cons_succ]
          refine wpAnyH_take (i := 4) (oi := ⟨some 174, _, _, _, _, _⟩) (v := ?_) rfl (by kernel_rfl) (by kernel_rfl) (by kernel_rfl) (fun _ _ _ h => h) (Or.inl ⟨by rfl, ?_⟩) (by assumption) ?_
          rotate_left
          focus (intro wq hSq; (try dsimp only at hSq); go_simp; try with_reducible rfl)
          try simp only [Act.put, List.setIfInBounds_toArray, List.set_cons_zero, List.set_cons_succ]
          refine wpAnyH_take (i := 5) (oi := ⟨some 175, _, _, _, _, _⟩) (v := ?_) rfl (by kernel_rfl) (by kernel_rfl) (by kernel_rfl) (fun _ _ _ h => h) (Or.inl ⟨by rfl, ?_⟩) (by assumption) ?_
          rotate_left
          focus (intro wq hSq; (try dsimp only at hSq); go_simp; try with_reducible rfl)
          try simp only [Act.put, List.setIfInBounds_toArray, List.set_cons_zero, List.set_cons_succ]
          refine wpAnyH_take (i := 6) (oi := ⟨some 176, _, _, _, _, _⟩) (v := ?_) rfl (by kernel_rfl) (by kernel_rfl) (by kernel_rfl) (fun _ _ _ h => h) (Or.inl ⟨by rfl, ?_⟩) (by assumption) ?_
          rotate_left
          focus (intro wq hSq; (try dsimp only at hSq); go_simp; try with_reducible rfl)
          try simp only [Act.put, List.setIfInBounds_toArray, List.set_cons_zero, List.set_cons_succ]
          refine wpAnyH_take (i := 7) (oi := ⟨some 177, _, _, _, _, _⟩) (v := ?_) rfl (by kernel_rfl) (by kernel_rfl) (by kernel_rfl) (fun _ _ _ h => h) (Or.inl ⟨by rfl, ?_⟩) (by assumption) ?_
          rotate_left
          focus (intro wq hSq; (try dsimp only at hSq); go_simp; try with_reducible rfl)
          try simp only [Act.put, List.setIfInBounds_toArray, List.set_cons_zero, List.set_cons_succ]
          refine wpAnyH_take (i := 8) (oi := ⟨some 178, _, _, _, _, _⟩) (v := ?_) rfl (by kernel_rfl) (by kernel_rfl) (by kernel_rfl) (fun _ _ _ h => h) (Or.inl ⟨by rfl, ?_⟩) (by assumption) ?_
          rotate_left
          focus (intro wq hSq; (try dsimp only at hSq); go_simp; try with_reducible rfl)
          try simp only [Act.put, List.setIfInBounds_toArray, List.set_cons_zero, List.set_cons_succ]
          refine wpAnyH_ready (rs := [9]) (by kernel_rfl) (by simp) ?_
          refine AllReadyH.cons (o := ⟨some 179, _, _, _, _, _⟩) rfl (fun K hK => ?_) AllReadyH.nil
          go_simp
          refine hK.out _ _ ?_ (fun hHeld => ?_)
          focus (exact HWA0.out)
          clear hK K
          try simp only [Act.put, List.setIfInBounds_toArray, List.set_cons_zero, List.set_cons_succ]
          rw [← hWA]
          clear hWA HWA0
          refine wpAnyH_ready (rs := [10]) (by kernel_rfl) (by simp) ?_
          refine AllReadyH.cons (o := ⟨some 180, _, _, _, _, _⟩) rfl (fun K hK => ?_) AllReadyH.nil
          refine step_append_lies _ rfl (.tmp 173) (.tmp 179) 57 rfl w4.heap.size 59 i0' _ 2 24 Try.underlying57 hi' hz0 hz1 hz2 rfl (by omega) (.slice a nl c) nl (celV l) (by simp [Act.eval, Act.put]) HOWN.out ⟨w6.heap.size, 0, none⟩ 1 1 (celV [((s' : Int), t)]) (by simp [Act.eval, Act.put]) rfl HNEW.out (celV_one _) (by omega) HB1.out HB2.out HB3.out _ rfl ?_
          intro ga cap2 w7 hown7 hgrow hat hlt7
          obtain ⟨k0, k1, k2, k3, HK⟩ := HSTEP.out ga cap2 w7 hown7 hgrow hat
          clear hown7 hgrow hat hlt7 HSTEP
          refine hK.out _ _ ?_ (fun hHeld => ?_)
          focus (exact k0)
          clear hK K
          try simp only [Act.put, List.setIfInBounds_toArray, List.set_cons_zero, List.set_cons_succ]
          refine wpAnyH_take (i := 11) (oi := ⟨some 181, _, _, _, _, _⟩) (v := ?_) rfl (by kernel_rfl) (by kernel_rfl) (by kernel_rfl) (fun _ _ _ h => h) (Or.inl ⟨by rfl, ?_⟩) (by assumption) ?_
          rotate_left
          focus (intro wq hSq; (try dsimp only at hSq); go_simp; try with_reducible rfl)
          try simp only [Act.put, List.setIfInBounds_toArray, List.set_cons_zero, List.set_cons_succ]
          refine wpAnyH_ready (rs := [12]) (by kernel_rfl) (by simp) ?_
          refine AllReadyH.cons (o := ⟨none, _, _, _, _, _⟩) rfl (fun K hK => ?_) AllReadyH.nil
          go_simp
          refine hK.out _ _ ?_ (fun hHeld => ?_)
          focus (exact k1)
          clear hK K
          try simp only [Act.put, List.setIfInBounds_toArray, List.set_cons_zero, List.set_cons_succ]
          refine wpAnyH_done (by kernel_rfl) ?_ _
          obtain ⟨R8, r8, hb8, hN8⟩ := HK.out
          clear k0 k1 k2 k3 HK x1 y1 y2 y0 hcc6 hcf6
          obtain ⟨x0, x1, x2, x3, x4⟩ := five_cells R8
          obtain ⟨z0, z1, z2, z3, z4⟩ := five_cells r8
          obtain ⟨f0, f1, f2, f3, f4⟩ := five_free r8
          have H1 := Lib.hid (into5_range r8 rfl (.slice xS D.S.length yS) (.slice (some ⟨gc, 0, none⟩) D.C.length yC) (.slice (some ⟨hk, 0, none⟩) D.K.length yK) (D.n) (.slice xF D.F.length yF))
          have H2 := Lib.hid (OwnD.less (B' := B) (into5_other hN8 r8 (by decide) (by decide) (by decide) (by decide) (.slice xS D.S.length yS) (.slice (some ⟨gc, 0, none⟩) D.C.length yC) (.slice (some ⟨hk, 0, none⟩) D.K.length yK) (D.n) (.slice xF D.F.length yF)) (by have := HOUTN.out; omega))
          have H3 := Lib.hid (into5_below hb8 (show b ≤ b + 1 + 1 by omega) (.slice xS D.S.length yS) (.slice (some ⟨gc, 0, none⟩) D.C.length yC) (.slice (some ⟨hk, 0, none⟩) D.K.length yK) (D.n) (.slice xF D.F.length yF))
          clear R8 r8 hb8 hN8 
          go_wp2_with fail
          refine bodyPost_ret (results_c3 (cs := [.slice xS D.S.length yS, .slice (some ⟨gc, 0, none⟩) D.C.length yC, .slice (some ⟨hk, 0, none⟩) D.K.length yK, .int .i64 (D.n), .slice xF D.F.length yF]) Try.results14 (by rfl) (by rfl) (by rfl) H1.out Try.underlying29 rfl (by kernel_rfl)) rfl ?_
          rw [HOK.out.1, HOK.out.2.1, HOK.out.2.2]
          exact rAct_of H2.out (by rw [hbe]; exact H3.out) rfl
      · have hcs : decide (s < 0) = true ∨ (decide (s < 0) = false ∧ decide ((D.S.length : Int) ≤ s) = true) := by
          by_cases h : s < 0
          · exact .inl (decide_eq_true h)
          · exact .inr ⟨decide_eq_false h, decide_eq_true (by omega)⟩
        have hn : ¬ (0 ≤ s ∧ s < (D.S.length : Int)) := hs0
        rcases hcs with s1 | ⟨s1, s2⟩
        · have HX : Hid (doD D (i : Int) ⟨3, s, t, key⟩ = D ∧ doS D (i : Int) ⟨3, s, t, key⟩ = ⟨#[]⟩ ∧ refE D (i : Int) ⟨3, s, t, key⟩ = 60) := do_is HHI.out (by simp [actE, HKE.out, h512]; omega) (by decide)
          obtain ⟨z0, z1, z2, z3, z4⟩ := five_cells r4
          obtain ⟨f0, f1, f2, f3, f4⟩ := five_free r4
          have H1 := Lib.hid (into5_range r4 rfl (.slice aS D.S.length cS) (.slice aC D.C.length cC) (.slice (some ⟨gk, 0, none⟩) D.K.length cK) D.n (.slice aF D.F.length cF))
          have H2 := Lib.hid (into5_other hO4 r4 (by decide) (by decide) (by decide) (by decide) (.slice aS D.S.length cS) (.slice aC D.C.length cC) (.slice (some ⟨gk, 0, none⟩) D.K.length cK) D.n (.slice aF D.F.length cF))
          have H3 := Lib.hid (into5_below hb4 (show b ≤ b + 1 + 1 by omega) (.slice aS D.S.length cS) (.slice aC D.C.length cC) (.slice (some ⟨gk, 0, none⟩) D.K.length cK) D.n (.slice aF D.F.length cF))
          clear hO4 p4 m4 r4 hb4
          go_wp2_with fail
          refine bodyPost_ret (results_c3 (cs := [.slice aS D.S.length cS, .slice aC D.C.length cC, .slice (some ⟨gk, 0, none⟩) D.K.length cK, .int .i64 D.n, .slice aF D.F.length cF]) Try.results14 (by rfl) (by rfl) (by rfl) H1.out Try.underlying29 rfl (by kernel_rfl)) rfl ?_
          rw [HX.out.1, HX.out.2.1, HX.out.2.2]
          exact rAct_of H2.out (by rw [hbe]; exact H3.out) rfl
        · have HX : Hid (doD D (i : Int) ⟨3, s, t, key⟩ = D ∧ doS D (i : Int) ⟨3, s, t, key⟩ = ⟨#[]⟩ ∧ refE D (i : Int) ⟨3, s, t, key⟩ = 60) := do_is HHI.out (by simp [actE, HKE.out, h512]; omega) (by decide)
          obtain ⟨z0, z1, z2, z3, z4⟩ := five_cells r4
          obtain ⟨f0, f1, f2, f3, f4⟩ := five_free r4
          have H1 := Lib.hid (into5_range r4 rfl (.slice aS D.S.length cS) (.slice aC D.C.length cC) (.slice (some ⟨gk, 0, none⟩) D.K.length cK) D.n (.slice aF D.F.length cF))
          have H2 := Lib.hid (into5_other hO4 r4 (by decide) (by decide) (by decide) (by decide) (.slice aS D.S.length cS) (.slice aC D.C.length cC) (.slice (some ⟨gk, 0, none⟩) D.K.length cK) D.n (.slice aF D.F.length cF))
          have H3 := Lib.hid (into5_below hb4 (show b ≤ b + 1 + 1 by omega) (.slice aS D.S.length cS) (.slice aC D.C.length cC) (.slice (some ⟨gk, 0, none⟩) D.K.length cK) D.n (.slice aF D.F.length cF))
          clear hO4 p4 m4 r4 hb4
          go_wp2_with fail
          refine bodyPost_ret (results_c3 (cs := [.slice aS D.S.length cS, .slice aC D.C.length cC, .slice (some ⟨gk, 0, none⟩) D.K.length cK, .int .i64 D.n, .slice aF D.F.length cF]) Try.results14 (by rfl) (by rfl) (by rfl) H1.out Try.underlying29 rfl (by kernel_rfl)) rfl ?_
          rw [HX.out.1, HX.out.2.1, HX.out.2.2]
          exact rAct_of H2.out (by rw [hbe]; exact H3.out) rfl

end Go.Proofs.Ytleemgjbihdbgaa

/-
  The document's device: an act, kind by kind: by contract. (flushing)
-/
namespace Go.Proofs.Ytleemgjbihdbgaa
open Go.RowKit
set_option linter.unusedVariables false
set_option linter.unusedSimpArgs false

set_option maxRecDepth 100000 in
set_option maxHeartbeats 1000000 in
theorem refDo4 (B : Nat) (vS vC vK vF : Value) (f : Nat → Value) (D : Dev) (i : Nat) (s : Int) (t : ByteArray) (key : Int) (w : World) (hO : OwnD w B vS vC vK vF f D) (hB : B ≤ w.heap.size) (hm : MayD D) (hS : Small D 1099511627776) (hi : i < D.K.length) (ha : ActBd ⟨4, s, t, key⟩) (htm : t.size ≤ maxLen) :
    Calls Try.prog 14 #[.agg #[vS, vC, vK, .int .i64 D.n, vF], .int .i64 (i : Int), .agg #[.int .i8 4, .int .i64 s, .string t, .int .i64 key]] w (RAct B (doD D (i : Int) ⟨4, s, t, key⟩) (doS D (i : Int) ⟨4, s, t, key⟩) (refE D (i : Int) ⟨4, s, t, key⟩) w) := by
  obtain ⟨aS, cS, aC, cC, aK, cK, aF, cF, rfl, rfl, rfl, rfl⟩ := own_shapes hO
  obtain ⟨gk, capk, hgk, hgkB, hgkl, _, _⟩ := own_key hO hi
  obtain ⟨rfl, rfl⟩ : aK = some ⟨gk, 0, none⟩ ∧ cK = capk := by injection hgk with e1 _ e2; exact ⟨e1, e2⟩
  clear hgk
  obtain ⟨W0, hW⟩ : ∃ W0, W0 = ((w.alloc (.cells #[.slice aS D.S.length cS, .slice aC D.C.length cC, .slice (some ⟨gk, 0, none⟩) D.K.length cK, .int .i64 D.n, .slice aF D.F.length cF] 29)).alloc (.cells #[.int .i8 4, .int .i64 s, .string t, .int .i64 key] 38)).alloc (.cells #[.slice none 0 0, .slice none 0 0, .slice none 0 0, .int .i64 0, .slice none 0 0] 29) := ⟨_, rfl⟩
  obtain ⟨b, hbe⟩ : ∃ b, w.heap.size = b := ⟨_, rfl⟩
  have hb0 : Below b w W0 := by rw [hW]; exact (((Below.refl _ _).alloc (by omega) _).alloc (by simp; omega) _).alloc (by simp; omega) _
  have p0 : Blk W0 b #[.slice aS D.S.length cS, .slice aC D.C.length cC, .slice (some ⟨gk, 0, none⟩) D.K.length cK, .int .i64 D.n, .slice aF D.F.length cF] 29 := by rw [hW, ← hbe]; exact ((Blk.new w _ _).alloc _).alloc _
  have m0 : Blk W0 (b + 1) #[.int .i8 4, .int .i64 s, .string t, .int .i64 key] 38 := by
    have h1 := (Blk.new (w.alloc (.cells #[.slice aS D.S.length cS, .slice aC D.C.length cC, .slice (some ⟨gk, 0, none⟩) D.K.length cK, .int .i64 D.n, .slice aF D.F.length cF] 29)) #[.int .i8 4, .int .i64 s, .string t, .int .i64 key] 38).alloc (.cells #[.slice none 0 0, .slice none 0 0, .slice none 0 0, .int .i64 0, .slice none 0 0] 29)
    rw [hW, ← hbe]
    simpa using h1
  have r0 : Blk W0 (b + 1 + 1) #[.slice none 0 0, .slice none 0 0, .slice none 0 0, .int .i64 0, .slice none 0 0] 29 := by
    have h1 := Blk.new ((w.alloc (.cells #[.slice aS D.S.length cS, .slice aC D.C.length cC, .slice (some ⟨gk, 0, none⟩) D.K.length cK, .int .i64 D.n, .slice aF D.F.length cF] 29)).alloc (.cells #[.int .i8 4, .int .i64 s, .string t, .int .i64 key] 38)) #[.slice none 0 0, .slice none 0 0, .slice none 0 0, .int .i64 0, .slice none 0 0] 29
    rw [hW, ← hbe]
    simpa using h1
  have hO0 := hO.up (hbe ▸ hb0)
  have hsz : W0.heap.size = b + 3 := by rw [hW, ← hbe]; simp
  have hc := refCheck_yes _ D W0 hO0.dev hm hS.s
  have HCK := Lib.hid hm.ck
  have HBB : Hid (B ≤ b) := hbe ▸ hB
  have HSS := Lib.hid hS
  have HMM := Lib.hid hm
  have HHI := Lib.hid hi
  have HAB := Lib.hid ha
  unfold maxLen at htm
  clear hO hm hB ha
  obtain ⟨q0, q1, q2, q3, q4⟩ := five_cells p0
  obtain ⟨y0, y1, y2, y3⟩ := act_cells m0
  have t1 : decide ((i : Int) < 0) = false := decide_eq_false (by omega)
  have t2 : decide ((D.K.length : Int) ≤ (i : Int)) = false := decide_eq_false (by omega)
  go_enter Try.func14, Try.ntmps14
  go_wp2_with fail
  rw [← hW]
  clear hW
  refine hc.mono ?_
  rintro e w1 ⟨rfl, hc1⟩
  have p1 := p0.below hc1 p0.lt
  have m1 := m0.below hc1 m0.lt
  have r1 := r0.below hc1 r0.lt
  have hO1 := hO0.up hc1
  have hs1 := hc1.size
  have hb1 := hb0.trans (hc1.mono (by omega))
  clear q0 q1 q2 q3 q4 y0 y1 y2 y3 p0 m0 r0 hb0 hO0 hc1 hc
  obtain ⟨q0, q1, q2, q3, q4⟩ := five_cells p1
  obtain ⟨y0, y1, y2, y3⟩ := act_cells m1
  have hkc : w1.cell? ⟨gk, i, none⟩ = some (.int .i64 (D.K[i]'hi)) := by
    rw [hO1.k.cellAt i (by omega), List.getElem?_map, List.getElem?_eq_getElem hi]
    rfl
  obtain ⟨F, hF⟩ : ∃ F, fencedK D (D.K[i]'hi) = F := ⟨_, rfl⟩
  have HFE : Hid (fencedAny D.F [D.K[i]'hi] = F) := (fencedAny_one D _).trans hF
  have HKE : Hid (fencedK D (keyOf D i) = F) := by show _ = _; unfold keyOf; rw [List.getD, List.getElem?_eq_getElem hi]; exact hF
  clear hF
  obtain ⟨WA, hWA⟩ : ∃ WA, WA = (w1.alloc (.cells #[.int .i64 (D.K[i]'hi)] 3)).drew := ⟨_, rfl⟩
  have hbA : Below w1.heap.size w1 WA := by rw [hWA]; exact (below_alloc w1 _).drew
  have hgl : gk < w1.heap.size := by omega
  have hkeep : ∀ wx : World, Below w1.heap.size w1 wx → (wx.cell? ⟨b, 0, none⟩ = some (.slice aS D.S.length cS) ∧ wx.cell? ⟨b, 1, none⟩ = some (.slice aC D.C.length cC) ∧ wx.cell? ⟨b, 2, none⟩ = some (.slice (some ⟨gk, 0, none⟩) D.K.length cK) ∧ wx.cell? ⟨b, 3, none⟩ = some (.int .i64 D.n) ∧ wx.cell? ⟨b, 4, none⟩ = some (.slice aF D.F.length cF) ∧ wx.cell? ⟨gk, i, none⟩ = some (.int .i64 (D.K[i]'hi)) ∧ wx.cell? ⟨b + 1, 0, none⟩ = some (.int .i8 4)) := fun wx hx => by
    obtain ⟨n0, n1, n2, n3, n4⟩ := five_cells (p1.below hx p1.lt)
    exact ⟨n0, n1, n2, n3, n4, (hx.cell (p := ⟨gk, i, none⟩) hgl).trans hkc, (m1.below hx m1.lt).cell 0 _ rfl⟩
  have HWA0 : Hid (((w1.alloc (.cells #[.int .i64 (D.K[i]'hi)] 3)).drew).cell? ⟨b, 0, none⟩ = some (.slice aS D.S.length cS) ∧ ((w1.alloc (.cells #[.int .i64 (D.K[i]'hi)] 3)).drew).cell? ⟨b, 1, none⟩ = some (.slice aC D.C.length cC) ∧ ((w1.alloc (.cells #[.int .i64 (D.K[i]'hi)] 3)).drew).cell? ⟨b, 2, none⟩ = some (.slice (some ⟨gk, 0, none⟩) D.K.length cK) ∧ ((w1.alloc (.cells #[.int .i64 (D.K[i]'hi)] 3)).drew).cell? ⟨b, 3, none⟩ = some (.int .i64 D.n) ∧ ((w1.alloc (.cells #[.int .i64 (D.K[i]'hi)] 3)).drew).cell? ⟨b, 4, none⟩ = some (.slice aF D.F.length cF) ∧ ((w1.alloc (.cells #[.int .i64 (D.K[i]'hi)] 3)).drew).cell? ⟨gk, i, none⟩ = some (.int .i64 (D.K[i]'hi)) ∧ ((w1.alloc (.cells #[.int .i64 (D.K[i]'hi)] 3)).drew).cell? ⟨b + 1, 0, none⟩ = some (.int .i8 4)) := hkeep _ ((below_alloc w1 _).drew)
  have hlA : Lies WA WA.heap.size (some ⟨w1.heap.size, 0, none⟩) 1 ([D.K[i]'hi].map (Value.int .i64)) := by
    have h : WA.ownsRow w1.heap.size 3 1 (.slice (some ⟨w1.heap.size, 0, none⟩) 1 1) 1 [.int .i64 (D.K[i]'hi)] := by rw [hWA]; exact own_up (World.ownsRow_lit w1 #[.int .i64 (D.K[i]'hi)] 1 (Nat.le_refl _) (by decide) rfl) ((Below.refl _ _).drew)
    exact Lies.of_own h
  have hcall := refFenced_any _ D (some ⟨w1.heap.size, 0, none⟩) 1 1 [D.K[i]'hi] WA (hO1.up hbA).dev hlA rfl (by decide)
  rw [HFE.out] at hcall
  have i0 : (0 : Int) ≤ (i : Int) := by omega
  have i2 : (i : Int) < (D.K.length : Int) := by omega
  clear hlA
  go_wp2_with fail
  refine wp_region_held_drew (S := (fun w' => w'.cell? ⟨b, 0, none⟩ = some (.slice aS D.S.length cS) ∧ w'.cell? ⟨b, 1, none⟩ = some (.slice aC D.C.length cC) ∧ w'.cell? ⟨b, 2, none⟩ = some (.slice (some ⟨gk, 0, none⟩) D.K.length cK) ∧ w'.cell? ⟨b, 3, none⟩ = some (.int .i64 D.n) ∧ w'.cell? ⟨b, 4, none⟩ = some (.slice aF D.F.length cF) ∧ w'.cell? ⟨gk, i, none⟩ = some (.int .i64 (D.K[i]'hi)) ∧ w'.cell? ⟨b + 1, 0, none⟩ = some (.int .i8 4))) (by kernel_rfl) ?_ (fun hHeld => ?_)
  focus (exact ⟨q0, q1, q2, q3, q4, hkc, y0⟩)
  refine wpAnyH_take (i := 0) (oi := ⟨some 78, _, _, _, _, _⟩) (v := ?_) rfl (by kernel_rfl) (by kernel_rfl) (by kernel_rfl) (fun _ _ _ h => h) (Or.inl ⟨by rfl, ?_⟩) (by assumption) ?_
  rotate_left
  focus (intro wq hSq; (try dsimp only at hSq); go_simp; try with_reducible rfl)
  try simp only [Act.put, List.setIfInBounds_toArray, List.set_cons_zero, List.set_cons_succ]
  refine wpAnyH_take (i := 1) (oi := ⟨some 79, _, _, _, _, _⟩) (v := ?_) rfl (by kernel_rfl) (by kernel_rfl) (by kernel_rfl) (fun _ _ _ h => h) (Or.inl ⟨by rfl, ?_⟩) (by assumption) ?_
  rotate_left
  focus (intro wq hSq; (try dsimp only at hSq); go_simp; try with_reducible rfl)
  try simp only [Act.put, List.setIfInBounds_toArray, List.set_cons_zero, List.set_cons_succ]
  refine wpAnyH_take (i := 2) (oi := ⟨some 80, _, _, _, _, _⟩) (v := ?_) rfl (by kernel_rfl) (by kernel_rfl) (by kernel_rfl) (fun _ _ _ h => h) (Or.inl ⟨by rfl, ?_⟩) (by assumption) ?_
  rotate_left
  focus (intro wq hSq; (try dsimp only at hSq); go_simp; try with_reducible rfl)
  try simp only [Act.put, List.setIfInBounds_toArray, List.set_cons_zero, List.set_cons_succ]
  refine wpAnyH_take (i := 3) (oi := ⟨some 81, _, _, _, _, _⟩) (v := ?_) rfl (by kernel_rfl) (by kernel_rfl) (by kernel_rfl) (fun _ _ _ h => h) (Or.inl ⟨by rfl, ?_⟩) (by assumption) ?_
  rotate_left
  focus (intro wq hSq; (try dsimp only at hSq); go_simp; try with_reducible rfl)
  try simp only [Act.put, List.setIfInBounds_toArray, List.set_cons_zero, List.set_cons_succ]
  refine wpAnyH_take (i := 4) (oi := ⟨some 82, _, _, _, _, _⟩) (v := ?_) rfl (by kernel_rfl) (by kernel_rfl) (by kernel_rfl) (fun _ _ _ h => h) (Or.inl ⟨by rfl, ?_⟩) (by assumption) ?_
  rotate_left
  focus (intro wq hSq; (try dsimp only at hSq); go_simp; try with_reducible rfl)
  try simp only [Act.put, List.setIfInBounds_toArray, List.set_cons_zero, List.set_cons_succ]
  refine wpAnyH_take (i := 5) (oi := ⟨some 83, _, _, _, _, _⟩) (v := ?_) rfl (by kernel_rfl) (by kernel_rfl) (by kernel_rfl) (fun _ _ _ h => h) (Or.inl ⟨by rfl, ?_⟩) (by assumption) ?_
  rotate_left
  focus (intro wq hSq; (try dsimp only at hSq); go_simp; try with_reducible rfl)
  try simp only [Act.put, List.setIfInBounds_toArray, List.set_cons_zero, List.set_cons_succ]
  refine wpAnyH_take (i := 6) (oi := ⟨some 84, _, _, _, _, _⟩) (v := ?_) rfl (by kernel_rfl) (by kernel_rfl) (by kernel_rfl) (fun _ _ _ h => h) (Or.inl ⟨by rfl, ?_⟩) (by assumption) ?_
  rotate_left
  focus (intro wq hSq; (try dsimp only at hSq); go_simp; try with_reducible rfl)
  try simp only [Act.put, List.setIfInBounds_toArray, List.set_cons_zero, List.set_cons_succ]
  refine wpAnyH_take (i := 7) (oi := ⟨some 85, _, _, _, _, _⟩) (v := ?_) rfl (by kernel_rfl) (by kernel_rfl) (by kernel_rfl) (fun _ _ _ h => h) (Or.inl ⟨by rfl, ?_⟩) (by assumption) ?_
  rotate_left
  focus (intro wq hSq; (try dsimp only at hSq); go_simp; try with_reducible rfl)
  try simp only [Act.put, List.setIfInBounds_toArray, List.set_cons_zero, List.set_cons_succ]
  refine wpAnyH_take (i := 8) (oi := ⟨some 86, _, _, _, _, _⟩) (v := ?_) rfl (by kernel_rfl) (by kernel_rfl) (by kernel_rfl) (fun _ _ _ h => h) (Or.inl ⟨by rfl, ?_⟩) (by assumption) ?_
  rotate_left
  focus (intro wq hSq; (try dsimp only at hSq); go_simp; try with_reducible rfl)
  try simp only [Act.put, List.setIfInBounds_toArray, List.set_cons_zero, List.set_cons_succ]
  refine wpAnyH_take (i := 9) (oi := ⟨some 87, _, _, _, _, _⟩) (v := ?_) rfl (by kernel_rfl) (by kernel_rfl) (by kernel_rfl) (fun _ _ _ h => h) (Or.inl ⟨by rfl, ?_⟩) (by assumption) ?_
  rotate_left
  focus (intro wq hSq; (try dsimp only at hSq); go_simp; try with_reducible rfl)
  try simp only [Act.put, List.setIfInBounds_toArray, List.set_cons_zero, List.set_cons_succ]
  refine wpAnyH_ready (rs := [10]) (by kernel_rfl) (by simp) ?_
  refine AllReadyH.cons (o := ⟨some 88, _, _, _, _, _⟩) rfl (fun K hK => ?_) AllReadyH.nil
  go_simp
  refine hK.out _ _ ?_ (fun hHeld => ?_)
  focus (exact HWA0.out)
  clear hK K
  try simp only [Act.put, List.setIfInBounds_toArray, List.set_cons_zero, List.set_cons_succ]
  rw [← hWA]
  clear hWA HWA0
  refine wpAnyH_ready (rs := [11]) (by kernel_rfl) (by simp) ?_
  refine AllReadyH.cons (o := ⟨some 89, _, _, _, _, _⟩) rfl (fun K hK => ?_) AllReadyH.nil
  go_simp
  refine hcall.mono ?_
  rintro e w4 ⟨rfl, hb4⟩
  have hc4 := hbA.trans (hb4.mono hbA.size)
  have HS4 := Lib.hid (hkeep w4 hc4)
  clear hcall hb4 hbA hkeep
  go_wp2_with fail
  refine hK.out _ _ ?_ (fun hHeld => ?_)
  focus (exact HS4.out)
  clear hK K
  try simp only [Act.put, List.setIfInBounds_toArray, List.set_cons_zero, List.set_cons_succ]
  refine wpAnyH_take (i := 12) (oi := ⟨some 90, _, _, _, _, _⟩) (v := ?_) rfl (by kernel_rfl) (by kernel_rfl) (by kernel_rfl) (fun _ _ _ h => h) (Or.inl ⟨by rfl, ?_⟩) (by assumption) ?_
  rotate_left
  focus (intro wq hSq; (try dsimp only at hSq); go_simp; try with_reducible rfl)
  try simp only [Act.put, List.setIfInBounds_toArray, List.set_cons_zero, List.set_cons_succ]
  refine wpAnyH_done (by kernel_rfl) ?_ _
  clear HS4 hkc
  have p4 := p1.below hc4 p1.lt
  have m4 := m1.below hc4 m1.lt
  have r4 := r1.below hc4 r1.lt
  have hO4 := hO1.up hc4
  have hs4 := hc4.size
  have hb4 := hb1.trans (hc4.mono (by omega))
  clear q0 q1 q2 q3 q4 y0 y1 y2 y3 p1 m1 r1 hb1 hO1 hc4
  obtain ⟨q0, q1, q2, q3, q4⟩ := five_cells p4
  obtain ⟨y0, y1, y2, y3⟩ := act_cells m4
  cases F with
  | true =>
    have HX : Hid (doD D (i : Int) ⟨4, s, t, key⟩ = D ∧ doS D (i : Int) ⟨4, s, t, key⟩ = ⟨#[]⟩ ∧ refE D (i : Int) ⟨4, s, t, key⟩ = 61) := do_is HHI.out (by simp [actE, HKE.out]) (by decide)
    obtain ⟨z0, z1, z2, z3, z4⟩ := five_cells r4
    obtain ⟨f0, f1, f2, f3, f4⟩ := five_free r4
    have H1 := Lib.hid (into5_range r4 rfl (.slice aS D.S.length cS) (.slice aC D.C.length cC) (.slice (some ⟨gk, 0, none⟩) D.K.length cK) D.n (.slice aF D.F.length cF))
    have H2 := Lib.hid (into5_other hO4 r4 (by decide) (by decide) (by decide) (by decide) (.slice aS D.S.length cS) (.slice aC D.C.length cC) (.slice (some ⟨gk, 0, none⟩) D.K.length cK) D.n (.slice aF D.F.length cF))
    have H3 := Lib.hid (into5_below hb4 (show b ≤ b + 1 + 1 by omega) (.slice aS D.S.length cS) (.slice aC D.C.length cC) (.slice (some ⟨gk, 0, none⟩) D.K.length cK) D.n (.slice aF D.F.length cF))
    clear hO4 p4 m4 r4 hb4
    go_wp2_with fail
    refine bodyPost_ret (results_c3 (cs := [.slice aS D.S.length cS, .slice aC D.C.length cC, .slice (some ⟨gk, 0, none⟩) D.K.length cK, .int .i64 D.n, .slice aF D.F.length cF]) Try.results14 (by rfl) (by rfl) (by rfl) H1.out Try.underlying29 rfl (by kernel_rfl)) rfl ?_
    rw [HX.out.1, HX.out.2.1, HX.out.2.2]
    exact rAct_of H2.out (by rw [hbe]; exact H3.out) rfl
  | false =>
    have HOK : Hid (doD D (i : Int) ⟨4, s, t, key⟩ = flushD D i ∧ doS D (i : Int) ⟨4, s, t, key⟩ = ⟨#[]⟩ ∧ refE D (i : Int) ⟨4, s, t, key⟩ = 0) := by
      have h0 : actE D i ⟨4, s, t, key⟩ = 0 := by simp [actE, HKE.out]
      obtain ⟨h1, h2, h3⟩ := do_ok HHI.out h0
      refine ⟨?_, ?_, h3⟩
      · rw [h1]; simp [actD, h0]
      · rw [h2]; simp [actS, h0]
    have hcp := refCopied_any _ D w4 hO4.dev HSS.out
    have HOUTN : Hid (B ≤ w4.heap.size ∧ b + 3 ≤ w4.heap.size) := by have := HBB.out; show _ ∧ _; omega
    go_wp2_with fail
    refine hcp.mono ?_
    rintro e w5 ⟨uS, uC, uK, uF, g, rfl, hN5, hc5⟩
    clear hcp
    obtain ⟨xS, yS, xC, yC, xK, yK, xF, yF, rfl, rfl, rfl, rfl⟩ := own_shapes hN5
    have hic : i < D.C.length := by have := HCK.out; omega
    obtain ⟨gc, capc, a, c, hgc, hgi, hgcB, hgcl, hcc, hcf, hlc, hcm⟩ := own_cache hN5 hic
    obtain ⟨rfl, rfl⟩ : xC = some ⟨gc, 0, none⟩ ∧ yC = capc := by injection hgc with e1 _ e2; exact ⟨e1, e2⟩
    obtain ⟨hk, caph, hhk, hhkB, hhkl, _, _⟩ := own_key hN5 hi
    obtain ⟨rfl, rfl⟩ : xK = some ⟨hk, 0, none⟩ ∧ yK = caph := by injection hhk with e1 _ e2; exact ⟨e1, e2⟩
    clear hgc hhk
    have p5 := p4.below hc5 p4.lt
    have m5 := m4.below hc5 m4.lt
    have r5 := r4.below hc5 r4.lt
    have hO5 := hO4.up hc5
    have hs5 := hc5.size
    have hb5 := hb4.trans (hc5.mono (by omega))
    clear q0 q1 q2 q3 q4 y0 y1 y2 y3 p4 m4 r4 hb4 hO4 hc5
    obtain ⟨q0, q1, q2, q3, q4⟩ := five_cells p5
    obtain ⟨y0, y1, y2, y3⟩ := act_cells m5
    obtain ⟨w6, hw6⟩ : ∃ W, W = w5.alloc (.cells #[.slice xS D.S.length yS, .slice (some ⟨gc, 0, none⟩) D.C.length yC, .slice (some ⟨hk, 0, none⟩) D.K.length yK, .int .i64 D.n, .slice xF D.F.length yF] 29) := ⟨_, rfl⟩
    have hc6 : Below w5.heap.size w5 w6 := hw6 ▸ below_alloc w5 _
    have R6 : Blk w6 w5.heap.size #[.slice xS D.S.length yS, .slice (some ⟨gc, 0, none⟩) D.C.length yC, .slice (some ⟨hk, 0, none⟩) D.K.length yK, .int .i64 D.n, .slice xF D.F.length yF] 29 := hw6 ▸ Blk.new w5 _ _
    have hN6 := hN5.up hc6
    have hcc6 : w6.cell? ⟨gc, i, none⟩ = some (.slice a (cacheOf D i).length c) := (hc6.cell (p := ⟨gc, i, none⟩) hgcl).trans hcc
    have hcf6 : w6.frozen? ⟨gc, i, none⟩ = false := hN6.c.frozenAt i
    have HR6 : Hid (w5.heap.size < w6.heap.size) := by show _ < _; rw [hw6]; simp
    have HGI := Lib.hid hgi
    have HGC : Hid (w4.heap.size ≤ gc ∧ gc < w5.heap.size) := ⟨hgcB, hgcl⟩
    have HHK : Hid (w4.heap.size ≤ hk ∧ hk < w5.heap.size) := ⟨hhkB, hhkl⟩
    have HMC := Lib.hid hcm
    have HLC0 := hlc
    obtain ⟨l, hl⟩ : ∃ l, cacheOf D i = l := ⟨_, rfl⟩
    have HL := Lib.hid hl
    have HCO : Hid (CacheOk l D.S.length) := by show CacheOk l _; rw [← hl]; exact cache_ok HMM.out i
    rw [hl] at hcc hcc6 hlc HGI
    obtain ⟨nl, hnl⟩ : ∃ n, l.length = n := ⟨_, rfl⟩
    have HN := Lib.hid hnl
    rw [hnl] at hcc hcc6 hlc HGI
    have hA6 : Lies w6 w6.heap.size a (nl * 2) (celV l) := by
      have h := hN6.cs i hic
      rw [HGI.out, show D.C.getD i [] = l from HL.out, HN.out] at h
      exact lies_own2 h
    have hpl := refPlace_any a nl c l s w6.heap.size w6 hA6 HN.out (by have := HMC.out; omega)
    have HS2 : Hid (nl ≤ 1099511627776) := by
      show nl ≤ _
      rw [← HN.out, ← HL.out]
      exact HSS.out.cs _ (by unfold cacheOf; rw [List.getD, List.getElem?_eq_getElem hic]; exact List.getElem_mem hic)
    have i0 : (0 : Int) ≤ (i : Int) := by omega
    have i1 : (i : Int) < (D.C.length : Int) := by omega
    have hcl := hgcl
    have hbl1 : b + 1 < w5.heap.size := by have := HOUTN.out; omega
    have hbl2 : b + 1 + 1 < w5.heap.size := by have := HOUTN.out; omega
    have HLC := Lib.hid hlc
    clear hl hnl hgi hcf hN5 hcm hlc HLC0
    go_wp2_with fail
    rw [← hw6]
    refine hpl.mono ?_
    rintro e w7 ⟨rfl, rfl⟩
    clear hpl hcc hw6 hcl hgcB hgcl hhkB hhkl
    have p6 := p5.below hc6 p5.lt
    have m6 := m5.below hc6 m5.lt
    have r6 := r5.below hc6 r5.lt
    have hO6 := hO5.up hc6
    have hs6 := hc6.size
    have hb6 := hb5.trans (hc6.mono (by omega))
    clear q0 q1 q2 q3 q4 y0 y1 y2 y3 p5 m5 r5 hb5 hO5 hc6
    obtain ⟨q0, q1, q2, q3, q4⟩ := five_cells p6
    obtain ⟨y0, y1, y2, y3⟩ := act_cells m6
    cases l with
    | nil =>
      obtain rfl : nl = 0 := HN.out.symm
      have HFL : Hid (flushD D i = D) := by show _ = _; unfold flushD; rw [HL.out]
      rw [HFL.out] at HOK
      obtain ⟨x0, x1, x2, x3, x4⟩ := five_cells R6
      obtain ⟨z0, z1, z2, z3, z4⟩ := five_cells r6
      obtain ⟨f0, f1, f2, f3, f4⟩ := five_free r6
      have H1 := Lib.hid (into5_range r6 rfl (.slice xS D.S.length yS) (.slice (some ⟨gc, 0, none⟩) D.C.length yC) (.slice (some ⟨hk, 0, none⟩) D.K.length yK) (D.n) (.slice xF D.F.length yF))
      have H2 := Lib.hid (OwnD.less (B' := B) (into5_other hN6 r6 (by decide) (by decide) (by decide) (by decide) (.slice xS D.S.length yS) (.slice (some ⟨gc, 0, none⟩) D.C.length yC) (.slice (some ⟨hk, 0, none⟩) D.K.length yK) (D.n) (.slice xF D.F.length yF)) (by have := HOUTN.out; omega))
      have H3 := Lib.hid (into5_below hb6 (show b ≤ b + 1 + 1 by omega) (.slice xS D.S.length yS) (.slice (some ⟨gc, 0, none⟩) D.C.length yC) (.slice (some ⟨hk, 0, none⟩) D.K.length yK) (D.n) (.slice xF D.F.length yF))
      clear R6 r6 hb6 hN6 
      go_wp2_with fail
      refine bodyPost_ret (results_c3 (cs := [.slice xS D.S.length yS, .slice (some ⟨gc, 0, none⟩) D.C.length yC, .slice (some ⟨hk, 0, none⟩) D.K.length yK, .int .i64 (D.n), .slice xF D.F.length yF]) Try.results14 (by rfl) (by rfl) (by rfl) H1.out Try.underlying29 rfl (by kernel_rfl)) rfl ?_
      rw [HOK.out.1, HOK.out.2.1, HOK.out.2.2]
      exact rAct_of H2.out (by rw [hbe]; exact H3.out) rfl
    | cons c0 rest =>
      obtain ⟨x1, xt⟩ := c0
      obtain ⟨hx0, hx1, -⟩ := HCO.out.a (x1, xt) (by simp)
      simp only at hx0 hx1
      obtain ⟨s', rfl⟩ := Int.eq_ofNat_of_zero_le hx0
      have hsl : s' < D.S.length := by omega
      have HNL : Hid (nl = rest.length + 1) := HN.out.symm
      have HFL : Hid (flushD D i = { D with S := D.S.set s' xt, C := D.C.set i rest }) := by show _ = _; unfold flushD; rw [HL.out]; rfl
      rw [HFL.out] at HOK
      have hcD : cacheOf D i = ((s' : Int), xt) :: rest := HL.out
      obtain ⟨ga, c', e2, hgaB, hgal, hd1, hd2, _⟩ := own_cell hN6 hic (k := 0) (by rw [hcD]; simp)
      simp only [hcD, List.getElem_cons_zero, Nat.zero_mul, Nat.zero_add] at hd1 hd2
      rw [HGI.out] at e2
      obtain ⟨rfl, rfl⟩ : a = some ⟨ga, 0, none⟩ ∧ c = c' := by injection e2 with e1 _ e2; exact ⟨e1, e2⟩
      obtain ⟨gs, caps, es, hgsB, hgsl, hds, hfs⟩ := own_sector hN6 hsl
      obtain ⟨rfl, rfl⟩ : xS = some ⟨gs, 0, none⟩ ∧ yS = caps := by injection es with e1 _ e2; exact ⟨e1, e2⟩
      have hg1 : gs ≠ ga := own_ne hN6.s (hN6.cs i hic) (by decide) rfl (by rw [HGI.out]; rfl)
      have hg2 : ga ≠ gs := fun e => hg1 e.symm
      have hg3 : w5.heap.size ≠ gs := own_blk hN6.s R6 (by decide) rfl
      have hg4 : gs ≠ w5.heap.size := fun e => hg3 e.symm
      have hg5 : b + 1 + 1 ≠ gs := by have := HOUTN.out; omega
      have hg6 : w5.heap.size ≠ gc := own_blk hN6.c R6 (by decide) rfl
      have hg7 : gc ≠ w5.heap.size := fun e => hg6 e.symm
      have hg8 : b + 1 + 1 ≠ gc := by have := HOUTN.out; have := HGC.out; omega
      have x0 : w6.cell? ⟨w5.heap.size, 0, none⟩ = some (.slice (some ⟨gs, 0, none⟩) D.S.length yS) := R6.cell 0 _ rfl
      have s0 : (0 : Int) ≤ (s' : Int) := by omega
      have s1 : (s' : Int) < (D.S.length : Int) := by omega
      have n0 : (0 : Int) < (nl : Int) := by have := HNL.out; omega
      -- behind the sector's store
      have hN7 := hN6.setS rfl s' xt
      have R7 := R6.other hg3 s' (.string xt)
      have r7 := r6.other hg5 s' (.string xt)
      have hb7 := hb6.setCell (p := ⟨gs, s', none⟩) (show b ≤ gs by have := HOUTN.out; omega) (.string xt)
      obtain ⟨w8, hw8⟩ : ∃ W, W = ((w6.setCell ⟨gs, s', none⟩ (.string xt)).drew).drew := ⟨_, rfl⟩
      have hdr : Below (w6.setCell ⟨gs, s', none⟩ (.string xt)).heap.size (w6.setCell ⟨gs, s', none⟩ (.string xt)) w8 := by rw [hw8]; exact (Below.refl _ _).drew.drew
      have hN8 := hN7.up hdr
      have R8 := R7.below hdr R7.lt
      have r8 := r7.below hdr r7.lt
      have hb8 : Below b w w8 := by rw [hw8]; exact hb7.drew.drew
      have hs8 : w6.heap.size = w8.heap.size := by rw [hw8]; simp
      have x8 : w8.cell? ⟨w5.heap.size, 1, none⟩ = some (.slice (some ⟨gc, 0, none⟩) D.C.length yC) := R8.cell 1 _ rfl
      have x8' : ((w6.setCell ⟨gs, s', none⟩ (.string xt)).drew).drew.cell? ⟨w5.heap.size, 1, none⟩ = some (.slice (some ⟨gc, 0, none⟩) D.C.length yC) := by rw [← hw8]; exact x8
      have hA8 : Lies w8 w8.heap.size (some ⟨ga, 0, none⟩) (nl * 2) (celV (((s' : Int), xt) :: rest)) := by
        have h := hN8.cs i hic
        rw [HGI.out, show D.C.getD i [] = ((s' : Int), xt) :: rest from HL.out, HN.out] at h
        exact lies_own2 h
      have hcw := refWithout_any ⟨ga, 0, none⟩ nl c w8.heap.size (((s' : Int), xt) :: rest) 0 1 (nl - 1) (c - 1) w8 hA8 HN.out HS2.out HLC.out HMC.out (Nat.le_refl _) (by have := HNL.out; omega) rfl rfl rfl
      rw [show ((0 : Nat) : Int) = 0 from rfl] at hcw
      have HS8 := Lib.hid hs8
      clear e2 es hN6 R6 r6 hb6 hN7 R7 r7 hb7 hdr hs8 hx0 hx1 hcD
      generalize D.S[s'] = tOld at *
      go_wp2_with fail
      go_region_held3 (fun w' => w'.cell? ⟨w5.heap.size, 0, none⟩ = some (.slice (some ⟨gs, 0, none⟩) D.S.length yS) ∧ w'.cell? ⟨ga, 0, none⟩ = some (.int .i64 (s' : Int)) ∧ w'.cell? ⟨ga, 1, none⟩ = some (.string xt)) (go_keep) (fail)
      go_wp2_with fail
      refine wp_region_held_drew (S := (fun w' => w'.cell? ⟨w5.heap.size, 1, none⟩ = some (.slice (some ⟨gc, 0, none⟩) D.C.length yC))) (by kernel_rfl) ?_ (fun hHeld => ?_)
      focus (exact x8')
      rw [← hw8]
      clear hw8 x8' q0 q1 q2 q3 q4 y0 y1 y2 y3
      refine wpAnyH_take (i := 0) (oi := ⟨some 198, _, _, _, _, _⟩) (v := ?_) rfl (by kernel_rfl) (by kernel_rfl) (by kernel_rfl) (fun _ _ _ h => h) (Or.inl ⟨by rfl, ?_⟩) (by assumption) ?_
      rotate_left
      focus (intro wq hSq; (try dsimp only at hSq); go_simp; try with_reducible rfl)
      try simp only [Act.put, List.setIfInBounds_toArray, List.set_cons_zero, List.set_cons_succ]
      refine wpAnyH_take (i := 1) (oi := ⟨some 199, _, _, _, _, _⟩) (v := ?_) rfl (by kernel_rfl) (by kernel_rfl) (by kernel_rfl) (fun _ _ _ h => h) (Or.inl ⟨by rfl, ?_⟩) (by assumption) ?_
      rotate_left
      focus (intro wq hSq; (try dsimp only at hSq); go_simp; try with_reducible rfl)
      try simp only [Act.put, List.setIfInBounds_toArray, List.set_cons_zero, List.set_cons_succ]
      refine wpAnyH_take (i := 2) (oi := ⟨some 200, _, _, _, _, _⟩) (v := ?_) rfl (by kernel_rfl) (by kernel_rfl) (by kernel_rfl) (fun _ _ _ h => h) (Or.inl ⟨by rfl, ?_⟩) (by assumption) ?_
      rotate_left
      focus (intro wq hSq; (try dsimp only at hSq); go_simp; try with_reducible rfl)
      try simp only [Act.put, List.setIfInBounds_toArray, List.set_cons_zero, List.set_cons_succ]
      refine wpAnyH_take (i := 3) (oi := ⟨some 201, _, _, _, _, _⟩) (v := ?_) rfl (by kernel_rfl) (by kernel_rfl) (by kernel_rfl) (fun _ _ _ h => h) (Or.inl ⟨by rfl, ?_⟩) (by assumption) ?_
      rotate_left
      focus (intro wq hSq; (try dsimp only at hSq); go_simp; try with_reducible rfl)
      try simp only [Act.put, List.setIfInBounds_toArray, List.set_cons_zero, List.set_cons_succ]
      refine wpAnyH_ready (rs := [4]) (by kernel_rfl) (by simp) ?_
      refine AllReadyH.cons (o := ⟨some 202, _, _, _, _, _⟩) rfl (fun K hK => ?_) AllReadyH.nil
      go_simp
      refine hcw.mono ?_
      rintro e w9 ⟨v', rfl, hu, hc9⟩
      clear hcw
      obtain ⟨A', c2, rfl, _, _⟩ := own_shape2 hu
      have hN9 := hN8.up hc9
      have R9 := R8.below hc9 R8.lt
      have r9 := r8.below hc9 r8.lt
      have hs9 := hc9.size
      have hb9 := hb8.trans (hc9.mono (by have := HS8.out; have := HR6.out; omega))
      have x9 : w9.cell? ⟨w5.heap.size, 1, none⟩ = some (.slice (some ⟨gc, 0, none⟩) D.C.length yC) := R9.cell 1 _ rfl
      obtain ⟨gc', capc', a', c'', hgc', _, _, hgcl', hcc9, hcf9, _, _⟩ := own_cache hN9 hic
      obtain ⟨rfl, rfl⟩ : gc = gc' ∧ yC = capc' := by injection hgc' with e1 _ e2; injection e1 with e1; injection e1 with e1; exact ⟨e1, e2⟩
      have hN10 := hN9.setC (l := rest) rfl hic (u := .slice A' (nl - 1) c2) (by rw [show rest.length = nl - 1 by have := HNL.out; omega]; exact own_less hu (by have := HS8.out; have := HR6.out; have := HOUTN.out; omega)) (by
        intro j x hj hjn h1 h2
        have z1 := (hu.lt x h1).1
        have z2 := ((hN8.cs j hj).lt x h2).2
        omega)
      have R10 := R9.other hg6 i (.slice A' (nl - 1) c2)
      have r10 := r9.other hg8 i (.slice A' (nl - 1) c2)
      have hb10 := hb9.setCell (p := ⟨gc, i, none⟩) (show b ≤ gc by have := HGC.out; have := HOUTN.out; omega) (.slice A' (nl - 1) c2)
      have x10 := R10.cell 1 _ rfl
      clear hgc' hN8 R8 r8 hb8 hN9 R9 r9 hb9 hc9 hu hA8
      go_wp2_with fail
      refine hK.out _ _ ?_ (fun hHeld => ?_)
      focus (exact x9)
      clear hK K
      try simp only [Act.put, List.setIfInBounds_toArray, List.set_cons_zero, List.set_cons_succ]
      refine wpAnyH_take (i := 5) (oi := ⟨some 203, _, _, _, _, _⟩) (v := ?_) rfl (by kernel_rfl) (by kernel_rfl) (by kernel_rfl) (fun _ _ _ h => h) (Or.inl ⟨by rfl, ?_⟩) (by assumption) ?_
      rotate_left
      focus (intro wq hSq; (try dsimp only at hSq); go_simp; try with_reducible rfl)
      try simp only [Act.put, List.setIfInBounds_toArray, List.set_cons_zero, List.set_cons_succ]
      refine wpAnyH_ready (rs := [6]) (by kernel_rfl) (by simp) ?_
      refine AllReadyH.cons (o := ⟨none, _, _, _, _, _⟩) rfl (fun K hK => ?_) AllReadyH.nil
      go_simp
      refine hK.out _ _ ?_ (fun hHeld => ?_)
      focus (exact x10)
      clear hK K
      try simp only [Act.put, List.setIfInBounds_toArray, List.set_cons_zero, List.set_cons_succ]
      refine wpAnyH_done (by kernel_rfl) ?_ _
      obtain ⟨x0, x1, x2, x3, x4⟩ := five_cells R10
      obtain ⟨z0, z1, z2, z3, z4⟩ := five_cells r10
      obtain ⟨f0, f1, f2, f3, f4⟩ := five_free r10
      have H1 := Lib.hid (into5_range r10 rfl (.slice (some ⟨gs, 0, none⟩) D.S.length yS) (.slice (some ⟨gc, 0, none⟩) D.C.length yC) (.slice (some ⟨hk, 0, none⟩) D.K.length yK) (D.n) (.slice xF D.F.length yF))
      have H2 := Lib.hid (OwnD.less (B' := B) (into5_other hN10 r10 (by decide) (by decide) (by decide) (by decide) (.slice (some ⟨gs, 0, none⟩) D.S.length yS) (.slice (some ⟨gc, 0, none⟩) D.C.length yC) (.slice (some ⟨hk, 0, none⟩) D.K.length yK) (D.n) (.slice xF D.F.length yF)) (by have := HOUTN.out; omega))
      have H3 := Lib.hid (into5_below hb10 (show b ≤ b + 1 + 1 by omega) (.slice (some ⟨gs, 0, none⟩) D.S.length yS) (.slice (some ⟨gc, 0, none⟩) D.C.length yC) (.slice (some ⟨hk, 0, none⟩) D.K.length yK) (D.n) (.slice xF D.F.length yF))
      clear R10 r10 hb10 hN10 
      go_wp2_with fail
      refine bodyPost_ret (results_c3 (cs := [.slice (some ⟨gs, 0, none⟩) D.S.length yS, .slice (some ⟨gc, 0, none⟩) D.C.length yC, .slice (some ⟨hk, 0, none⟩) D.K.length yK, .int .i64 (D.n), .slice xF D.F.length yF]) Try.results14 (by rfl) (by rfl) (by rfl) H1.out Try.underlying29 rfl (by kernel_rfl)) rfl ?_
      rw [HOK.out.1, HOK.out.2.1, HOK.out.2.2]
      exact rAct_of H2.out (by rw [hbe]; exact H3.out) rfl

end Go.Proofs.Ytleemgjbihdbgaa
