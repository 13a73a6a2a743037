/-
  table: (*working).apply: by contract.
-/
import Derived.Test.YtjknloaolennoaaJoinTabActsT
import Derived.Test.YtjknloaolennoaaHeldTo
import Derived.Laws.EntriesVeiled
namespace Go.Proofs.Ytjknloaolennoaa
open Go.RowKit
set_option linter.unusedVariables false
set_option linter.unusedSimpArgs false

set_option maxRecDepth 100000 in
set_option maxHeartbeats 4000000 in
theorem tapply0 (N S B P J L E T : Int) (base p : Nat) (aS : Option Addr) (nS cS : Nat) (aH : Option Addr) (nH cH : Nat) (aQ : Option Addr) (nQ cQ : Nat) (t : TabM) (cb cs cd ca cl ch cm : Int) (w : World) (hW : WorkAt N S B P J L E T w base p (.slice aS nS cS) (.slice aH nH cH) (.slice aQ nQ cQ) t) (hnS : t.sl.length = nS) (hnH : t.ho.length = nH) (hnQ : t.qu.length = nQ) (hn : nH + nQ < 1000000) (hlS : nS ≤ 1000000) :
    Calls Try.prog 19 #[.pointer (some ⟨p, 0, none⟩), .agg #[.int .i8 0, .int .i64 cb, .int .i64 cs, .int .i64 cd, .int .i64 ca, .int .i64 cl, .int .i64 ch, .int .i8 cm]] w fun e w' => ActsPost N S B P J L E T base p (mountO t cb) e w' ∧ Below base w w' := by
  have pc := Blk.new w #[.int .i8 0, .int .i64 cb, .int .i64 cs, .int .i64 cd, .int .i64 ca, .int .i64 cl, .int .i64 ch, .int .i8 cm] 36
  have b0 := new_alloc w (.cells #[.int .i8 0, .int .i64 cb, .int .i64 cs, .int .i64 cd, .int .i64 ca, .int .i64 cl, .int .i64 ch, .int .i8 cm] 36)
  have pf := Blk.new (w.alloc (.cells #[.int .i8 0, .int .i64 cb, .int .i64 cs, .int .i64 cd, .int .i64 ca, .int .i64 cl, .int .i64 ch, .int .i8 cm] 36)) #[.func (.func 30) #[] #[], .func (.func 31) #[] #[], .func (.func 32) #[] #[], .func (.func 33) #[] #[], .func (.func 34) #[] #[], .func (.func 35) #[] #[]] 70
  have b1 := new_alloc (w.alloc (.cells #[.int .i8 0, .int .i64 cb, .int .i64 cs, .int .i64 cd, .int .i64 ca, .int .i64 cl, .int .i64 ch, .int .i8 cm] 36)) (.cells #[.func (.func 30) #[] #[], .func (.func 31) #[] #[], .func (.func 32) #[] #[], .func (.func 33) #[] #[], .func (.func 34) #[] #[], .func (.func 35) #[] #[]] 70)
  have pc1 := pc.below b1 pc.lt
  have b01 := below_then b0 b1
  rw [one_next] at pf
  go_enter Try.func19, Try.ntmps19
  go_upto_region 4 with fail
  obtain ⟨W1, hW1⟩ : ∃ W, W = (w.alloc (.cells #[.int .i8 0, .int .i64 cb, .int .i64 cs, .int .i64 cd, .int .i64 ca, .int .i64 cl, .int .i64 ch, .int .i8 cm] 36)).alloc (.cells #[.func (.func 30) #[] #[], .func (.func 31) #[] #[], .func (.func 32) #[] #[], .func (.func 33) #[] #[], .func (.func 34) #[] #[], .func (.func 35) #[] #[]] 70) := ⟨_, rfl⟩
  rw [← hW1] at pf pc1 b01 ⊢
  clear hW1 pc b0 b1
  have HW := Lib.hid (hW.below b01)
  have hb := b01.mono hW.size
  obtain ⟨b, hbw⟩ : ∃ b, w.heap.size = b := ⟨_, rfl⟩
  rw [hbw] at pf pc1 ⊢
  clear hbw hW b01
  obtain ⟨V0, zV0⟩ : ∃ V, V = W1.drew := ⟨_, rfl⟩
  have up0 : Below W1.heap.size W1 V0 := zV0 ▸ (Below.refl _ _).drew
  have HWV := HW.out.below up0
  have hbV := hb.trans (up0.mono HW.out.size)
  have pcV := pc1.below up0 pc1.lt
  have pfV := pf.below up0 pf.lt
  have hHeld : (V0.cell? ⟨b, 0, none⟩ = some (.int .i8 0) ∧ V0.cell? ⟨b, 1, none⟩ = some (.int .i64 cb) ∧ V0.cell? ⟨b, 2, none⟩ = some (.int .i64 cs) ∧ V0.cell? ⟨b, 3, none⟩ = some (.int .i64 cd) ∧ V0.cell? ⟨b, 4, none⟩ = some (.int .i64 ca) ∧ V0.cell? ⟨b, 5, none⟩ = some (.int .i64 cl) ∧ V0.cell? ⟨b, 6, none⟩ = some (.int .i64 ch) ∧ V0.cell? ⟨b, 7, none⟩ = some (.int .i8 cm)) ∧ V0.cell? ⟨b + 1, 0, none⟩ = some (.func (.func 30) #[] #[]) := ⟨cmd_cells8 pcV, pfV.cell 0 _ rfl⟩
  have lc := pcV.lt
  have lf := pfV.lt
  have hact := Lib.hid (tmount_any N S B P J L E T base p aS nS cS aH nH cH aQ nQ cQ t 0 cb cs cd ca cl ch cm V0 HWV hnS hnH hnQ (by omega) hlS)
  refine wp_region_to (S := (fun X => (X.cell? ⟨b, 0, none⟩ = some (.int .i8 0) ∧ X.cell? ⟨b, 1, none⟩ = some (.int .i64 cb) ∧ X.cell? ⟨b, 2, none⟩ = some (.int .i64 cs) ∧ X.cell? ⟨b, 3, none⟩ = some (.int .i64 cd) ∧ X.cell? ⟨b, 4, none⟩ = some (.int .i64 ca) ∧ X.cell? ⟨b, 5, none⟩ = some (.int .i64 cl) ∧ X.cell? ⟨b, 6, none⟩ = some (.int .i64 ch) ∧ X.cell? ⟨b, 7, none⟩ = some (.int .i8 cm)) ∧ X.cell? ⟨b + 1, 0, none⟩ = some (.func (.func 30) #[] #[]))) 5 (by kernel_rfl) (by rw [← zV0]; exact hHeld) (fun _ => ?_)
  rw [← zV0]
  clear zV0 HW hb up0 pc1 pf HWV pcV pfV
  refine wpAnyM_takeA (i := 0) (oi := ⟨some 16, _, _, _, _, _⟩) (v := ?_) rfl (by kernel_rfl) (by kernel_rfl) (by kernel_rfl) (fun _ _ _ h => h) (by decide) (Or.inl ⟨by rfl, ?_⟩) (fun _ => hHeld) ?_
  rotate_left
  focus (intro wq hSq; go_simp; try with_reducible rfl)
  try simp only [Act.put, List.setIfInBounds_toArray, List.set_cons_zero, List.set_cons_succ]
  refine wpAnyM_takeA (i := 1) (oi := ⟨some 17, _, _, _, _, _⟩) (v := ?_) rfl (by kernel_rfl) (by kernel_rfl) (by kernel_rfl) (fun _ _ _ h => h) (by decide) (Or.inl ⟨by rfl, ?_⟩) (fun _ => hHeld) ?_
  rotate_left
  focus (intro wq hSq; go_simp; try with_reducible rfl)
  try simp only [Act.put, List.setIfInBounds_toArray, List.set_cons_zero, List.set_cons_succ]
  refine wpAnyM_take (i := 2) (oi := ⟨some 18, _, _, _, _, _⟩) (v := ?_) rfl (by kernel_rfl) (by kernel_rfl) (by kernel_rfl) (fun _ _ _ h => h) (by decide) (by kernel_rfl) (by kernel_rfl) (Or.inl ⟨by rfl, ?_⟩) (fun _ => hHeld) ?_
  rotate_left
  focus (intro wq hSq; (try dsimp only at hSq); go_simp; try with_reducible rfl)
  try simp only [Act.put, List.setIfInBounds_toArray, List.set_cons_zero, List.set_cons_succ]
  refine wpAnyM_takeA (i := 3) (oi := ⟨some 19, _, _, _, _, _⟩) (v := ?_) rfl (by kernel_rfl) (by kernel_rfl) (by kernel_rfl) (fun _ _ _ h => h) (by decide) (Or.inl ⟨by rfl, ?_⟩) (fun _ => hHeld) ?_
  rotate_left
  focus (intro wq hSq; go_simp; try with_reducible rfl)
  try simp only [Act.put, List.setIfInBounds_toArray, List.set_cons_zero, List.set_cons_succ]
  refine wpAnyM_take (i := 4) (oi := ⟨some 20, _, _, _, _, _⟩) (v := ?_) rfl (by kernel_rfl) (by kernel_rfl) (by kernel_rfl) (fun _ _ _ h => h) (by decide) (by kernel_rfl) (by kernel_rfl) (Or.inl ⟨by rfl, ?_⟩) (fun _ => hHeld) ?_
  rotate_left
  focus (intro wq hSq; (try dsimp only at hSq); go_simp; try with_reducible rfl)
  try simp only [Act.put, List.setIfInBounds_toArray, List.set_cons_zero, List.set_cons_succ]
  refine wpAnyM_ready (rs := [5]) (by kernel_rfl) (by simp) ?_
  refine AllReadyM.cons (o := ⟨some 21, _, _, _, _, _⟩) rfl (fun K hK => ?_) AllReadyM.nil
  go_simp
  refine hact.out.mono ?_
  rintro e w4 ⟨⟨vS4, vH4, vQ4, rfl, hW4⟩, hb4⟩
  have HW4 := Lib.hid hW4
  have hbb := hbV.trans hb4
  clear hW4 hb4 hact hbV
  refine hK.out _ _ (fun h => not_yetW (by kernel_rfl) h) (fun _ => ?_)
  clear hK K
  try simp only [Act.put, List.setIfInBounds_toArray, List.set_cons_zero, List.set_cons_succ]
  refine wpAnyM_done (by kernel_rfl) ?_ _
  clear hHeld lc lf
  go_wp2_with fail
  go_end0
  exact ⟨⟨_, _, _, rfl, HW4.out⟩, hbb⟩

set_option maxRecDepth 100000 in
set_option maxHeartbeats 4000000 in
theorem tapply1 (N S B P J L E T : Int) (base p : Nat) (aS : Option Addr) (nS cS : Nat) (aH : Option Addr) (nH cH : Nat) (aQ : Option Addr) (nQ cQ : Nat) (t : TabM) (cb cs cd ca cl ch cm : Int) (w : World) (hW : WorkAt N S B P J L E T w base p (.slice aS nS cS) (.slice aH nH cH) (.slice aQ nQ cQ) t) (hnS : t.sl.length = nS) (hnH : t.ho.length = nH) (hnQ : t.qu.length = nQ) (hn : nH + nQ < 1000000) (hlS : nS ≤ 1000000) :
    Calls Try.prog 19 #[.pointer (some ⟨p, 0, none⟩), .agg #[.int .i8 1, .int .i64 cb, .int .i64 cs, .int .i64 cd, .int .i64 ca, .int .i64 cl, .int .i64 ch, .int .i8 cm]] w fun e w' => ActsPost N S B P J L E T base p (leaveO t cb) e w' ∧ Below base w w' := by
  have pc := Blk.new w #[.int .i8 1, .int .i64 cb, .int .i64 cs, .int .i64 cd, .int .i64 ca, .int .i64 cl, .int .i64 ch, .int .i8 cm] 36
  have b0 := new_alloc w (.cells #[.int .i8 1, .int .i64 cb, .int .i64 cs, .int .i64 cd, .int .i64 ca, .int .i64 cl, .int .i64 ch, .int .i8 cm] 36)
  have pf := Blk.new (w.alloc (.cells #[.int .i8 1, .int .i64 cb, .int .i64 cs, .int .i64 cd, .int .i64 ca, .int .i64 cl, .int .i64 ch, .int .i8 cm] 36)) #[.func (.func 30) #[] #[], .func (.func 31) #[] #[], .func (.func 32) #[] #[], .func (.func 33) #[] #[], .func (.func 34) #[] #[], .func (.func 35) #[] #[]] 70
  have b1 := new_alloc (w.alloc (.cells #[.int .i8 1, .int .i64 cb, .int .i64 cs, .int .i64 cd, .int .i64 ca, .int .i64 cl, .int .i64 ch, .int .i8 cm] 36)) (.cells #[.func (.func 30) #[] #[], .func (.func 31) #[] #[], .func (.func 32) #[] #[], .func (.func 33) #[] #[], .func (.func 34) #[] #[], .func (.func 35) #[] #[]] 70)
  have pc1 := pc.below b1 pc.lt
  have b01 := below_then b0 b1
  rw [one_next] at pf
  go_enter Try.func19, Try.ntmps19
  go_upto_region 4 with fail
  obtain ⟨W1, hW1⟩ : ∃ W, W = (w.alloc (.cells #[.int .i8 1, .int .i64 cb, .int .i64 cs, .int .i64 cd, .int .i64 ca, .int .i64 cl, .int .i64 ch, .int .i8 cm] 36)).alloc (.cells #[.func (.func 30) #[] #[], .func (.func 31) #[] #[], .func (.func 32) #[] #[], .func (.func 33) #[] #[], .func (.func 34) #[] #[], .func (.func 35) #[] #[]] 70) := ⟨_, rfl⟩
  rw [← hW1] at pf pc1 b01 ⊢
  clear hW1 pc b0 b1
  have HW := Lib.hid (hW.below b01)
  have hb := b01.mono hW.size
  obtain ⟨b, hbw⟩ : ∃ b, w.heap.size = b := ⟨_, rfl⟩
  rw [hbw] at pf pc1 ⊢
  clear hbw hW b01
  obtain ⟨V0, zV0⟩ : ∃ V, V = W1.drew := ⟨_, rfl⟩
  have up0 : Below W1.heap.size W1 V0 := zV0 ▸ (Below.refl _ _).drew
  have HWV := HW.out.below up0
  have hbV := hb.trans (up0.mono HW.out.size)
  have pcV := pc1.below up0 pc1.lt
  have pfV := pf.below up0 pf.lt
  have hHeld : (V0.cell? ⟨b, 0, none⟩ = some (.int .i8 1) ∧ V0.cell? ⟨b, 1, none⟩ = some (.int .i64 cb) ∧ V0.cell? ⟨b, 2, none⟩ = some (.int .i64 cs) ∧ V0.cell? ⟨b, 3, none⟩ = some (.int .i64 cd) ∧ V0.cell? ⟨b, 4, none⟩ = some (.int .i64 ca) ∧ V0.cell? ⟨b, 5, none⟩ = some (.int .i64 cl) ∧ V0.cell? ⟨b, 6, none⟩ = some (.int .i64 ch) ∧ V0.cell? ⟨b, 7, none⟩ = some (.int .i8 cm)) ∧ V0.cell? ⟨b + 1, 1, none⟩ = some (.func (.func 31) #[] #[]) := ⟨cmd_cells8 pcV, pfV.cell 1 _ rfl⟩
  have lc := pcV.lt
  have lf := pfV.lt
  have hact := Lib.hid (tleave_any N S B P J L E T base p aS nS cS aH nH cH aQ nQ cQ t 1 cb cs cd ca cl ch cm V0 HWV hnS hnH hnQ (by omega) hlS)
  refine wp_region_to (S := (fun X => (X.cell? ⟨b, 0, none⟩ = some (.int .i8 1) ∧ X.cell? ⟨b, 1, none⟩ = some (.int .i64 cb) ∧ X.cell? ⟨b, 2, none⟩ = some (.int .i64 cs) ∧ X.cell? ⟨b, 3, none⟩ = some (.int .i64 cd) ∧ X.cell? ⟨b, 4, none⟩ = some (.int .i64 ca) ∧ X.cell? ⟨b, 5, none⟩ = some (.int .i64 cl) ∧ X.cell? ⟨b, 6, none⟩ = some (.int .i64 ch) ∧ X.cell? ⟨b, 7, none⟩ = some (.int .i8 cm)) ∧ X.cell? ⟨b + 1, 1, none⟩ = some (.func (.func 31) #[] #[]))) 5 (by kernel_rfl) (by rw [← zV0]; exact hHeld) (fun _ => ?_)
  rw [← zV0]
  clear zV0 HW hb up0 pc1 pf HWV pcV pfV
  refine wpAnyM_takeA (i := 0) (oi := ⟨some 16, _, _, _, _, _⟩) (v := ?_) rfl (by kernel_rfl) (by kernel_rfl) (by kernel_rfl) (fun _ _ _ h => h) (by decide) (Or.inl ⟨by rfl, ?_⟩) (fun _ => hHeld) ?_
  rotate_left
  focus (intro wq hSq; go_simp; try with_reducible rfl)
  try simp only [Act.put, List.setIfInBounds_toArray, List.set_cons_zero, List.set_cons_succ]
  refine wpAnyM_takeA (i := 1) (oi := ⟨some 17, _, _, _, _, _⟩) (v := ?_) rfl (by kernel_rfl) (by kernel_rfl) (by kernel_rfl) (fun _ _ _ h => h) (by decide) (Or.inl ⟨by rfl, ?_⟩) (fun _ => hHeld) ?_
  rotate_left
  focus (intro wq hSq; go_simp; try with_reducible rfl)
  try simp only [Act.put, List.setIfInBounds_toArray, List.set_cons_zero, List.set_cons_succ]
  refine wpAnyM_take (i := 2) (oi := ⟨some 18, _, _, _, _, _⟩) (v := ?_) rfl (by kernel_rfl) (by kernel_rfl) (by kernel_rfl) (fun _ _ _ h => h) (by decide) (by kernel_rfl) (by kernel_rfl) (Or.inl ⟨by rfl, ?_⟩) (fun _ => hHeld) ?_
  rotate_left
  focus (intro wq hSq; (try dsimp only at hSq); go_simp; try with_reducible rfl)
  try simp only [Act.put, List.setIfInBounds_toArray, List.set_cons_zero, List.set_cons_succ]
  refine wpAnyM_takeA (i := 3) (oi := ⟨some 19, _, _, _, _, _⟩) (v := ?_) rfl (by kernel_rfl) (by kernel_rfl) (by kernel_rfl) (fun _ _ _ h => h) (by decide) (Or.inl ⟨by rfl, ?_⟩) (fun _ => hHeld) ?_
  rotate_left
  focus (intro wq hSq; go_simp; try with_reducible rfl)
  try simp only [Act.put, List.setIfInBounds_toArray, List.set_cons_zero, List.set_cons_succ]
  refine wpAnyM_take (i := 4) (oi := ⟨some 20, _, _, _, _, _⟩) (v := ?_) rfl (by kernel_rfl) (by kernel_rfl) (by kernel_rfl) (fun _ _ _ h => h) (by decide) (by kernel_rfl) (by kernel_rfl) (Or.inl ⟨by rfl, ?_⟩) (fun _ => hHeld) ?_
  rotate_left
  focus (intro wq hSq; (try dsimp only at hSq); go_simp; try with_reducible rfl)
  try simp only [Act.put, List.setIfInBounds_toArray, List.set_cons_zero, List.set_cons_succ]
  refine wpAnyM_ready (rs := [5]) (by kernel_rfl) (by simp) ?_
  refine AllReadyM.cons (o := ⟨some 21, _, _, _, _, _⟩) rfl (fun K hK => ?_) AllReadyM.nil
  go_simp
  refine hact.out.mono ?_
  rintro e w4 ⟨⟨vS4, vH4, vQ4, rfl, hW4⟩, hb4⟩
  have HW4 := Lib.hid hW4
  have hbb := hbV.trans hb4
  clear hW4 hb4 hact hbV
  refine hK.out _ _ (fun h => not_yetW (by kernel_rfl) h) (fun _ => ?_)
  clear hK K
  try simp only [Act.put, List.setIfInBounds_toArray, List.set_cons_zero, List.set_cons_succ]
  refine wpAnyM_done (by kernel_rfl) ?_ _
  clear hHeld lc lf
  go_wp2_with fail
  go_end0
  exact ⟨⟨_, _, _, rfl, HW4.out⟩, hbb⟩

set_option maxRecDepth 100000 in
set_option maxHeartbeats 4000000 in
theorem tapply2 (N S B P J L E T : Int) (base p : Nat) (aS : Option Addr) (nS cS : Nat) (aH : Option Addr) (nH cH : Nat) (aQ : Option Addr) (nQ cQ : Nat) (t : TabM) (cb cs cd ca cl ch cm : Int) (w : World) (hW : WorkAt N S B P J L E T w base p (.slice aS nS cS) (.slice aH nH cH) (.slice aQ nQ cQ) t) (hnS : t.sl.length = nS) (hnH : t.ho.length = nH) (hnQ : t.qu.length = nQ) (hn : nH + nQ < 1000000) (hlS : nS ≤ 1000000) :
    Calls Try.prog 19 #[.pointer (some ⟨p, 0, none⟩), .agg #[.int .i8 2, .int .i64 cb, .int .i64 cs, .int .i64 cd, .int .i64 ca, .int .i64 cl, .int .i64 ch, .int .i8 cm]] w fun e w' => ActsPost N S B P J L E T base p (askO B t ⟨cb, ⟨cl, ch⟩, cm⟩) e w' ∧ Below base w w' := by
  have pc := Blk.new w #[.int .i8 2, .int .i64 cb, .int .i64 cs, .int .i64 cd, .int .i64 ca, .int .i64 cl, .int .i64 ch, .int .i8 cm] 36
  have b0 := new_alloc w (.cells #[.int .i8 2, .int .i64 cb, .int .i64 cs, .int .i64 cd, .int .i64 ca, .int .i64 cl, .int .i64 ch, .int .i8 cm] 36)
  have pf := Blk.new (w.alloc (.cells #[.int .i8 2, .int .i64 cb, .int .i64 cs, .int .i64 cd, .int .i64 ca, .int .i64 cl, .int .i64 ch, .int .i8 cm] 36)) #[.func (.func 30) #[] #[], .func (.func 31) #[] #[], .func (.func 32) #[] #[], .func (.func 33) #[] #[], .func (.func 34) #[] #[], .func (.func 35) #[] #[]] 70
  have b1 := new_alloc (w.alloc (.cells #[.int .i8 2, .int .i64 cb, .int .i64 cs, .int .i64 cd, .int .i64 ca, .int .i64 cl, .int .i64 ch, .int .i8 cm] 36)) (.cells #[.func (.func 30) #[] #[], .func (.func 31) #[] #[], .func (.func 32) #[] #[], .func (.func 33) #[] #[], .func (.func 34) #[] #[], .func (.func 35) #[] #[]] 70)
  have pc1 := pc.below b1 pc.lt
  have b01 := below_then b0 b1
  rw [one_next] at pf
  go_enter Try.func19, Try.ntmps19
  go_upto_region 4 with fail
  obtain ⟨W1, hW1⟩ : ∃ W, W = (w.alloc (.cells #[.int .i8 2, .int .i64 cb, .int .i64 cs, .int .i64 cd, .int .i64 ca, .int .i64 cl, .int .i64 ch, .int .i8 cm] 36)).alloc (.cells #[.func (.func 30) #[] #[], .func (.func 31) #[] #[], .func (.func 32) #[] #[], .func (.func 33) #[] #[], .func (.func 34) #[] #[], .func (.func 35) #[] #[]] 70) := ⟨_, rfl⟩
  rw [← hW1] at pf pc1 b01 ⊢
  clear hW1 pc b0 b1
  have HW := Lib.hid (hW.below b01)
  have hb := b01.mono hW.size
  obtain ⟨b, hbw⟩ : ∃ b, w.heap.size = b := ⟨_, rfl⟩
  rw [hbw] at pf pc1 ⊢
  clear hbw hW b01
  obtain ⟨V0, zV0⟩ : ∃ V, V = W1.drew := ⟨_, rfl⟩
  have up0 : Below W1.heap.size W1 V0 := zV0 ▸ (Below.refl _ _).drew
  have HWV := HW.out.below up0
  have hbV := hb.trans (up0.mono HW.out.size)
  have pcV := pc1.below up0 pc1.lt
  have pfV := pf.below up0 pf.lt
  have hHeld : (V0.cell? ⟨b, 0, none⟩ = some (.int .i8 2) ∧ V0.cell? ⟨b, 1, none⟩ = some (.int .i64 cb) ∧ V0.cell? ⟨b, 2, none⟩ = some (.int .i64 cs) ∧ V0.cell? ⟨b, 3, none⟩ = some (.int .i64 cd) ∧ V0.cell? ⟨b, 4, none⟩ = some (.int .i64 ca) ∧ V0.cell? ⟨b, 5, none⟩ = some (.int .i64 cl) ∧ V0.cell? ⟨b, 6, none⟩ = some (.int .i64 ch) ∧ V0.cell? ⟨b, 7, none⟩ = some (.int .i8 cm)) ∧ V0.cell? ⟨b + 1, 2, none⟩ = some (.func (.func 32) #[] #[]) := ⟨cmd_cells8 pcV, pfV.cell 2 _ rfl⟩
  have lc := pcV.lt
  have lf := pfV.lt
  have hact := Lib.hid (task_any N S B P J L E T base p aS nS cS aH nH cH aQ nQ cQ t 2 cb cs cd ca cl ch cm V0 HWV hnS hnH hnQ (by omega) hlS)
  refine wp_region_to (S := (fun X => (X.cell? ⟨b, 0, none⟩ = some (.int .i8 2) ∧ X.cell? ⟨b, 1, none⟩ = some (.int .i64 cb) ∧ X.cell? ⟨b, 2, none⟩ = some (.int .i64 cs) ∧ X.cell? ⟨b, 3, none⟩ = some (.int .i64 cd) ∧ X.cell? ⟨b, 4, none⟩ = some (.int .i64 ca) ∧ X.cell? ⟨b, 5, none⟩ = some (.int .i64 cl) ∧ X.cell? ⟨b, 6, none⟩ = some (.int .i64 ch) ∧ X.cell? ⟨b, 7, none⟩ = some (.int .i8 cm)) ∧ X.cell? ⟨b + 1, 2, none⟩ = some (.func (.func 32) #[] #[]))) 5 (by kernel_rfl) (by rw [← zV0]; exact hHeld) (fun _ => ?_)
  rw [← zV0]
  clear zV0 HW hb up0 pc1 pf HWV pcV pfV
  refine wpAnyM_takeA (i := 0) (oi := ⟨some 16, _, _, _, _, _⟩) (v := ?_) rfl (by kernel_rfl) (by kernel_rfl) (by kernel_rfl) (fun _ _ _ h => h) (by decide) (Or.inl ⟨by rfl, ?_⟩) (fun _ => hHeld) ?_
  rotate_left
  focus (intro wq hSq; go_simp; try with_reducible rfl)
  try simp only [Act.put, List.setIfInBounds_toArray, List.set_cons_zero, List.set_cons_succ]
  refine wpAnyM_takeA (i := 1) (oi := ⟨some 17, _, _, _, _, _⟩) (v := ?_) rfl (by kernel_rfl) (by kernel_rfl) (by kernel_rfl) (fun _ _ _ h => h) (by decide) (Or.inl ⟨by rfl, ?_⟩) (fun _ => hHeld) ?_
  rotate_left
  focus (intro wq hSq; go_simp; try with_reducible rfl)
  try simp only [Act.put, List.setIfInBounds_toArray, List.set_cons_zero, List.set_cons_succ]
  refine wpAnyM_take (i := 2) (oi := ⟨some 18, _, _, _, _, _⟩) (v := ?_) rfl (by kernel_rfl) (by kernel_rfl) (by kernel_rfl) (fun _ _ _ h => h) (by decide) (by kernel_rfl) (by kernel_rfl) (Or.inl ⟨by rfl, ?_⟩) (fun _ => hHeld) ?_
  rotate_left
  focus (intro wq hSq; (try dsimp only at hSq); go_simp; try with_reducible rfl)
  try simp only [Act.put, List.setIfInBounds_toArray, List.set_cons_zero, List.set_cons_succ]
  refine wpAnyM_takeA (i := 3) (oi := ⟨some 19, _, _, _, _, _⟩) (v := ?_) rfl (by kernel_rfl) (by kernel_rfl) (by kernel_rfl) (fun _ _ _ h => h) (by decide) (Or.inl ⟨by rfl, ?_⟩) (fun _ => hHeld) ?_
  rotate_left
  focus (intro wq hSq; go_simp; try with_reducible rfl)
  try simp only [Act.put, List.setIfInBounds_toArray, List.set_cons_zero, List.set_cons_succ]
  refine wpAnyM_take (i := 4) (oi := ⟨some 20, _, _, _, _, _⟩) (v := ?_) rfl (by kernel_rfl) (by kernel_rfl) (by kernel_rfl) (fun _ _ _ h => h) (by decide) (by kernel_rfl) (by kernel_rfl) (Or.inl ⟨by rfl, ?_⟩) (fun _ => hHeld) ?_
  rotate_left
  focus (intro wq hSq; (try dsimp only at hSq); go_simp; try with_reducible rfl)
  try simp only [Act.put, List.setIfInBounds_toArray, List.set_cons_zero, List.set_cons_succ]
  refine wpAnyM_ready (rs := [5]) (by kernel_rfl) (by simp) ?_
  refine AllReadyM.cons (o := ⟨some 21, _, _, _, _, _⟩) rfl (fun K hK => ?_) AllReadyM.nil
  go_simp
  refine hact.out.mono ?_
  rintro e w4 ⟨⟨vS4, vH4, vQ4, rfl, hW4⟩, hb4⟩
  have HW4 := Lib.hid hW4
  have hbb := hbV.trans hb4
  clear hW4 hb4 hact hbV
  refine hK.out _ _ (fun h => not_yetW (by kernel_rfl) h) (fun _ => ?_)
  clear hK K
  try simp only [Act.put, List.setIfInBounds_toArray, List.set_cons_zero, List.set_cons_succ]
  refine wpAnyM_done (by kernel_rfl) ?_ _
  clear hHeld lc lf
  go_wp2_with fail
  go_end0
  exact ⟨⟨_, _, _, rfl, HW4.out⟩, hbb⟩

set_option maxRecDepth 100000 in
set_option maxHeartbeats 4000000 in
theorem tapply3 (N S B P J L E T : Int) (base p : Nat) (aS : Option Addr) (nS cS : Nat) (aH : Option Addr) (nH cH : Nat) (aQ : Option Addr) (nQ cQ : Nat) (t : TabM) (cb cs cd ca cl ch cm : Int) (w : World) (hW : WorkAt N S B P J L E T w base p (.slice aS nS cS) (.slice aH nH cH) (.slice aQ nQ cQ) t) (hnS : t.sl.length = nS) (hnH : t.ho.length = nH) (hnQ : t.qu.length = nQ) (hn : nH + nQ < 1000000) (hlS : nS ≤ 1000000) :
    Calls Try.prog 19 #[.pointer (some ⟨p, 0, none⟩), .agg #[.int .i8 3, .int .i64 cb, .int .i64 cs, .int .i64 cd, .int .i64 ca, .int .i64 cl, .int .i64 ch, .int .i8 cm]] w fun e w' => ActsPost N S B P J L E T base p (freeO t cb cl ch) e w' ∧ Below base w w' := by
  have pc := Blk.new w #[.int .i8 3, .int .i64 cb, .int .i64 cs, .int .i64 cd, .int .i64 ca, .int .i64 cl, .int .i64 ch, .int .i8 cm] 36
  have b0 := new_alloc w (.cells #[.int .i8 3, .int .i64 cb, .int .i64 cs, .int .i64 cd, .int .i64 ca, .int .i64 cl, .int .i64 ch, .int .i8 cm] 36)
  have pf := Blk.new (w.alloc (.cells #[.int .i8 3, .int .i64 cb, .int .i64 cs, .int .i64 cd, .int .i64 ca, .int .i64 cl, .int .i64 ch, .int .i8 cm] 36)) #[.func (.func 30) #[] #[], .func (.func 31) #[] #[], .func (.func 32) #[] #[], .func (.func 33) #[] #[], .func (.func 34) #[] #[], .func (.func 35) #[] #[]] 70
  have b1 := new_alloc (w.alloc (.cells #[.int .i8 3, .int .i64 cb, .int .i64 cs, .int .i64 cd, .int .i64 ca, .int .i64 cl, .int .i64 ch, .int .i8 cm] 36)) (.cells #[.func (.func 30) #[] #[], .func (.func 31) #[] #[], .func (.func 32) #[] #[], .func (.func 33) #[] #[], .func (.func 34) #[] #[], .func (.func 35) #[] #[]] 70)
  have pc1 := pc.below b1 pc.lt
  have b01 := below_then b0 b1
  rw [one_next] at pf
  go_enter Try.func19, Try.ntmps19
  go_upto_region 4 with fail
  obtain ⟨W1, hW1⟩ : ∃ W, W = (w.alloc (.cells #[.int .i8 3, .int .i64 cb, .int .i64 cs, .int .i64 cd, .int .i64 ca, .int .i64 cl, .int .i64 ch, .int .i8 cm] 36)).alloc (.cells #[.func (.func 30) #[] #[], .func (.func 31) #[] #[], .func (.func 32) #[] #[], .func (.func 33) #[] #[], .func (.func 34) #[] #[], .func (.func 35) #[] #[]] 70) := ⟨_, rfl⟩
  rw [← hW1] at pf pc1 b01 ⊢
  clear hW1 pc b0 b1
  have HW := Lib.hid (hW.below b01)
  have hb := b01.mono hW.size
  obtain ⟨b, hbw⟩ : ∃ b, w.heap.size = b := ⟨_, rfl⟩
  rw [hbw] at pf pc1 ⊢
  clear hbw hW b01
  obtain ⟨V0, zV0⟩ : ∃ V, V = W1.drew := ⟨_, rfl⟩
  have up0 : Below W1.heap.size W1 V0 := zV0 ▸ (Below.refl _ _).drew
  have HWV := HW.out.below up0
  have hbV := hb.trans (up0.mono HW.out.size)
  have pcV := pc1.below up0 pc1.lt
  have pfV := pf.below up0 pf.lt
  have hHeld : (V0.cell? ⟨b, 0, none⟩ = some (.int .i8 3) ∧ V0.cell? ⟨b, 1, none⟩ = some (.int .i64 cb) ∧ V0.cell? ⟨b, 2, none⟩ = some (.int .i64 cs) ∧ V0.cell? ⟨b, 3, none⟩ = some (.int .i64 cd) ∧ V0.cell? ⟨b, 4, none⟩ = some (.int .i64 ca) ∧ V0.cell? ⟨b, 5, none⟩ = some (.int .i64 cl) ∧ V0.cell? ⟨b, 6, none⟩ = some (.int .i64 ch) ∧ V0.cell? ⟨b, 7, none⟩ = some (.int .i8 cm)) ∧ V0.cell? ⟨b + 1, 3, none⟩ = some (.func (.func 33) #[] #[]) := ⟨cmd_cells8 pcV, pfV.cell 3 _ rfl⟩
  have lc := pcV.lt
  have lf := pfV.lt
  have hact := Lib.hid (tfreeC_any N S B P J L E T base p aS nS cS aH nH cH aQ nQ cQ t 3 cb cs cd ca cl ch cm V0 HWV hnS hnH hnQ (by omega) hlS)
  refine wp_region_to (S := (fun X => (X.cell? ⟨b, 0, none⟩ = some (.int .i8 3) ∧ X.cell? ⟨b, 1, none⟩ = some (.int .i64 cb) ∧ X.cell? ⟨b, 2, none⟩ = some (.int .i64 cs) ∧ X.cell? ⟨b, 3, none⟩ = some (.int .i64 cd) ∧ X.cell? ⟨b, 4, none⟩ = some (.int .i64 ca) ∧ X.cell? ⟨b, 5, none⟩ = some (.int .i64 cl) ∧ X.cell? ⟨b, 6, none⟩ = some (.int .i64 ch) ∧ X.cell? ⟨b, 7, none⟩ = some (.int .i8 cm)) ∧ X.cell? ⟨b + 1, 3, none⟩ = some (.func (.func 33) #[] #[]))) 5 (by kernel_rfl) (by rw [← zV0]; exact hHeld) (fun _ => ?_)
  rw [← zV0]
  clear zV0 HW hb up0 pc1 pf HWV pcV pfV
  refine wpAnyM_takeA (i := 0) (oi := ⟨some 16, _, _, _, _, _⟩) (v := ?_) rfl (by kernel_rfl) (by kernel_rfl) (by kernel_rfl) (fun _ _ _ h => h) (by decide) (Or.inl ⟨by rfl, ?_⟩) (fun _ => hHeld) ?_
  rotate_left
  focus (intro wq hSq; go_simp; try with_reducible rfl)
  try simp only [Act.put, List.setIfInBounds_toArray, List.set_cons_zero, List.set_cons_succ]
  refine wpAnyM_takeA (i := 1) (oi := ⟨some 17, _, _, _, _, _⟩) (v := ?_) rfl (by kernel_rfl) (by kernel_rfl) (by kernel_rfl) (fun _ _ _ h => h) (by decide) (Or.inl ⟨by rfl, ?_⟩) (fun _ => hHeld) ?_
  rotate_left
  focus (intro wq hSq; go_simp; try with_reducible rfl)
  try simp only [Act.put, List.setIfInBounds_toArray, List.set_cons_zero, List.set_cons_succ]
  refine wpAnyM_take (i := 2) (oi := ⟨some 18, _, _, _, _, _⟩) (v := ?_) rfl (by kernel_rfl) (by kernel_rfl) (by kernel_rfl) (fun _ _ _ h => h) (by decide) (by kernel_rfl) (by kernel_rfl) (Or.inl ⟨by rfl, ?_⟩) (fun _ => hHeld) ?_
  rotate_left
  focus (intro wq hSq; (try dsimp only at hSq); go_simp; try with_reducible rfl)
  try simp only [Act.put, List.setIfInBounds_toArray, List.set_cons_zero, List.set_cons_succ]
  refine wpAnyM_takeA (i := 3) (oi := ⟨some 19, _, _, _, _, _⟩) (v := ?_) rfl (by kernel_rfl) (by kernel_rfl) (by kernel_rfl) (fun _ _ _ h => h) (by decide) (Or.inl ⟨by rfl, ?_⟩) (fun _ => hHeld) ?_
  rotate_left
  focus (intro wq hSq; go_simp; try with_reducible rfl)
  try simp only [Act.put, List.setIfInBounds_toArray, List.set_cons_zero, List.set_cons_succ]
  refine wpAnyM_take (i := 4) (oi := ⟨some 20, _, _, _, _, _⟩) (v := ?_) rfl (by kernel_rfl) (by kernel_rfl) (by kernel_rfl) (fun _ _ _ h => h) (by decide) (by kernel_rfl) (by kernel_rfl) (Or.inl ⟨by rfl, ?_⟩) (fun _ => hHeld) ?_
  rotate_left
  focus (intro wq hSq; (try dsimp only at hSq); go_simp; try with_reducible rfl)
  try simp only [Act.put, List.setIfInBounds_toArray, List.set_cons_zero, List.set_cons_succ]
  refine wpAnyM_ready (rs := [5]) (by kernel_rfl) (by simp) ?_
  refine AllReadyM.cons (o := ⟨some 21, _, _, _, _, _⟩) rfl (fun K hK => ?_) AllReadyM.nil
  go_simp
  refine hact.out.mono ?_
  rintro e w4 ⟨⟨vS4, vH4, vQ4, rfl, hW4⟩, hb4⟩
  have HW4 := Lib.hid hW4
  have hbb := hbV.trans hb4
  clear hW4 hb4 hact hbV
  refine hK.out _ _ (fun h => not_yetW (by kernel_rfl) h) (fun _ => ?_)
  clear hK K
  try simp only [Act.put, List.setIfInBounds_toArray, List.set_cons_zero, List.set_cons_succ]
  refine wpAnyM_done (by kernel_rfl) ?_ _
  clear hHeld lc lf
  go_wp2_with fail
  go_end0
  exact ⟨⟨_, _, _, rfl, HW4.out⟩, hbb⟩

set_option maxRecDepth 100000 in
set_option maxHeartbeats 4000000 in
theorem tapply4 (N S B P J L E T : Int) (base p : Nat) (aS : Option Addr) (nS cS : Nat) (aH : Option Addr) (nH cH : Nat) (aQ : Option Addr) (nQ cQ : Nat) (t : TabM) (cb cs cd ca cl ch cm : Int) (w : World) (hW : WorkAt N S B P J L E T w base p (.slice aS nS cS) (.slice aH nH cH) (.slice aQ nQ cQ) t) (hnS : t.sl.length = nS) (hnH : t.ho.length = nH) (hnQ : t.qu.length = nQ) (hn : nH + nQ < 1000000) (hlS : nS ≤ 1000000) :
    Calls Try.prog 19 #[.pointer (some ⟨p, 0, none⟩), .agg #[.int .i8 4, .int .i64 cb, .int .i64 cs, .int .i64 cd, .int .i64 ca, .int .i64 cl, .int .i64 ch, .int .i8 cm]] w fun e w' => ActsPost N S B P J L E T base p (claimO t cb cd ca) e w' ∧ Below base w w' := by
  have pc := Blk.new w #[.int .i8 4, .int .i64 cb, .int .i64 cs, .int .i64 cd, .int .i64 ca, .int .i64 cl, .int .i64 ch, .int .i8 cm] 36
  have b0 := new_alloc w (.cells #[.int .i8 4, .int .i64 cb, .int .i64 cs, .int .i64 cd, .int .i64 ca, .int .i64 cl, .int .i64 ch, .int .i8 cm] 36)
  have pf := Blk.new (w.alloc (.cells #[.int .i8 4, .int .i64 cb, .int .i64 cs, .int .i64 cd, .int .i64 ca, .int .i64 cl, .int .i64 ch, .int .i8 cm] 36)) #[.func (.func 30) #[] #[], .func (.func 31) #[] #[], .func (.func 32) #[] #[], .func (.func 33) #[] #[], .func (.func 34) #[] #[], .func (.func 35) #[] #[]] 70
  have b1 := new_alloc (w.alloc (.cells #[.int .i8 4, .int .i64 cb, .int .i64 cs, .int .i64 cd, .int .i64 ca, .int .i64 cl, .int .i64 ch, .int .i8 cm] 36)) (.cells #[.func (.func 30) #[] #[], .func (.func 31) #[] #[], .func (.func 32) #[] #[], .func (.func 33) #[] #[], .func (.func 34) #[] #[], .func (.func 35) #[] #[]] 70)
  have pc1 := pc.below b1 pc.lt
  have b01 := below_then b0 b1
  rw [one_next] at pf
  go_enter Try.func19, Try.ntmps19
  go_upto_region 4 with fail
  obtain ⟨W1, hW1⟩ : ∃ W, W = (w.alloc (.cells #[.int .i8 4, .int .i64 cb, .int .i64 cs, .int .i64 cd, .int .i64 ca, .int .i64 cl, .int .i64 ch, .int .i8 cm] 36)).alloc (.cells #[.func (.func 30) #[] #[], .func (.func 31) #[] #[], .func (.func 32) #[] #[], .func (.func 33) #[] #[], .func (.func 34) #[] #[], .func (.func 35) #[] #[]] 70) := ⟨_, rfl⟩
  rw [← hW1] at pf pc1 b01 ⊢
  clear hW1 pc b0 b1
  have HW := Lib.hid (hW.below b01)
  have hb := b01.mono hW.size
  obtain ⟨b, hbw⟩ : ∃ b, w.heap.size = b := ⟨_, rfl⟩
  rw [hbw] at pf pc1 ⊢
  clear hbw hW b01
  obtain ⟨V0, zV0⟩ : ∃ V, V = W1.drew := ⟨_, rfl⟩
  have up0 : Below W1.heap.size W1 V0 := zV0 ▸ (Below.refl _ _).drew
  have HWV := HW.out.below up0
  have hbV := hb.trans (up0.mono HW.out.size)
  have pcV := pc1.below up0 pc1.lt
  have pfV := pf.below up0 pf.lt
  have hHeld : (V0.cell? ⟨b, 0, none⟩ = some (.int .i8 4) ∧ V0.cell? ⟨b, 1, none⟩ = some (.int .i64 cb) ∧ V0.cell? ⟨b, 2, none⟩ = some (.int .i64 cs) ∧ V0.cell? ⟨b, 3, none⟩ = some (.int .i64 cd) ∧ V0.cell? ⟨b, 4, none⟩ = some (.int .i64 ca) ∧ V0.cell? ⟨b, 5, none⟩ = some (.int .i64 cl) ∧ V0.cell? ⟨b, 6, none⟩ = some (.int .i64 ch) ∧ V0.cell? ⟨b, 7, none⟩ = some (.int .i8 cm)) ∧ V0.cell? ⟨b + 1, 4, none⟩ = some (.func (.func 34) #[] #[]) := ⟨cmd_cells8 pcV, pfV.cell 4 _ rfl⟩
  have lc := pcV.lt
  have lf := pfV.lt
  have hact := Lib.hid (tclaim_any N S B P J L E T base p aS nS cS aH nH cH aQ nQ cQ t 4 cb cs cd ca cl ch cm V0 HWV hnS hnH hnQ (by omega) hlS)
  refine wp_region_to (S := (fun X => (X.cell? ⟨b, 0, none⟩ = some (.int .i8 4) ∧ X.cell? ⟨b, 1, none⟩ = some (.int .i64 cb) ∧ X.cell? ⟨b, 2, none⟩ = some (.int .i64 cs) ∧ X.cell? ⟨b, 3, none⟩ = some (.int .i64 cd) ∧ X.cell? ⟨b, 4, none⟩ = some (.int .i64 ca) ∧ X.cell? ⟨b, 5, none⟩ = some (.int .i64 cl) ∧ X.cell? ⟨b, 6, none⟩ = some (.int .i64 ch) ∧ X.cell? ⟨b, 7, none⟩ = some (.int .i8 cm)) ∧ X.cell? ⟨b + 1, 4, none⟩ = some (.func (.func 34) #[] #[]))) 5 (by kernel_rfl) (by rw [← zV0]; exact hHeld) (fun _ => ?_)
  rw [← zV0]
  clear zV0 HW hb up0 pc1 pf HWV pcV pfV
  refine wpAnyM_takeA (i := 0) (oi := ⟨some 16, _, _, _, _, _⟩) (v := ?_) rfl (by kernel_rfl) (by kernel_rfl) (by kernel_rfl) (fun _ _ _ h => h) (by decide) (Or.inl ⟨by rfl, ?_⟩) (fun _ => hHeld) ?_
  rotate_left
  focus (intro wq hSq; go_simp; try with_reducible rfl)
  try simp only [Act.put, List.setIfInBounds_toArray, List.set_cons_zero, List.set_cons_succ]
  refine wpAnyM_takeA (i := 1) (oi := ⟨some 17, _, _, _, _, _⟩) (v := ?_) rfl (by kernel_rfl) (by kernel_rfl) (by kernel_rfl) (fun _ _ _ h => h) (by decide) (Or.inl ⟨by rfl, ?_⟩) (fun _ => hHeld) ?_
  rotate_left
  focus (intro wq hSq; go_simp; try with_reducible rfl)
  try simp only [Act.put, List.setIfInBounds_toArray, List.set_cons_zero, List.set_cons_succ]
  refine wpAnyM_take (i := 2) (oi := ⟨some 18, _, _, _, _, _⟩) (v := ?_) rfl (by kernel_rfl) (by kernel_rfl) (by kernel_rfl) (fun _ _ _ h => h) (by decide) (by kernel_rfl) (by kernel_rfl) (Or.inl ⟨by rfl, ?_⟩) (fun _ => hHeld) ?_
  rotate_left
  focus (intro wq hSq; (try dsimp only at hSq); go_simp; try with_reducible rfl)
  try simp only [Act.put, List.setIfInBounds_toArray, List.set_cons_zero, List.set_cons_succ]
  refine wpAnyM_takeA (i := 3) (oi := ⟨some 19, _, _, _, _, _⟩) (v := ?_) rfl (by kernel_rfl) (by kernel_rfl) (by kernel_rfl) (fun _ _ _ h => h) (by decide) (Or.inl ⟨by rfl, ?_⟩) (fun _ => hHeld) ?_
  rotate_left
  focus (intro wq hSq; go_simp; try with_reducible rfl)
  try simp only [Act.put, List.setIfInBounds_toArray, List.set_cons_zero, List.set_cons_succ]
  refine wpAnyM_take (i := 4) (oi := ⟨some 20, _, _, _, _, _⟩) (v := ?_) rfl (by kernel_rfl) (by kernel_rfl) (by kernel_rfl) (fun _ _ _ h => h) (by decide) (by kernel_rfl) (by kernel_rfl) (Or.inl ⟨by rfl, ?_⟩) (fun _ => hHeld) ?_
  rotate_left
  focus (intro wq hSq; (try dsimp only at hSq); go_simp; try with_reducible rfl)
  try simp only [Act.put, List.setIfInBounds_toArray, List.set_cons_zero, List.set_cons_succ]
  refine wpAnyM_ready (rs := [5]) (by kernel_rfl) (by simp) ?_
  refine AllReadyM.cons (o := ⟨some 21, _, _, _, _, _⟩) rfl (fun K hK => ?_) AllReadyM.nil
  go_simp
  refine hact.out.mono ?_
  rintro e w4 ⟨⟨vS4, vH4, vQ4, rfl, hW4⟩, hb4⟩
  have HW4 := Lib.hid hW4
  have hbb := hbV.trans hb4
  clear hW4 hb4 hact hbV
  refine hK.out _ _ (fun h => not_yetW (by kernel_rfl) h) (fun _ => ?_)
  clear hK K
  try simp only [Act.put, List.setIfInBounds_toArray, List.set_cons_zero, List.set_cons_succ]
  refine wpAnyM_done (by kernel_rfl) ?_ _
  clear hHeld lc lf
  go_wp2_with fail
  go_end0
  exact ⟨⟨_, _, _, rfl, HW4.out⟩, hbb⟩

set_option maxRecDepth 100000 in
set_option maxHeartbeats 4000000 in
theorem tapply5 (N S B P J L E T : Int) (base p : Nat) (aS : Option Addr) (nS cS : Nat) (aH : Option Addr) (nH cH : Nat) (aQ : Option Addr) (nQ cQ : Nat) (t : TabM) (cb cs cd ca cl ch cm : Int) (w : World) (hW : WorkAt N S B P J L E T w base p (.slice aS nS cS) (.slice aH nH cH) (.slice aQ nQ cQ) t) (hnS : t.sl.length = nS) (hnH : t.ho.length = nH) (hnQ : t.qu.length = nQ) (hn : nH + nQ < 1000000) (hlS : nS ≤ 1000000) :
    Calls Try.prog 19 #[.pointer (some ⟨p, 0, none⟩), .agg #[.int .i8 5, .int .i64 cb, .int .i64 cs, .int .i64 cd, .int .i64 ca, .int .i64 cl, .int .i64 ch, .int .i8 cm]] w fun e w' => ActsPost N S B P J L E T base p (purgeO t cb cd) e w' ∧ Below base w w' := by
  have pc := Blk.new w #[.int .i8 5, .int .i64 cb, .int .i64 cs, .int .i64 cd, .int .i64 ca, .int .i64 cl, .int .i64 ch, .int .i8 cm] 36
  have b0 := new_alloc w (.cells #[.int .i8 5, .int .i64 cb, .int .i64 cs, .int .i64 cd, .int .i64 ca, .int .i64 cl, .int .i64 ch, .int .i8 cm] 36)
  have pf := Blk.new (w.alloc (.cells #[.int .i8 5, .int .i64 cb, .int .i64 cs, .int .i64 cd, .int .i64 ca, .int .i64 cl, .int .i64 ch, .int .i8 cm] 36)) #[.func (.func 30) #[] #[], .func (.func 31) #[] #[], .func (.func 32) #[] #[], .func (.func 33) #[] #[], .func (.func 34) #[] #[], .func (.func 35) #[] #[]] 70
  have b1 := new_alloc (w.alloc (.cells #[.int .i8 5, .int .i64 cb, .int .i64 cs, .int .i64 cd, .int .i64 ca, .int .i64 cl, .int .i64 ch, .int .i8 cm] 36)) (.cells #[.func (.func 30) #[] #[], .func (.func 31) #[] #[], .func (.func 32) #[] #[], .func (.func 33) #[] #[], .func (.func 34) #[] #[], .func (.func 35) #[] #[]] 70)
  have pc1 := pc.below b1 pc.lt
  have b01 := below_then b0 b1
  rw [one_next] at pf
  go_enter Try.func19, Try.ntmps19
  go_upto_region 4 with fail
  obtain ⟨W1, hW1⟩ : ∃ W, W = (w.alloc (.cells #[.int .i8 5, .int .i64 cb, .int .i64 cs, .int .i64 cd, .int .i64 ca, .int .i64 cl, .int .i64 ch, .int .i8 cm] 36)).alloc (.cells #[.func (.func 30) #[] #[], .func (.func 31) #[] #[], .func (.func 32) #[] #[], .func (.func 33) #[] #[], .func (.func 34) #[] #[], .func (.func 35) #[] #[]] 70) := ⟨_, rfl⟩
  rw [← hW1] at pf pc1 b01 ⊢
  clear hW1 pc b0 b1
  have HW := Lib.hid (hW.below b01)
  have hb := b01.mono hW.size
  obtain ⟨b, hbw⟩ : ∃ b, w.heap.size = b := ⟨_, rfl⟩
  rw [hbw] at pf pc1 ⊢
  clear hbw hW b01
  obtain ⟨V0, zV0⟩ : ∃ V, V = W1.drew := ⟨_, rfl⟩
  have up0 : Below W1.heap.size W1 V0 := zV0 ▸ (Below.refl _ _).drew
  have HWV := HW.out.below up0
  have hbV := hb.trans (up0.mono HW.out.size)
  have pcV := pc1.below up0 pc1.lt
  have pfV := pf.below up0 pf.lt
  have hHeld : (V0.cell? ⟨b, 0, none⟩ = some (.int .i8 5) ∧ V0.cell? ⟨b, 1, none⟩ = some (.int .i64 cb) ∧ V0.cell? ⟨b, 2, none⟩ = some (.int .i64 cs) ∧ V0.cell? ⟨b, 3, none⟩ = some (.int .i64 cd) ∧ V0.cell? ⟨b, 4, none⟩ = some (.int .i64 ca) ∧ V0.cell? ⟨b, 5, none⟩ = some (.int .i64 cl) ∧ V0.cell? ⟨b, 6, none⟩ = some (.int .i64 ch) ∧ V0.cell? ⟨b, 7, none⟩ = some (.int .i8 cm)) ∧ V0.cell? ⟨b + 1, 5, none⟩ = some (.func (.func 35) #[] #[]) := ⟨cmd_cells8 pcV, pfV.cell 5 _ rfl⟩
  have lc := pcV.lt
  have lf := pfV.lt
  have hact := Lib.hid (tpurge_any N S B P J L E T base p aS nS cS aH nH cH aQ nQ cQ t 5 cb cs cd ca cl ch cm V0 HWV hnS hnH hnQ (by omega) hlS)
  refine wp_region_to (S := (fun X => (X.cell? ⟨b, 0, none⟩ = some (.int .i8 5) ∧ X.cell? ⟨b, 1, none⟩ = some (.int .i64 cb) ∧ X.cell? ⟨b, 2, none⟩ = some (.int .i64 cs) ∧ X.cell? ⟨b, 3, none⟩ = some (.int .i64 cd) ∧ X.cell? ⟨b, 4, none⟩ = some (.int .i64 ca) ∧ X.cell? ⟨b, 5, none⟩ = some (.int .i64 cl) ∧ X.cell? ⟨b, 6, none⟩ = some (.int .i64 ch) ∧ X.cell? ⟨b, 7, none⟩ = some (.int .i8 cm)) ∧ X.cell? ⟨b + 1, 5, none⟩ = some (.func (.func 35) #[] #[]))) 5 (by kernel_rfl) (by rw [← zV0]; exact hHeld) (fun _ => ?_)
  rw [← zV0]
  clear zV0 HW hb up0 pc1 pf HWV pcV pfV
  refine wpAnyM_takeA (i := 0) (oi := ⟨some 16, _, _, _, _, _⟩) (v := ?_) rfl (by kernel_rfl) (by kernel_rfl) (by kernel_rfl) (fun _ _ _ h => h) (by decide) (Or.inl ⟨by rfl, ?_⟩) (fun _ => hHeld) ?_
  rotate_left
  focus (intro wq hSq; go_simp; try with_reducible rfl)
  try simp only [Act.put, List.setIfInBounds_toArray, List.set_cons_zero, List.set_cons_succ]
  refine wpAnyM_takeA (i := 1) (oi := ⟨some 17, _, _, _, _, _⟩) (v := ?_) rfl (by kernel_rfl) (by kernel_rfl) (by kernel_rfl) (fun _ _ _ h => h) (by decide) (Or.inl ⟨by rfl, ?_⟩) (fun _ => hHeld) ?_
  rotate_left
  focus (intro wq hSq; go_simp; try with_reducible rfl)
  try simp only [Act.put, List.setIfInBounds_toArray, List.set_cons_zero, List.set_cons_succ]
  refine wpAnyM_take (i := 2) (oi := ⟨some 18, _, _, _, _, _⟩) (v := ?_) rfl (by kernel_rfl) (by kernel_rfl) (by kernel_rfl) (fun _ _ _ h => h) (by decide) (by kernel_rfl) (by kernel_rfl) (Or.inl ⟨by rfl, ?_⟩) (fun _ => hHeld) ?_
  rotate_left
  focus (intro wq hSq; (try dsimp only at hSq); go_simp; try with_reducible rfl)
  try simp only [Act.put, List.setIfInBounds_toArray, List.set_cons_zero, List.set_cons_succ]
  refine wpAnyM_takeA (i := 3) (oi := ⟨some 19, _, _, _, _, _⟩) (v := ?_) rfl (by kernel_rfl) (by kernel_rfl) (by kernel_rfl) (fun _ _ _ h => h) (by decide) (Or.inl ⟨by rfl, ?_⟩) (fun _ => hHeld) ?_
  rotate_left
  focus (intro wq hSq; go_simp; try with_reducible rfl)
  try simp only [Act.put, List.setIfInBounds_toArray, List.set_cons_zero, List.set_cons_succ]
  refine wpAnyM_take (i := 4) (oi := ⟨some 20, _, _, _, _, _⟩) (v := ?_) rfl (by kernel_rfl) (by kernel_rfl) (by kernel_rfl) (fun _ _ _ h => h) (by decide) (by kernel_rfl) (by kernel_rfl) (Or.inl ⟨by rfl, ?_⟩) (fun _ => hHeld) ?_
  rotate_left
  focus (intro wq hSq; (try dsimp only at hSq); go_simp; try with_reducible rfl)
  try simp only [Act.put, List.setIfInBounds_toArray, List.set_cons_zero, List.set_cons_succ]
  refine wpAnyM_ready (rs := [5]) (by kernel_rfl) (by simp) ?_
  refine AllReadyM.cons (o := ⟨some 21, _, _, _, _, _⟩) rfl (fun K hK => ?_) AllReadyM.nil
  go_simp
  refine hact.out.mono ?_
  rintro e w4 ⟨⟨vS4, vH4, vQ4, rfl, hW4⟩, hb4⟩
  have HW4 := Lib.hid hW4
  have hbb := hbV.trans hb4
  clear hW4 hb4 hact hbV
  refine hK.out _ _ (fun h => not_yetW (by kernel_rfl) h) (fun _ => ?_)
  clear hK K
  try simp only [Act.put, List.setIfInBounds_toArray, List.set_cons_zero, List.set_cons_succ]
  refine wpAnyM_done (by kernel_rfl) ?_ _
  clear hHeld lc lf
  go_wp2_with fail
  go_end0
  exact ⟨⟨_, _, _, rfl, HW4.out⟩, hbb⟩

theorem tapply_any (N S B P J L E T : Int) (base p : Nat) (aS : Option Addr) (nS cS : Nat) (aH : Option Addr) (nH cH : Nat) (aQ : Option Addr) (nQ cQ : Nat) (t : TabM) (ck cb cs cd ca cl ch cm : Int) (w : World) (hW : WorkAt N S B P J L E T w base p (.slice aS nS cS) (.slice aH nH cH) (.slice aQ nQ cQ) t) (hnS : t.sl.length = nS) (hnH : t.ho.length = nH) (hnQ : t.qu.length = nQ) (hn : nH + nQ < 1000000) (hlS : nS ≤ 1000000) (hk : 0 ≤ ck ∧ ck ≤ 5) :
    Calls Try.prog 19 #[.pointer (some ⟨p, 0, none⟩), .agg #[.int .i8 ck, .int .i64 cb, .int .i64 cs, .int .i64 cd, .int .i64 ca, .int .i64 cl, .int .i64 ch, .int .i8 cm]] w fun e w' => ActsPost N S B P J L E T base p (actsT B t ck cb cs cd ca cl ch cm) e w' ∧ Below base w w' := by
  rcases (by omega : ck = 0 ∨ ck = 1 ∨ ck = 2 ∨ ck = 3 ∨ ck = 4 ∨ ck = 5) with rfl | rfl | rfl | rfl | rfl | rfl
  · exact tapply0 N S B P J L E T base p aS nS cS aH nH cH aQ nQ cQ t cb cs cd ca cl ch cm w hW hnS hnH hnQ hn hlS
  · exact tapply1 N S B P J L E T base p aS nS cS aH nH cH aQ nQ cQ t cb cs cd ca cl ch cm w hW hnS hnH hnQ hn hlS
  · exact tapply2 N S B P J L E T base p aS nS cS aH nH cH aQ nQ cQ t cb cs cd ca cl ch cm w hW hnS hnH hnQ hn hlS
  · exact tapply3 N S B P J L E T base p aS nS cS aH nH cH aQ nQ cQ t cb cs cd ca cl ch cm w hW hnS hnH hnQ hn hlS
  · exact tapply4 N S B P J L E T base p aS nS cS aH nH cH aQ nQ cQ t cb cs cd ca cl ch cm w hW hnS hnH hnQ hn hlS
  · exact tapply5 N S B P J L E T base p aS nS cS aH nH cH aQ nQ cQ t cb cs cd ca cl ch cm w hW hnS hnH hnQ hn hlS

end Go.Proofs.Ytjknloaolennoaa
