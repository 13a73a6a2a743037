/-
  The program's device: a crash, a start; whether a device may be, is fenced, what a cache has; a new one: by contract.
-/
import Derived.Test.YtleemgjbihdbgaaDevDo
namespace Go.Proofs.Ytleemgjbihdbgaa
open Go.RowKit
set_option linter.unusedVariables false
set_option linter.unusedSimpArgs false

theorem addr_block (a : Addr) (n : Nat) : (a.add n).block = a.block := by unfold Addr.add; split <;> rfl
/-- What comes of a crash, of a start. -/
def crD (D : Dev) (node : Int) (kept : Nat) : Dev := if NodeOk D node then crashD D node.toNat kept else D
def stD (D : Dev) (node : Int) : Dev := if NodeOk D node then startD D node.toNat else D
def nodeE (D : Dev) (node : Int) : Int := if NodeOk D node then 0 else 2

set_option maxRecDepth 100000 in
set_option maxHeartbeats 4000000 in
theorem devCrash_any (v : Value) (D : Dev) (node : Int) (kept : Nat) (w : World) (hD : DevAt w w.heap.size v D) (hm : MayD D) (hS : Small D 1099511627776) (hk64 : kept < 18446744073709551616) :
    Calls Try.prog 19 #[v, .int .i64 node, .int .u64 (kept : Int)] w (DevPost (crD D node kept) (nodeE D node) w) := by
  obtain ⟨vS, vC, vK, vF, e1, _⟩ := id hD
  obtain ⟨W0, hW⟩ : ∃ W0, W0 = (w.alloc (.cells #[vS, vC, vK, .int .i64 D.n, vF] 29)).alloc (.cells #[.slice none 0 0, .slice none 0 0, .slice none 0 0, .int .i64 0, .slice none 0 0] 29) := ⟨_, rfl⟩
  have hb0 : Below w.heap.size w W0 := by rw [hW]; exact ((Below.refl _ _).alloc (Nat.le_refl _) _).alloc (by simp) _
  have r0 : Blk W0 (w.heap.size + 1) #[.slice none 0 0, .slice none 0 0, .slice none 0 0, .int .i64 0, .slice none 0 0] 29 := by
    have h1 := Blk.new (w.alloc (.cells #[vS, vC, vK, .int .i64 D.n, vF] 29)) #[.slice none 0 0, .slice none 0 0, .slice none 0 0, .int .i64 0, .slice none 0 0] 29
    rw [← hW] at h1
    simpa using h1
  have hc := at_any _ D node W0 (hD.up hb0) hS
  subst e1
  clear hD
  go_enter Try.func19, Try.ntmps19
  go_wp2_with fail
  rw [← hW]
  clear hW
  refine hc.mono ?_
  rintro e w1 ⟨b, rfl, hA, hb1⟩
  have r1 := r0.below hb1 r0.lt
  have HA1 := Lib.hid hA
  have hl1 := hb1.size
  have hr0 := r0.lt
  have hc2 := isThere_all W0.heap.size b D node w1 hA hm hS
  clear hc hA r0
  by_cases hN : NodeOk D node
  · rw [decide_eq_true hN] at hc2
    have HP0 : Hid ((crD D node kept) = (crashD D node.toNat kept)) := if_pos hN
    have HE : Hid (nodeE D node = 0) := if_pos hN
    obtain ⟨i, hi0⟩ := Int.eq_ofNat_of_zero_le hN.1
    have hi : i < D.K.length := by have := hN.2; omega
    subst hi0
    go_wp2_with fail
    refine hc2.mono ?_
    rintro e w2 ⟨rfl, hb2⟩
    clear hc2
    have r2 := r1.below hb2 (by omega)
    have hbW := hb0.trans ((hb1.mono hb0.size).trans (hb2.mono (Nat.le_trans hb0.size hl1)))
    have hl2 := hb2.size
    have hc3 := crash_any W0.heap.size b D i kept w2 (HA1.out.up hb2) (by rw [hm.ck]; exact hi) hi hm hS (by omega) hk64
    clear r1 HA1 hb1 hb2
    go_wp2_with fail
    refine hc3.mono ?_
    rintro e w3 ⟨rfl, ⟨aS, aC, aK, aF, f, hA3⟩, hb3⟩
    obtain ⟨qS, zS, rfl, -, -⟩ := own_shape2 hA3.d.s
    obtain ⟨qC, zC, rfl, -, -⟩ := own_shape2 hA3.d.c
    obtain ⟨qK, zK, rfl, -, -⟩ := own_shape2 hA3.d.k
    obtain ⟨qF, zF, rfl, -, -⟩ := own_shape2 hA3.d.ff
    have r3 := r2.below hb3 hr0
    obtain ⟨h1, h2, h3⟩ := into5_act (w := w) (B0 := w.heap.size) hA3 r3 rfl (by omega) (hbW.trans (hb3.mono (by omega))) (by omega)
    have H1 := Lib.hid h1
    have H2 := Lib.hid h2
    have H3 := Lib.hid h3
    have hbx := hA3.box
    have a0 := hbx.c0
    have a1 := hbx.c1
    have a2 := hbx.c2
    have a3 := hbx.c3
    have a4 := hbx.c4
    have d0 := r3.cell 0 _ rfl
    have d1 := r3.cell 1 _ rfl
    have d2 := r3.cell 2 _ rfl
    have d3 := r3.cell 3 _ rfl
    have d4 := r3.cell 4 _ rfl
    have f0 := r3.free 0
    have f1 := r3.free 1
    have f2 := r3.free 2
    have f3 := r3.free 3
    have f4 := r3.free 4
    clear hc3 h1 h2 h3 hbx hA3 r3 hb3
    go_wp2_with fail
    refine bodyPost_ret (results_c2 (cs := [.slice qS _ zS, .slice qC _ zC, .slice qK _ zK, .int .i64 (crashD D i kept).n, .slice qF _ zF]) Try.results19 (by rfl) (by rfl) H1.out Try.underlying29 rfl (by kernel_rfl)) rfl ?_
    rw [HP0.out, HE.out]
    exact devPost_of H2.out H3.out rfl
  · rw [decide_eq_false hN] at hc2
    have HP0 : Hid ((crD D node kept) = D) := if_neg hN
    have HE : Hid (nodeE D node = 2) := if_neg hN
    clear hN
    go_wp2_with fail
    refine hc2.mono ?_
    rintro e w2 ⟨rfl, hb2⟩
    clear hc2
    have r2 := r1.below hb2 (by omega)
    have hbW := hb0.trans ((hb1.mono hb0.size).trans (hb2.mono (Nat.le_trans hb0.size hl1)))
    obtain ⟨aS, aC, aK, aF, f, hA3⟩ := HA1.out.up hb2
    obtain ⟨qS, zS, rfl, -, -⟩ := own_shape2 hA3.d.s
    obtain ⟨qC, zC, rfl, -, -⟩ := own_shape2 hA3.d.c
    obtain ⟨qK, zK, rfl, -, -⟩ := own_shape2 hA3.d.k
    obtain ⟨qF, zF, rfl, -, -⟩ := own_shape2 hA3.d.ff
    obtain ⟨h1, h2, h3⟩ := into5_act (w := w) (B0 := w.heap.size) hA3 r2 rfl (by omega) hbW (by omega)
    have H1 := Lib.hid h1
    have H2 := Lib.hid h2
    have H3 := Lib.hid h3
    have hbx := hA3.box
    have a0 := hbx.c0
    have a1 := hbx.c1
    have a2 := hbx.c2
    have a3 := hbx.c3
    have a4 := hbx.c4
    have d0 := r2.cell 0 _ rfl
    have d1 := r2.cell 1 _ rfl
    have d2 := r2.cell 2 _ rfl
    have d3 := r2.cell 3 _ rfl
    have d4 := r2.cell 4 _ rfl
    have f0 := r2.free 0
    have f1 := r2.free 1
    have f2 := r2.free 2
    have f3 := r2.free 3
    have f4 := r2.free 4
    clear h1 h2 h3 hbx hA3 r2 r1 HA1
    go_wp2_with fail
    refine bodyPost_ret (results_c2 (cs := [.slice qS _ zS, .slice qC _ zC, .slice qK _ zK, .int .i64 D.n, .slice qF _ zF]) Try.results19 (by rfl) (by rfl) H1.out Try.underlying29 rfl (by kernel_rfl)) rfl ?_
    rw [HP0.out, HE.out]
    exact devPost_of H2.out H3.out rfl

set_option maxRecDepth 100000 in
set_option maxHeartbeats 4000000 in
theorem devStart_any (v : Value) (D : Dev) (node : Int) (w : World) (hD : DevAt w w.heap.size v D) (hm : MayD D) (hS : Small D 1099511627776) :
    Calls Try.prog 24 #[v, .int .i64 node] w (DevPost (stD D node) (nodeE D node) w) := by
  obtain ⟨vS, vC, vK, vF, e1, _⟩ := id hD
  obtain ⟨W0, hW⟩ : ∃ W0, W0 = (w.alloc (.cells #[vS, vC, vK, .int .i64 D.n, vF] 29)).alloc (.cells #[.slice none 0 0, .slice none 0 0, .slice none 0 0, .int .i64 0, .slice none 0 0] 29) := ⟨_, rfl⟩
  have hb0 : Below w.heap.size w W0 := by rw [hW]; exact ((Below.refl _ _).alloc (Nat.le_refl _) _).alloc (by simp) _
  have r0 : Blk W0 (w.heap.size + 1) #[.slice none 0 0, .slice none 0 0, .slice none 0 0, .int .i64 0, .slice none 0 0] 29 := by
    have h1 := Blk.new (w.alloc (.cells #[vS, vC, vK, .int .i64 D.n, vF] 29)) #[.slice none 0 0, .slice none 0 0, .slice none 0 0, .int .i64 0, .slice none 0 0] 29
    rw [← hW] at h1
    simpa using h1
  have hc := at_any _ D node W0 (hD.up hb0) hS
  subst e1
  clear hD
  go_enter Try.func24, Try.ntmps24
  go_wp2_with fail
  rw [← hW]
  clear hW
  refine hc.mono ?_
  rintro e w1 ⟨b, rfl, hA, hb1⟩
  have r1 := r0.below hb1 r0.lt
  have HA1 := Lib.hid hA
  have hl1 := hb1.size
  have hr0 := r0.lt
  have hc2 := isThere_all W0.heap.size b D node w1 hA hm hS
  clear hc hA r0
  by_cases hN : NodeOk D node
  · rw [decide_eq_true hN] at hc2
    have HP0 : Hid ((stD D node) = (startD D node.toNat)) := if_pos hN
    have HE : Hid (nodeE D node = 0) := if_pos hN
    obtain ⟨i, hi0⟩ := Int.eq_ofNat_of_zero_le hN.1
    have hi : i < D.K.length := by have := hN.2; omega
    subst hi0
    go_wp2_with fail
    refine hc2.mono ?_
    rintro e w2 ⟨rfl, hb2⟩
    clear hc2
    have r2 := r1.below hb2 (by omega)
    have hbW := hb0.trans ((hb1.mono hb0.size).trans (hb2.mono (Nat.le_trans hb0.size hl1)))
    have hl2 := hb2.size
    have hc3 := start_any W0.heap.size b D i w2 (HA1.out.up hb2) (by rw [hm.ck]; exact hi) hi (by omega)
    clear r1 HA1 hb1 hb2
    go_wp2_with fail
    refine hc3.mono ?_
    rintro e w3 ⟨rfl, ⟨aS, aC, aK, aF, f, hA3⟩, hb3⟩
    obtain ⟨qS, zS, rfl, -, -⟩ := own_shape2 hA3.d.s
    obtain ⟨qC, zC, rfl, -, -⟩ := own_shape2 hA3.d.c
    obtain ⟨qK, zK, rfl, -, -⟩ := own_shape2 hA3.d.k
    obtain ⟨qF, zF, rfl, -, -⟩ := own_shape2 hA3.d.ff
    have r3 := r2.below hb3 hr0
    obtain ⟨h1, h2, h3⟩ := into5_act (w := w) (B0 := w.heap.size) hA3 r3 rfl (by omega) (hbW.trans (hb3.mono (by omega))) (by omega)
    have H1 := Lib.hid h1
    have H2 := Lib.hid h2
    have H3 := Lib.hid h3
    have hbx := hA3.box
    have a0 := hbx.c0
    have a1 := hbx.c1
    have a2 := hbx.c2
    have a3 := hbx.c3
    have a4 := hbx.c4
    have d0 := r3.cell 0 _ rfl
    have d1 := r3.cell 1 _ rfl
    have d2 := r3.cell 2 _ rfl
    have d3 := r3.cell 3 _ rfl
    have d4 := r3.cell 4 _ rfl
    have f0 := r3.free 0
    have f1 := r3.free 1
    have f2 := r3.free 2
    have f3 := r3.free 3
    have f4 := r3.free 4
    clear hc3 h1 h2 h3 hbx hA3 r3 hb3
    go_wp2_with fail
    refine bodyPost_ret (results_c2 (cs := [.slice qS _ zS, .slice qC _ zC, .slice qK _ zK, .int .i64 (startD D i).n, .slice qF _ zF]) Try.results24 (by rfl) (by rfl) H1.out Try.underlying29 rfl (by kernel_rfl)) rfl ?_
    rw [HP0.out, HE.out]
    exact devPost_of H2.out H3.out rfl
  · rw [decide_eq_false hN] at hc2
    have HP0 : Hid ((stD D node) = D) := if_neg hN
    have HE : Hid (nodeE D node = 2) := if_neg hN
    clear hN
    go_wp2_with fail
    refine hc2.mono ?_
    rintro e w2 ⟨rfl, hb2⟩
    clear hc2
    have r2 := r1.below hb2 (by omega)
    have hbW := hb0.trans ((hb1.mono hb0.size).trans (hb2.mono (Nat.le_trans hb0.size hl1)))
    obtain ⟨aS, aC, aK, aF, f, hA3⟩ := HA1.out.up hb2
    obtain ⟨qS, zS, rfl, -, -⟩ := own_shape2 hA3.d.s
    obtain ⟨qC, zC, rfl, -, -⟩ := own_shape2 hA3.d.c
    obtain ⟨qK, zK, rfl, -, -⟩ := own_shape2 hA3.d.k
    obtain ⟨qF, zF, rfl, -, -⟩ := own_shape2 hA3.d.ff
    obtain ⟨h1, h2, h3⟩ := into5_act (w := w) (B0 := w.heap.size) hA3 r2 rfl (by omega) hbW (by omega)
    have H1 := Lib.hid h1
    have H2 := Lib.hid h2
    have H3 := Lib.hid h3
    have hbx := hA3.box
    have a0 := hbx.c0
    have a1 := hbx.c1
    have a2 := hbx.c2
    have a3 := hbx.c3
    have a4 := hbx.c4
    have d0 := r2.cell 0 _ rfl
    have d1 := r2.cell 1 _ rfl
    have d2 := r2.cell 2 _ rfl
    have d3 := r2.cell 3 _ rfl
    have d4 := r2.cell 4 _ rfl
    have f0 := r2.free 0
    have f1 := r2.free 1
    have f2 := r2.free 2
    have f3 := r2.free 3
    have f4 := r2.free 4
    clear h1 h2 h3 hbx hA3 r2 r1 HA1
    go_wp2_with fail
    refine bodyPost_ret (results_c2 (cs := [.slice qS _ zS, .slice qC _ zC, .slice qK _ zK, .int .i64 D.n, .slice qF _ zF]) Try.results24 (by rfl) (by rfl) H1.out Try.underlying29 rfl (by kernel_rfl)) rfl ?_
    rw [HP0.out, HE.out]
    exact devPost_of H2.out H3.out rfl

set_option maxRecDepth 100000 in
theorem devCheck_any (v : Value) (D : Dev) (b : Bool) (w : World) (hD : DevAt w w.heap.size v D) (hS : D.S.length ≤ 1099511627776) (hb : sMayB D.S = b) (hm : b = true → MayD D) :
    Calls Try.prog 13 #[v] w fun e w' => e = .returned (.int .i64 (if b then 0 else 2)) ∧ Below w.heap.size w w' := by
  obtain ⟨vS, vC, vK, vF, e1, _⟩ := id hD
  obtain ⟨W0, hW⟩ : ∃ W0, W0 = w.alloc (.cells #[vS, vC, vK, .int .i64 D.n, vF] 29) := ⟨_, rfl⟩
  have hb0 : Below w.heap.size w W0 := hW ▸ below_alloc w _
  have hc := may_any _ D b W0 (hD.up hb0) hS hb hm
  subst e1
  clear hD hb hm
  cases b
  all_goals go_enter Try.func13, Try.ntmps13
  all_goals go_wp2_with fail
  all_goals rw [← hW]
  all_goals refine hc.mono ?_
  all_goals rintro e w1 ⟨rfl, hb1⟩
  all_goals go_wp2_with fail
  all_goals go_ret
  all_goals exact ⟨rfl, below_then hb0 hb1⟩

set_option maxRecDepth 100000 in
theorem devFenced_any (v : Value) (D : Dev) (A : Option Addr) (n c : Nat) (keys : List Int) (w : World) (hD : DevAt w w.heap.size v D) (hA : Lies w w.heap.size A n (keys.map (Value.int .i64))) (hl : keys.length = n) (hn : n ≤ maxLen) :
    Calls Try.prog 16 #[v, .slice A n c] w fun e w' => e = .returned (.bool (fencedAny D.F keys)) ∧ Below w.heap.size w w' := by
  obtain ⟨vS, vC, vK, vF, e1, _⟩ := id hD
  obtain ⟨W0, hW⟩ : ∃ W0, W0 = w.alloc (.cells #[vS, vC, vK, .int .i64 D.n, vF] 29) := ⟨_, rfl⟩
  have hb0 : Below w.heap.size w W0 := hW ▸ below_alloc w _
  have hc := isFenced_any _ D A n c keys W0 (hD.up hb0) (lies_up hA hb0) hl hn
  subst e1
  clear hD hA
  go_enter Try.func16, Try.ntmps16
  go_wp2_with fail
  rw [← hW]
  refine hc.mono ?_
  rintro e w1 ⟨rfl, hb1⟩
  go_wp2_with fail
  go_ret
  exact ⟨rfl, below_then hb0 hb1⟩

set_option maxRecDepth 100000 in
theorem devCached_any (v : Value) (D : Dev) (i : Nat) (w : World) (hD : DevAt w w.heap.size v D) (hi : i < D.C.length) :
    Calls Try.prog 18 #[v, .int .i64 (i : Int)] w fun e w' => e = .returned (.int .i64 ((cacheOf D i).length : Int)) ∧ Below w.heap.size w w' := by
  obtain ⟨vS, vC, vK, vF, rfl, _, ⟨aC, cC, rfl, hCc, hCm, f, hC, hCs⟩, _, _⟩ := hD
  obtain ⟨ad, a, m, c, rfl, hab, hcc, e2, hml, hmc, hcm, hla⟩ := slC_at hC hCs rfl hi
  obtain ⟨W0, hW⟩ : ∃ W0, W0 = w.alloc (.cells #[vS, .slice (some ad) D.C.length cC, vK, .int .i64 D.n, vF] 29) := ⟨_, rfl⟩
  have hb0 : Below w.heap.size w W0 := hW ▸ below_alloc w _
  have hcc0 : W0.cell? (ad.add i) = some (.slice a m c) := (hb0.cell (p := ad.add i) (by rw [addr_block]; exact hab)).trans hcc
  have c1 : W0.cell? ⟨w.heap.size, 1, none⟩ = some (.slice (some ad) D.C.length cC) := hW ▸ (Blk.new w _ _).cell 1 _ rfl
  rw [hW] at hcc0 c1
  have hml' : (cacheOf D i).length = m := hml
  rw [hml']
  have i0 : (0 : Int) ≤ (i : Int) := by omega
  have i1 : (i : Int) < (D.C.length : Int) := by omega
  have d0 : decide ((i : Int) < 0) = false := decide_eq_false (by omega)
  have d1 : decide (D.C.length ≤ i) = false := decide_eq_false (by omega)
  have d2 : decide ((D.C.length : Int) ≤ (i : Int)) = false := decide_eq_false (by omega)
  generalize D.C.length = nC at *
  clear hC hCs hla e2 hml hml' hcc
  go_enter Try.func18, Try.ntmps18
  go_wp2_with fail
  go_ret
  exact ⟨rfl, hW ▸ hb0⟩

end Go.Proofs.Ytleemgjbihdbgaa
