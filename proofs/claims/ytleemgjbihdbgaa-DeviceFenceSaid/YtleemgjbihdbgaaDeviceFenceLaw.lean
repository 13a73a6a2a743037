/-
  The statement DeviceFence: behind a fence nothing that a node does, and no crash of it, changes a sector, till it registers anew: for all sectors, all deeds and every node the call answers true and leaves its arguments as they were. No conditions.
-/
import Derived.Test.YtleemgjbihdbgaaDevShut
import Derived.Test.YtleemgjbihdbgaaHeldTo
import Derived.Test.YtleemgjbihdbgaaDevWakes
import Derived.Test.YtleemgjbihdbgaaJoinDevRefNew
import Derived.Test.YtleemgjbihdbgaaDevSame
import Derived.Test.YtleemgjbihdbgaaOpenRows
import Derived.Test.YtleemgjbihdbgaaDevSmall
import Derived.ProofKit
import Derived.Deep.DeepCutAuto
import Derived.Deep.AppendLies
import Derived.ShutString
import Derived.ChangeOld
import Derived.Below
namespace Go.Proofs.Ytleemgjbihdbgaa.deviceFence
open Go.ChangeShapes Go.WideShapes Go.ChangeAt Go.RowKit Go.Deep
open Go.ChangeMaps (open_string shut_string)
set_option linter.unusedVariables false
set_option linter.unusedSimpArgs false

theorem own : ownKnob Try.prog.godebug = none := by kernel_rfl
theorem laidOut : laidOutB Try.prog = true := by kernel_rfl
theorem not_yet {b : Bool} {p : Prop} (e : b = true) (h : b = false) : p := by rw [e] at h; cases h
theorem deeds_len {w : World} {a : Option Addr} {n c : Nat} {X : Nat → DeedM} (h : IsDeeds w a n c X) : n ≤ maxLen := by
  rcases h with ⟨_, h1, _⟩ | ⟨_, _, h1, h2, _⟩
  · omega
  · omega
theorem deeds_at {w : World} {a : Option Addr} {n c : Nat} {X : Nat → DeedM} (h : IsDeeds w a n c X) (hn : 0 < n) : ∃ p : Addr, a = some p ∧ ∀ i, i < n → DeedAt w (p.add (i * 7)) (X i) ∧ DeedBd (X i) := by
  rcases h with ⟨_, h1, _⟩ | ⟨p, h1, _, _, h4⟩
  · omega
  · exact ⟨p, h1, h4⟩
theorem ints_new (w : World) (C : Array Value) (t : TypeId) (m : Nat × Nat) : Lies (w.alloc (.cells C t m)) (w.alloc (.cells C t m)).heap.size (some ⟨w.heap.size, 0, none⟩) C.size C.toList := by
  refine ⟨by simp, fun _ => ⟨_, rfl, by simp, fun j u hj => ?_⟩⟩
  have hc : (⟨w.heap.size, 0, none⟩ : Addr).add j = ⟨w.heap.size, j, none⟩ := by
    unfold Addr.add
    by_cases h0 : j = 0 <;> simp [h0]
  rw [hc]
  have e := World.cell?_alloc_mark w C t m j
  rw [e, ← hj]
  simp
set_option maxRecDepth 100000 in
set_option maxHeartbeats 2000000 in
theorem walk (a0 : Option Addr) (n0 c0 : Nat) (z0 : List ByteArray) (a1 : Option Addr) (n1 c1 : Nat) (X1 : Nat → DeedM) (a2 : Int) (a3 : Option Addr) (n3 c3 : Nat) (X3 : Nat → DeedM) (w : World) (w0 : IsStrs w a0 n0 c0 z0) (w1 : IsDeeds w a1 n1 c1 X1) (w2 : (Lit.int .i64 a2).wf = true) (w3 : IsDeeds w a3 n3 c3 X3) :
    Calls Try.prog 4 #[.slice a0 n0 c0, .slice a1 n1 c1, .int .i64 a2, .slice a3 n3 c3] w fun e w' => e = .returned (.bool true) ∧ Below w.heap.size w w' := by
  obtain ⟨hS, hsz, hn0, hl0⟩ := lies_of_strs w0
  generalize z0.take n0 = S at *
  have hn1 := deeds_len w1
  have hn3 := deeds_len w3
  unfold maxLen at hn0 hn1 hn3
  clear w0 w2
  go_enter Try.func4, Try.ntmps4
  by_cases h40 : 40 < n0
  · have d1 : decide ((40 : Int) < (n0 : Int)) = true := decide_eq_true (by omega)
    go_wp2_with fail
    refine (wakes_any w).mono ?_
    rintro e v9 ⟨rfl, hb9⟩
    go_wp2_with fail
    go_ret
    exact ⟨rfl, hb9⟩
  · have d1 : decide ((40 : Int) < (n0 : Int)) = false := decide_eq_false (by omega)
    have hg1 := great_any a1 n1 c1 X1 w w w1 (Below.refl _ _)
    obtain ⟨G1, hG1⟩ : ∃ G, greatB X1 n1 = G := ⟨_, rfl⟩
    rw [hG1] at hg1
    have hg3 := great_any a3 n3 c3 X3 w w w3 (Below.refl _ _)
    obtain ⟨G3, hG3⟩ : ∃ G, greatB X3 n3 = G := ⟨_, rfl⟩
    rw [hG3] at hg3
    go_wp2_with fail
    refine hg1.mono ?_
    rintro e v1 ⟨rfl, rfl⟩
    clear hg1
    cases G1
    rotate_left
    · go_wp2_with fail
      refine (wakes_any w).mono ?_
      rintro e v9 ⟨rfl, hb9⟩
      go_wp2_with fail
      go_ret
      exact ⟨rfl, hb9⟩
    go_wp2_with fail
    refine hg3.mono ?_
    rintro e v1 ⟨rfl, rfl⟩
    clear hg3
    cases G3
    rotate_left
    · go_wp2_with fail
      refine (wakes_any w).mono ?_
      rintro e v9 ⟨rfl, hb9⟩
      go_wp2_with fail
      go_ret
      exact ⟨rfl, hb9⟩
    by_cases hx0 : a2 < 0
    · have d2 : decide (a2 < 0) = true := decide_eq_true hx0
      go_wp2_with fail
      refine (wakes_any w).mono ?_
      rintro e v9 ⟨rfl, hb9⟩
      go_wp2_with fail
      go_ret
      exact ⟨rfl, hb9⟩
    by_cases hx3 : 3 < a2
    · have d2 : decide (a2 < 0) = false := decide_eq_false hx0
      have d3 : decide (3 < a2) = true := decide_eq_true hx3
      go_wp2_with fail
      refine (wakes_any w).mono ?_
      rintro e v9 ⟨rfl, hb9⟩
      go_wp2_with fail
      go_ret
      exact ⟨rfl, hb9⟩
    obtain ⟨N, rfl⟩ := Int.eq_ofNat_of_zero_le (show 0 ≤ a2 by omega)
    have hN3 : N ≤ 3 := by omega
    have hNi : (0 : Int) ≤ (N : Int) := by omega
    have d2 : decide ((N : Int) < 0) = false := decide_eq_false hx0
    have d3 : decide ((3 : Int) < (N : Int)) = false := decide_eq_false hx3
    clear hx0 hx3
    have hgn1 := (great_no hG1).1
    have hgn3 := (great_no hG3).1
    clear hG1 hG3
    have hnew := refNew_any 5 a0 n0 c0 S w hS hl0 (by omega)
    have HF0 : Hid (nwE 5 S = 0 → Five (nwD 5 S) 1) := fun h => five_new h (by omega)
    generalize nwD 5 S = D0 at *
    generalize nwE 5 S = E at *
    clear hS hsz hl0
    go_wp2_with fail
    refine hnew.mono ?_
    rintro e v1 ⟨uS, uC, uK, uF, g, rfl, hO1, hb1⟩
    obtain ⟨xS, yS, xC, yC, xK, yK, xF, yF, rfl, rfl, rfl, rfl⟩ := own_shapes hO1
    have hvA := var_new hO1
    obtain ⟨V1, hV1⟩ : ∃ V, V = v1.alloc (.cells #[.slice xS D0.S.length yS, .slice xC D0.C.length yC, .slice xK D0.K.length yK, .int .i64 D0.n, .slice xF D0.F.length yF] 29) := ⟨_, rfl⟩
    rw [← hV1] at hvA
    have hbV1 : Below w.heap.size w V1 := by rw [hV1]; exact hb1.alloc hb1.size _
    obtain ⟨qa, hqa⟩ : ∃ q, Hid (v1.heap.size = q) := ⟨_, rfl⟩
    have HQA : Hid (w.heap.size ≤ qa) := by show _ ≤ _; rw [← hqa.out]; exact hb1.size
    rw [hqa.out] at hvA
    clear hnew hO1 hb1
    go_wp2_with fail
    rw [← hV1, hqa.out]
    clear hV1 hqa
    go_loopw [11] (fun i wr => ∃ (k : Nat) (Dk : Dev), k ≤ n1 ∧ i = .int .i64 (k : Int) ∧ VarAt wr w.heap.size qa Dk ∧ Below w.heap.size w wr ∧ Hid (E = 0 → Five Dk (1 + (k : Int)))) (fun i _ => n1 - (intOf i).toNat)
    case atStart => exact ⟨0, D0, Nat.zero_le _, rfl, hvA, hbV1, HF0⟩
    case round =>
      clear hvA hbV1 HF0
      obtain ⟨k, Dk, hk, rfl, hvA, hbr, HM⟩ := hrel
      by_cases hE : E = 0
      rotate_left
      · have hEb : (E == 0) = false := by simpa using hE
        have hEn : (E != 0) = true := by simpa using hE
        by_cases hlt : k < n1
        · go_wp2_with fail
          refine (wakes_any wr).mono ?_
          rintro e v9 ⟨rfl, hb9⟩
          have hb10 := hbr.trans (hb9.mono hbr.size)
          go_wp2_with fail
          go_ret
          exact ⟨rfl, hb10⟩
        · have hkn : k = n1 := by omega
          clear hlt
          go_wp2_with fail
          refine (wakes_any wr).mono ?_
          rintro e v9 ⟨rfl, hb9⟩
          have hb10 := hbr.trans (hb9.mono hbr.size)
          go_wp2_with fail
          go_ret
          exact ⟨rfl, hb10⟩
      subst hE
      have hF := HM.out rfl
      clear HM
      by_cases hlt : k < n1
      · obtain ⟨p, rfl, hD⟩ := deeds_at w1 (by omega)
        obtain ⟨hdk, hbd⟩ := hD k hlt
        obtain ⟨vS, vC, vK, vF, gA, hOA, kA⟩ := id hvA
        obtain ⟨sS, tS, sC, tC, sK, tK, sF, tF, rfl, rfl, rfl, rfl⟩ := own_shapes hOA
        obtain ⟨k0, k1, k2, k3, k4⟩ := five_cells kA
        obtain ⟨e0, e1, e2, e3, e4, e5, e6⟩ := deed_cells hdk hbr
        have hkeep : ∀ wx : World, Below wr.heap.size wr wx → (wx.cell? ⟨qa, 0, none⟩ = some (.slice sS Dk.S.length tS) ∧ wx.cell? ⟨qa, 1, none⟩ = some (.slice sC Dk.C.length tC) ∧ wx.cell? ⟨qa, 2, none⟩ = some (.slice sK Dk.K.length tK) ∧ wx.cell? ⟨qa, 3, none⟩ = some (.int .i64 Dk.n) ∧ wx.cell? ⟨qa, 4, none⟩ = some (.slice sF Dk.F.length tF) ∧ wx.cell? (p.add (k * 7)) = some (.int .i64 (X1 k).dk) ∧ wx.cell? ⟨(p.add (k * 7)).block, (p.add (k * 7)).off + 1, none⟩ = some (.int .i64 (X1 k).node) ∧ wx.cell? ⟨(p.add (k * 7)).block, (p.add (k * 7)).off + 2, none⟩ = some (.int .i8 (X1 k).a.k) ∧ wx.cell? ⟨(p.add (k * 7)).block, (p.add (k * 7)).off + 3, none⟩ = some (.int .i64 (X1 k).a.s) ∧ wx.cell? ⟨(p.add (k * 7)).block, (p.add (k * 7)).off + 4, none⟩ = some (.string (X1 k).a.b) ∧ wx.cell? ⟨(p.add (k * 7)).block, (p.add (k * 7)).off + 5, none⟩ = some (.int .i64 (X1 k).a.key) ∧ wx.cell? ⟨(p.add (k * 7)).block, (p.add (k * 7)).off + 6, none⟩ = some (.int .u64 ((X1 k).kept : Int))) := fun wx hx => by
          obtain ⟨j0, j1, j2, j3, j4⟩ := five_cells (kA.below hx kA.lt)
          obtain ⟨f0, f1, f2, f3, f4, f5, f6⟩ := deed_cells hdk (hbr.trans (hx.mono hbr.size))
          exact ⟨j0, j1, j2, j3, j4, f0, f1, f2, f3, f4, f5, f6⟩
        have hhis := his_any w.heap.size _ _ _ _ gA Dk (X1 k).dk (X1 k).node (X1 k).a (X1 k).kept wr.drew (hOA.up ((Below.refl _ _).drew)) hbr.size hF.may hF.small hbd.a hbd.b hbd.kept
        have HFN := Lib.hid (five_deed hF (X1 k))
        obtain ⟨DN, hDN⟩ : ∃ d, Hid (deedD Dk (X1 k) = d) := ⟨_, rfl⟩
        rw [show deedD Dk ⟨(X1 k).dk, (X1 k).node, (X1 k).a, (X1 k).kept⟩ = DN from hDN.out] at hhis
        rw [hDN.out] at HFN
        clear hDN
        generalize deedS Dk ⟨(X1 k).dk, (X1 k).node, (X1 k).a, (X1 k).kept⟩ = SN at hhis
        generalize deedE Dk ⟨(X1 k).dk, (X1 k).node, (X1 k).a, (X1 k).kept⟩ = EN at hhis
        have hHeld := hkeep wr.drew ((Below.refl _ _).drew)
        go_wp2_with fail
        refine wp_region_to (S := (fun w' => w'.cell? ⟨qa, 0, none⟩ = some (.slice sS Dk.S.length tS) ∧ w'.cell? ⟨qa, 1, none⟩ = some (.slice sC Dk.C.length tC) ∧ w'.cell? ⟨qa, 2, none⟩ = some (.slice sK Dk.K.length tK) ∧ w'.cell? ⟨qa, 3, none⟩ = some (.int .i64 Dk.n) ∧ w'.cell? ⟨qa, 4, none⟩ = some (.slice sF Dk.F.length tF) ∧ w'.cell? (p.add (k * 7)) = some (.int .i64 (X1 k).dk) ∧ w'.cell? ⟨(p.add (k * 7)).block, (p.add (k * 7)).off + 1, none⟩ = some (.int .i64 (X1 k).node) ∧ w'.cell? ⟨(p.add (k * 7)).block, (p.add (k * 7)).off + 2, none⟩ = some (.int .i8 (X1 k).a.k) ∧ w'.cell? ⟨(p.add (k * 7)).block, (p.add (k * 7)).off + 3, none⟩ = some (.int .i64 (X1 k).a.s) ∧ w'.cell? ⟨(p.add (k * 7)).block, (p.add (k * 7)).off + 4, none⟩ = some (.string (X1 k).a.b) ∧ w'.cell? ⟨(p.add (k * 7)).block, (p.add (k * 7)).off + 5, none⟩ = some (.int .i64 (X1 k).a.key) ∧ w'.cell? ⟨(p.add (k * 7)).block, (p.add (k * 7)).off + 6, none⟩ = some (.int .u64 ((X1 k).kept : Int)))) 10 (by kernel_rfl) hHeld (fun _ => ?_)
        refine wpAnyM_take (i := 0) (oi := ⟨some 56, _, _, _, _, _⟩) (v := ?_) rfl (by kernel_rfl) (by kernel_rfl) (by kernel_rfl) (fun _ _ _ h => h) (by decide) (by kernel_rfl) (by kernel_rfl) (Or.inl ⟨by rfl, ?_⟩) (fun _ => hHeld) ?_
        rotate_left
        focus (intro wq hSq; (try dsimp only at hSq); go_simp; try with_reducible rfl)
        try simp only [Act.put, List.setIfInBounds_toArray, List.set_cons_zero, List.set_cons_succ]
        refine wpAnyM_take (i := 1) (oi := ⟨some 57, _, _, _, _, _⟩) (v := ?_) rfl (by kernel_rfl) (by kernel_rfl) (by kernel_rfl) (fun _ _ _ h => h) (by decide) (by kernel_rfl) (by kernel_rfl) (Or.inl ⟨by rfl, ?_⟩) (fun _ => hHeld) ?_
        rotate_left
        focus (intro wq hSq; (try dsimp only at hSq); go_simp; try with_reducible rfl)
        try simp only [Act.put, List.setIfInBounds_toArray, List.set_cons_zero, List.set_cons_succ]
        refine wpAnyM_take (i := 2) (oi := ⟨some 58, _, _, _, _, _⟩) (v := ?_) rfl (by kernel_rfl) (by kernel_rfl) (by kernel_rfl) (fun _ _ _ h => h) (by decide) (by kernel_rfl) (by kernel_rfl) (Or.inl ⟨by rfl, ?_⟩) (fun _ => hHeld) ?_
        rotate_left
        focus (intro wq hSq; (try dsimp only at hSq); go_simp; try with_reducible rfl)
        try simp only [Act.put, List.setIfInBounds_toArray, List.set_cons_zero, List.set_cons_succ]
        refine wpAnyM_take (i := 3) (oi := ⟨some 59, _, _, _, _, _⟩) (v := ?_) rfl (by kernel_rfl) (by kernel_rfl) (by kernel_rfl) (fun _ _ _ h => h) (by decide) (by kernel_rfl) (by kernel_rfl) (Or.inl ⟨by rfl, ?_⟩) (fun _ => hHeld) ?_
        rotate_left
        focus (intro wq hSq; (try dsimp only at hSq); go_simp; try with_reducible rfl)
        try simp only [Act.put, List.setIfInBounds_toArray, List.set_cons_zero, List.set_cons_succ]
        refine wpAnyM_take (i := 4) (oi := ⟨some 60, _, _, _, _, _⟩) (v := ?_) rfl (by kernel_rfl) (by kernel_rfl) (by kernel_rfl) (fun _ _ _ h => h) (by decide) (by kernel_rfl) (by kernel_rfl) (Or.inl ⟨by rfl, ?_⟩) (fun _ => hHeld) ?_
        rotate_left
        focus (intro wq hSq; (try dsimp only at hSq); go_simp; try with_reducible rfl)
        try simp only [Act.put, List.setIfInBounds_toArray, List.set_cons_zero, List.set_cons_succ]
        refine wpAnyM_ready (rs := [5]) (by kernel_rfl) (by simp) ?_
        refine AllReadyM.cons (o := ⟨some 61, _, _, _, _, _⟩) rfl (fun K hK => ?_) AllReadyM.nil
        go_simp
        refine hhis.mono ?_
        rintro e v4 ⟨uS, uC, uK, uF, g4, rfl, hO4, hb4⟩
        obtain ⟨x4S, y4S, x4C, y4C, x4K, y4K, x4F, y4F, rfl, rfl, rfl, rfl⟩ := own_shapes hO4
        have hx4 : Below wr.heap.size wr v4 := ((Below.refl _ _).drew).trans hb4
        have hHeld4 := hkeep v4 hx4
        clear hhis hb4
        refine hK.out _ _ (fun _ => hHeld4) (fun _ => ?_)
        clear hK K
        try simp only [Act.put, List.setIfInBounds_toArray, List.set_cons_zero, List.set_cons_succ]
        refine wpAnyM_takeA (i := 6) (oi := ⟨some 55, _, _, _, _, _⟩) (v := ?_) rfl (by kernel_rfl) (by kernel_rfl) (by kernel_rfl) (fun _ _ _ h => h) (by decide) (Or.inl ⟨by rfl, ?_⟩) (fun _ => hHeld4) ?_
        rotate_left
        focus (intro wq hSq; go_simp; try with_reducible rfl)
        try simp only [Act.put, List.setIfInBounds_toArray, List.set_cons_zero, List.set_cons_succ]
        refine wpAnyM_takeA (i := 7) (oi := ⟨some 62, _, _, _, _, _⟩) (v := ?_) rfl (by kernel_rfl) (by kernel_rfl) (by kernel_rfl) (fun _ _ _ h => h) (by decide) (Or.inl ⟨by rfl, ?_⟩) (fun _ => hHeld4) ?_
        rotate_left
        focus (intro wq hSq; go_simp; try with_reducible rfl)
        try simp only [Act.put, List.setIfInBounds_toArray, List.set_cons_zero, List.set_cons_succ]
        refine wpAnyM_takeA (i := 8) (oi := ⟨some 63, _, _, _, _, _⟩) (v := ?_) rfl (by kernel_rfl) (by kernel_rfl) (by kernel_rfl) (fun _ _ _ h => h) (by decide) (Or.inl ⟨by rfl, ?_⟩) (fun _ => hHeld4) ?_
        rotate_left
        focus (intro wq hSq; go_simp; try with_reducible rfl)
        try simp only [Act.put, List.setIfInBounds_toArray, List.set_cons_zero, List.set_cons_succ]
        refine wpAnyM_takeA (i := 9) (oi := ⟨some 64, _, _, _, _, _⟩) (v := ?_) rfl (by kernel_rfl) (by kernel_rfl) (by kernel_rfl) (fun _ _ _ h => h) (by decide) (Or.inl ⟨by rfl, ?_⟩) (fun _ => hHeld4) ?_
        rotate_left
        focus (intro wq hSq; go_simp; try with_reducible rfl)
        try simp only [Act.put, List.setIfInBounds_toArray, List.set_cons_zero, List.set_cons_succ]
        have kA4 := kA.below hx4 kA.lt
        obtain ⟨z0, z1, z2, z3, z4⟩ := five_cells kA4
        obtain ⟨f0, f1, f2, f3, f4⟩ := five_free kA4
        have HV := Lib.hid (VarAt.put kA4 rfl hO4)
        have HB := Lib.hid (into5_below (hbr.trans (hx4.mono hbr.size)) HQA.out (.slice x4S DN.S.length y4S) (.slice x4C DN.C.length y4C) (.slice x4K DN.K.length y4K) DN.n (.slice x4F DN.F.length y4F))
        have HF2 : Hid ((0 : Int) = 0 → Five DN (1 + ((k + 1 : Nat) : Int))) := fun _ => ⟨HFN.out.may, HFN.out.s, HFN.out.k, by have := HFN.out.n; omega⟩
        unfold into5 at HV HB
        clear k0 k1 k2 k3 k4 e0 e1 e2 e3 e4 e5 e6 hkeep hHeld hHeld4 hOA kA hvA hbr hx4 kA4 hO4
        refine wpAnyM_ready (rs := [10]) (by kernel_rfl) (by simp) ?_
        refine AllReadyM.cons (o := ⟨none, _, _, _, _, _⟩) rfl (fun K hK => ?_) AllReadyM.nil
        go_simp
        refine hK.out _ _ (fun h => not_yet (by kernel_rfl) h) (fun _ => ?_)
        clear hK K
        try simp only [Act.put, List.setIfInBounds_toArray, List.set_cons_zero, List.set_cons_succ]
        refine wpAnyM_done (by kernel_rfl) ?_ _
        go_wp2_with fail
        go_roundw
        case rel => exact ⟨k + 1, DN, by omega, by go_num, HV.out, HB.out, (by first | exact HF2 | exact fun _ => HF2.out rfl)⟩
        case measure => simp [intOf]; omega
      · have hkn : k = n1 := by omega
        have hn101 : 1 + (k : Int) ≤ 101 := by omega
        clear hlt hgn1 w1 hk
        obtain ⟨vS, vC, vK, vF, gA, hOA, kA⟩ := id hvA
        obtain ⟨sS, tS, sC, tC, sK, tK, sF, tF, rfl, rfl, rfl, rfl⟩ := own_shapes hOA
        obtain ⟨k0, k1, k2, k3, k4⟩ := five_cells kA
        have hNK : N < Dk.K.length := by rw [hF.k]; omega
        have hNKi : (N : Int) < (Dk.K.length : Int) := by omega
        obtain ⟨ad, u, hsK, had, hu, hc⟩ := (Lies.of_own hOA.k).at_ hNK
        subst hsK
        obtain rfl : u = .int .i64 (keyOf Dk N) := by
          rw [List.getElem?_map, List.getElem?_eq_getElem hNK, getD_keyOf hNK] at hu
          exact (Option.some.inj hu).symm
        clear hu
        by_cases hx : keyOf Dk N = 0
        · have hxb : (keyOf Dk N == 0) = true := by simpa using hx
          go_wp2_with fail
          refine (wakes_any wr).mono ?_
          rintro e v9 ⟨rfl, hb9⟩
          have hb10 := hbr.trans (hb9.mono hbr.size)
          go_wp2_with fail
          go_ret
          exact ⟨rfl, hb10⟩
        have hxb : (keyOf Dk N == 0) = false := by simpa using hx
        obtain ⟨D1, D2, q1, F1, q2, q3, q4, F2, q5, q6, q7⟩ := fence_all hF hn101 hN3 hx
        have hkb := five_key hF (by omega) hx
        have hdo1 : Calls Try.prog 14 #[.agg #[.slice sS Dk.S.length tS, .slice sC Dk.C.length tC, .slice (some ad) Dk.K.length tK, .int .i64 Dk.n, .slice sF Dk.F.length tF], .int .i64 4, .agg #[.int .i8 6, .int .i64 0, .string ⟨#[]⟩, .int .i64 0]] wr (RAct w.heap.size (doD Dk 4 ⟨6, 0, ⟨#[]⟩, 0⟩) (doS Dk 4 ⟨6, 0, ⟨#[]⟩, 0⟩) (refE Dk 4 ⟨6, 0, ⟨#[]⟩, 0⟩) wr) := refDo_any w.heap.size _ _ _ _ gA Dk 4 ⟨6, 0, ⟨#[]⟩, 0⟩ wr hOA hbr.size hF.may hF.small (act_bd 6 0 0 (by omega) (by omega) rfl (by omega) (by omega)) (by decide)
        rw [q1] at hdo1
        generalize doS Dk 4 ⟨6, 0, ⟨#[]⟩, 0⟩ = S1 at hdo1
        generalize refE Dk 4 ⟨6, 0, ⟨#[]⟩, 0⟩ = E1 at hdo1
        clear q1
        generalize keyOf Dk N = x at *
        clear hx
        go_wp2_with fail
        refine hdo1.mono ?_
        rintro e v2 ⟨uS, uC, uK, uF, g2, rfl, hO2, hb2⟩
        obtain ⟨x2S, y2S, x2C, y2C, x2K, y2K, x2F, y2F, rfl, rfl, rfl, rfl⟩ := own_shapes hO2
        have kA2 := kA.below hb2 kA.lt
        obtain ⟨z0, z1, z2, z3, z4⟩ := five_cells kA2
        obtain ⟨f0, f1, f2, f3, f4⟩ := five_free kA2
        obtain ⟨W2, hW2⟩ : ∃ W, W = into5 v2 qa (.slice x2S D1.S.length y2S) (.slice x2C D1.C.length y2C) (.slice x2K D1.K.length y2K) D1.n (.slice x2F D1.F.length y2F) := ⟨_, rfl⟩
        have hv2 := VarAt.put kA2 rfl hO2
        have hb2' := into5_below (hbr.trans (hb2.mono hbr.size)) HQA.out (.slice x2S D1.S.length y2S) (.slice x2C D1.C.length y2C) (.slice x2K D1.K.length y2K) D1.n (.slice x2F D1.F.length y2F)
        rw [← hW2] at hv2 hb2'
        unfold into5 at hW2
        clear hdo1 k0 k1 k2 k3 k4 hc kA hOA hvA hbr hb2 kA2 hO2 had hNK hNKi hF hn101 hxb
        go_wp2_with fail
        rw [← hW2]
        clear hW2 z0 z1 z2 z3 z4 f0 f1 f2 f3 f4
        obtain ⟨vS, vC, vK, vF, g3, hO3, k3B⟩ := id hv2
        obtain ⟨s3S, t3S, s3C, t3C, s3K, t3K, s3F, t3F, rfl, rfl, rfl, rfl⟩ := own_shapes hO3
        obtain ⟨k0, k1, k2, k3, k4⟩ := five_cells k3B
        have hNK : N < D1.K.length := by rw [F1.k]; omega
        have hNKi : (N : Int) < (D1.K.length : Int) := by omega
        obtain ⟨ad3, u, hsK, had, hu, hc⟩ := (Lies.of_own hO3.k).at_ hNK
        subst hsK
        obtain rfl : u = .int .i64 x := by
          rw [List.getElem?_map, List.getElem?_eq_getElem hNK, getD_keyOf hNK, q2] at hu
          exact (Option.some.inj hu).symm
        clear hu q2
        have hkeep : ∀ wx : World, Below W2.heap.size W2 wx → (wx.cell? ⟨qa, 0, none⟩ = some (.slice s3S D1.S.length t3S) ∧ wx.cell? ⟨qa, 1, none⟩ = some (.slice s3C D1.C.length t3C) ∧ wx.cell? ⟨qa, 2, none⟩ = some (.slice (some ad3) D1.K.length t3K) ∧ wx.cell? ⟨qa, 3, none⟩ = some (.int .i64 D1.n) ∧ wx.cell? ⟨qa, 4, none⟩ = some (.slice s3F D1.F.length t3F) ∧ wx.cell? (ad3.add N) = some (.int .i64 x)) := fun wx hx => by
          obtain ⟨j0, j1, j2, j3, j4⟩ := five_cells (k3B.below hx k3B.lt)
          exact ⟨j0, j1, j2, j3, j4, (hx.cell (World.block_lt_of_cell? W2 _ hc)).trans hc⟩
        have hHeld := hkeep W2.drew ((Below.refl _ _).drew)
        have hdo2 : Calls Try.prog 15 #[.agg #[.slice s3S D1.S.length t3S, .slice s3C D1.C.length t3C, .slice (some ad3) D1.K.length t3K, .int .i64 D1.n, .slice s3F D1.F.length t3F], .int .i64 4, .agg #[.int .i8 5, .int .i64 0, .string ⟨#[]⟩, .int .i64 x]] W2.drew (ActPost (doD D1 4 ⟨5, 0, ⟨#[]⟩, x⟩) (doS D1 4 ⟨5, 0, ⟨#[]⟩, x⟩) (refE D1 4 ⟨5, 0, ⟨#[]⟩, x⟩) W2.drew) := devDo_any _ D1 4 ⟨5, 0, ⟨#[]⟩, x⟩ W2.drew (hO3.up ((Below.refl _ _).drew)).dev F1.may F1.small (act_bd 5 0 x (by omega) (by omega) rfl hkb.1 hkb.2)
        rw [q3, q4] at hdo2
        generalize doS D1 4 ⟨5, 0, ⟨#[]⟩, x⟩ = S2 at hdo2
        clear q3 q4
        refine wp_region_to (S := (fun w' => w'.cell? ⟨qa, 0, none⟩ = some (.slice s3S D1.S.length t3S) ∧ w'.cell? ⟨qa, 1, none⟩ = some (.slice s3C D1.C.length t3C) ∧ w'.cell? ⟨qa, 2, none⟩ = some (.slice (some ad3) D1.K.length t3K) ∧ w'.cell? ⟨qa, 3, none⟩ = some (.int .i64 D1.n) ∧ w'.cell? ⟨qa, 4, none⟩ = some (.slice s3F D1.F.length t3F) ∧ w'.cell? (ad3.add N) = some (.int .i64 x))) 12 (by kernel_rfl) hHeld (fun _ => ?_)
        refine wpAnyM_take (i := 0) (oi := ⟨some 84, _, _, _, _, _⟩) (v := ?_) rfl (by kernel_rfl) (by kernel_rfl) (by kernel_rfl) (fun _ _ _ h => h) (by decide) (by kernel_rfl) (by kernel_rfl) (Or.inl ⟨by rfl, ?_⟩) (fun _ => hHeld) ?_
        rotate_left
        focus (intro wq hSq; (try dsimp only at hSq); go_simp; try with_reducible rfl)
        try simp only [Act.put, List.setIfInBounds_toArray, List.set_cons_zero, List.set_cons_succ]
        refine wpAnyM_take (i := 1) (oi := ⟨some 85, _, _, _, _, _⟩) (v := ?_) rfl (by kernel_rfl) (by kernel_rfl) (by kernel_rfl) (fun _ _ _ h => h) (by decide) (by kernel_rfl) (by kernel_rfl) (Or.inl ⟨by rfl, ?_⟩) (fun _ => hHeld) ?_
        rotate_left
        focus (intro wq hSq; (try dsimp only at hSq); go_simp; try with_reducible rfl)
        try simp only [Act.put, List.setIfInBounds_toArray, List.set_cons_zero, List.set_cons_succ]
        refine wpAnyM_take (i := 2) (oi := ⟨some 86, _, _, _, _, _⟩) (v := ?_) rfl (by kernel_rfl) (by kernel_rfl) (by kernel_rfl) (fun _ _ _ h => h) (by decide) (by kernel_rfl) (by kernel_rfl) (Or.inl ⟨by rfl, ?_⟩) (fun _ => hHeld) ?_
        rotate_left
        focus (intro wq hSq; (try dsimp only at hSq); go_simp; try with_reducible rfl)
        try simp only [Act.put, List.setIfInBounds_toArray, List.set_cons_zero, List.set_cons_succ]
        refine wpAnyM_take (i := 3) (oi := ⟨some 87, _, _, _, _, _⟩) (v := ?_) rfl (by kernel_rfl) (by kernel_rfl) (by kernel_rfl) (fun _ _ _ h => h) (by decide) (by kernel_rfl) (by kernel_rfl) (Or.inl ⟨by rfl, ?_⟩) (fun _ => hHeld) ?_
        rotate_left
        focus (intro wq hSq; (try dsimp only at hSq); go_simp; try with_reducible rfl)
        try simp only [Act.put, List.setIfInBounds_toArray, List.set_cons_zero, List.set_cons_succ]
        refine wpAnyM_take (i := 4) (oi := ⟨some 88, _, _, _, _, _⟩) (v := ?_) rfl (by kernel_rfl) (by kernel_rfl) (by kernel_rfl) (fun _ _ _ h => h) (by decide) (by kernel_rfl) (by kernel_rfl) (Or.inl ⟨by rfl, ?_⟩) (fun _ => hHeld) ?_
        rotate_left
        focus (intro wq hSq; (try dsimp only at hSq); go_simp; try with_reducible rfl)
        try simp only [Act.put, List.setIfInBounds_toArray, List.set_cons_zero, List.set_cons_succ]
        refine wpAnyM_take (i := 5) (oi := ⟨some 89, _, _, _, _, _⟩) (v := ?_) rfl (by kernel_rfl) (by kernel_rfl) (by kernel_rfl) (fun _ _ _ h => h) (by decide) (by kernel_rfl) (by kernel_rfl) (Or.inl ⟨by rfl, ?_⟩) (fun _ => hHeld) ?_
        rotate_left
        focus (intro wq hSq; (try dsimp only at hSq); go_simp; try with_reducible rfl)
        try simp only [Act.put, List.setIfInBounds_toArray, List.set_cons_zero, List.set_cons_succ]
        refine wpAnyM_take (i := 6) (oi := ⟨some 90, _, _, _, _, _⟩) (v := ?_) rfl (by kernel_rfl) (by kernel_rfl) (by kernel_rfl) (fun _ _ _ h => h) (by decide) (by kernel_rfl) (by kernel_rfl) (Or.inl ⟨by rfl, ?_⟩) (fun _ => hHeld) ?_
        rotate_left
        focus (intro wq hSq; (try dsimp only at hSq); go_simp; try with_reducible rfl)
        try simp only [Act.put, List.setIfInBounds_toArray, List.set_cons_zero, List.set_cons_succ]
        refine wpAnyM_ready (rs := [7]) (by kernel_rfl) (by simp) ?_
        refine AllReadyM.cons (o := ⟨some 91, _, _, _, _, _⟩) rfl (fun K hK => ?_) AllReadyM.nil
        go_simp
        refine hdo2.mono ?_
        rintro e v4 ⟨uS, uC, uK, uF, g4, rfl, hO4, hb4⟩
        obtain ⟨x4S, y4S, x4C, y4C, x4K, y4K, x4F, y4F, rfl, rfl, rfl, rfl⟩ := own_shapes hO4
        have hx4 : Below W2.heap.size W2 v4 := ((Below.refl _ _).drew).trans hb4
        have hHeld4 := hkeep v4 hx4
        have hO4 := hO4.less (B' := w.heap.size) hb2'.size
        clear hdo2 hb4
        refine hK.out _ _ (fun _ => hHeld4) (fun _ => ?_)
        clear hK K
        try simp only [Act.put, List.setIfInBounds_toArray, List.set_cons_zero, List.set_cons_succ]
        refine wpAnyM_takeA (i := 8) (oi := ⟨some 83, _, _, _, _, _⟩) (v := ?_) rfl (by kernel_rfl) (by kernel_rfl) (by kernel_rfl) (fun _ _ _ h => h) (by decide) (Or.inl ⟨by rfl, ?_⟩) (fun _ => hHeld4) ?_
        rotate_left
        focus (intro wq hSq; go_simp; try with_reducible rfl)
        try simp only [Act.put, List.setIfInBounds_toArray, List.set_cons_zero, List.set_cons_succ]
        refine wpAnyM_takeA (i := 9) (oi := ⟨some 92, _, _, _, _, _⟩) (v := ?_) rfl (by kernel_rfl) (by kernel_rfl) (by kernel_rfl) (fun _ _ _ h => h) (by decide) (Or.inl ⟨by rfl, ?_⟩) (fun _ => hHeld4) ?_
        rotate_left
        focus (intro wq hSq; go_simp; try with_reducible rfl)
        try simp only [Act.put, List.setIfInBounds_toArray, List.set_cons_zero, List.set_cons_succ]
        refine wpAnyM_takeA (i := 10) (oi := ⟨some 93, _, _, _, _, _⟩) (v := ?_) rfl (by kernel_rfl) (by kernel_rfl) (by kernel_rfl) (fun _ _ _ h => h) (by decide) (Or.inl ⟨by rfl, ?_⟩) (fun _ => hHeld4) ?_
        rotate_left
        focus (intro wq hSq; go_simp; try with_reducible rfl)
        try simp only [Act.put, List.setIfInBounds_toArray, List.set_cons_zero, List.set_cons_succ]
        refine wpAnyM_takeA (i := 11) (oi := ⟨some 94, _, _, _, _, _⟩) (v := ?_) rfl (by kernel_rfl) (by kernel_rfl) (by kernel_rfl) (fun _ _ _ h => h) (by decide) (Or.inl ⟨by rfl, ?_⟩) (fun _ => hHeld4) ?_
        rotate_left
        focus (intro wq hSq; go_simp; try with_reducible rfl)
        try simp only [Act.put, List.setIfInBounds_toArray, List.set_cons_zero, List.set_cons_succ]
        have kA4 := k3B.below hx4 k3B.lt
        obtain ⟨z0, z1, z2, z3, z4⟩ := five_cells kA4
        obtain ⟨f0, f1, f2, f3, f4⟩ := five_free kA4
        obtain ⟨W3, hW3⟩ : ∃ W, W = into5 v4 qa (.slice x4S D2.S.length y4S) (.slice x4C D2.C.length y4C) (.slice x4K D2.K.length y4K) D2.n (.slice x4F D2.F.length y4F) := ⟨_, rfl⟩
        have hv3 := VarAt.put kA4 rfl hO4
        have hb3' := into5_below (hb2'.trans (hx4.mono hb2'.size)) HQA.out (.slice x4S D2.S.length y4S) (.slice x4C D2.C.length y4C) (.slice x4K D2.K.length y4K) D2.n (.slice x4F D2.F.length y4F)
        rw [← hW3] at hv3 hb3'
        unfold into5 at hW3
        clear k0 k1 k2 k3 k4 hc hkeep hHeld hHeld4 k3B hO3 hv2 hb2' hx4 kA4 hO4 had hNK hNKi
        refine wpAnyM_ready (rs := [12]) (by kernel_rfl) (by simp) ?_
        refine AllReadyM.cons (o := ⟨none, _, _, _, _, _⟩) rfl (fun K hK => ?_) AllReadyM.nil
        go_simp
        refine hK.out _ _ (fun h => not_yet (by kernel_rfl) h) (fun _ => ?_)
        clear hK K
        try simp only [Act.put, List.setIfInBounds_toArray, List.set_cons_zero, List.set_cons_succ]
        refine wpAnyM_takeA (i := 13) (oi := ⟨some 10, _, _, _, _, _⟩) (v := ?_) rfl (by kernel_rfl) (by kernel_rfl) (by kernel_rfl) (fun _ _ _ h => h) (by decide) (Or.inl ⟨by rfl, ?_⟩) (fun h => not_yet (by kernel_rfl) h) ?_
        rotate_left
        focus (intro wq hSq; go_simp; try with_reducible rfl)
        try simp only [Act.put, List.setIfInBounds_toArray, List.set_cons_zero, List.set_cons_succ]
        refine wpAnyM_done (by kernel_rfl) ?_ _
        rw [← hW3]
        clear hW3 z0 z1 z2 z3 z4 f0 f1 f2 f3 f4
        obtain ⟨vS, vC, vK, vF, g5, hO5, k5B⟩ := id hv3
        obtain ⟨s5S, t5S, s5C, t5C, s5K, t5K, s5F, t5F, rfl, rfl, rfl, rfl⟩ := own_shapes hO5
        obtain ⟨k0, k1, k2, k3, k4⟩ := five_cells k5B
        have hNK : N < D2.K.length := by rw [F2.k]; omega
        have hNKi : (N : Int) < (D2.K.length : Int) := by omega
        have h4K : 4 < D2.K.length := by rw [F2.k]; omega
        have h4Ki : (4 : Int) < (D2.K.length : Int) := by omega
        have hb5 : (((D2.K.length : Nat) : Int) != 5) = false := by rw [F2.k]; rfl
        obtain ⟨ad5, u, hsK, had, hu, hc⟩ := (Lies.of_own hO5.k).at_ hNK
        obtain ⟨ad5', u', hsK', had', hu', hc'⟩ := (Lies.of_own hO5.k).at_ h4K
        subst hsK
        injection hsK' with hsK'
        subst hsK'
        obtain rfl : u = .int .i64 (keyOf D2 N) := by
          rw [List.getElem?_map, List.getElem?_eq_getElem hNK, getD_keyOf hNK] at hu
          exact (Option.some.inj hu).symm
        obtain rfl : u' = .int .i64 (keyOf D2 4) := by
          rw [List.getElem?_map, List.getElem?_eq_getElem h4K, getD_keyOf h4K] at hu'
          exact (Option.some.inj hu').symm
        clear hu hu' had'
        rw [show ad5.add 4 = ⟨ad5.block, ad5.off + 4, none⟩ from by simp [Addr.add]] at hc'
        generalize keyOf D2 N = y at *
        generalize keyOf D2 4 = z at *
        have hkeep : ∀ wx : World, Below W3.heap.size W3 wx → (wx.cell? ⟨qa, 0, none⟩ = some (.slice s5S D2.S.length t5S) ∧ wx.cell? ⟨qa, 1, none⟩ = some (.slice s5C D2.C.length t5C) ∧ wx.cell? ⟨qa, 2, none⟩ = some (.slice (some ad5) D2.K.length t5K) ∧ wx.cell? ⟨qa, 3, none⟩ = some (.int .i64 D2.n) ∧ wx.cell? ⟨qa, 4, none⟩ = some (.slice s5F D2.F.length t5F) ∧ wx.cell? (ad5.add N) = some (.int .i64 y) ∧ wx.cell? ⟨ad5.block, ad5.off + 4, none⟩ = some (.int .i64 z)) := fun wx hx => by
          obtain ⟨j0, j1, j2, j3, j4⟩ := five_cells (k5B.below hx k5B.lt)
          exact ⟨j0, j1, j2, j3, j4, (hx.cell (World.block_lt_of_cell? W3 _ hc)).trans hc, (hx.cell (World.block_lt_of_cell? W3 _ hc')).trans hc'⟩
        have hHeld := hkeep W3.drew ((Below.refl _ _).drew)
        go_wp2_with fail
        refine wp_region_held_drew (S := (fun w' => w'.cell? ⟨qa, 0, none⟩ = some (.slice s5S D2.S.length t5S) ∧ w'.cell? ⟨qa, 1, none⟩ = some (.slice s5C D2.C.length t5C) ∧ w'.cell? ⟨qa, 2, none⟩ = some (.slice (some ad5) D2.K.length t5K) ∧ w'.cell? ⟨qa, 3, none⟩ = some (.int .i64 D2.n) ∧ w'.cell? ⟨qa, 4, none⟩ = some (.slice s5F D2.F.length t5F) ∧ w'.cell? (ad5.add N) = some (.int .i64 y) ∧ w'.cell? ⟨ad5.block, ad5.off + 4, none⟩ = some (.int .i64 z))) (by kernel_rfl) hHeld (fun hHeld => ?_)
        refine wpAnyH_take (i := 0) (oi := ⟨some 95, _, _, _, _, _⟩) (v := ?_) rfl (by kernel_rfl) (by kernel_rfl) (by kernel_rfl) (fun _ _ _ h => h) (Or.inl ⟨by rfl, ?_⟩) (by assumption) ?_
        rotate_left
        focus (intro wq hSq; (try dsimp only at hSq); go_simp; try with_reducible rfl)
        try simp only [Act.put, List.setIfInBounds_toArray, List.set_cons_zero, List.set_cons_succ]
        refine wpAnyH_take (i := 1) (oi := ⟨some 96, _, _, _, _, _⟩) (v := ?_) rfl (by kernel_rfl) (by kernel_rfl) (by kernel_rfl) (fun _ _ _ h => h) (Or.inl ⟨by rfl, ?_⟩) (by assumption) ?_
        rotate_left
        focus (intro wq hSq; (try dsimp only at hSq); go_simp; try with_reducible rfl)
        try simp only [Act.put, List.setIfInBounds_toArray, List.set_cons_zero, List.set_cons_succ]
        refine wpAnyH_take (i := 2) (oi := ⟨some 97, _, _, _, _, _⟩) (v := ?_) rfl (by kernel_rfl) (by kernel_rfl) (by kernel_rfl) (fun _ _ _ h => h) (Or.inl ⟨by rfl, ?_⟩) (by assumption) ?_
        rotate_left
        focus (intro wq hSq; (try dsimp only at hSq); go_simp; try with_reducible rfl)
        try simp only [Act.put, List.setIfInBounds_toArray, List.set_cons_zero, List.set_cons_succ]
        refine wpAnyH_take (i := 3) (oi := ⟨some 98, _, _, _, _, _⟩) (v := ?_) rfl (by kernel_rfl) (by kernel_rfl) (by kernel_rfl) (fun _ _ _ h => h) (Or.inl ⟨by rfl, ?_⟩) (by assumption) ?_
        rotate_left
        focus (intro wq hSq; (try dsimp only at hSq); go_simp; try with_reducible rfl)
        try simp only [Act.put, List.setIfInBounds_toArray, List.set_cons_zero, List.set_cons_succ]
        refine wpAnyH_take (i := 4) (oi := ⟨some 99, _, _, _, _, _⟩) (v := ?_) rfl (by kernel_rfl) (by kernel_rfl) (by kernel_rfl) (fun _ _ _ h => h) (Or.inl ⟨by rfl, ?_⟩) (by assumption) ?_
        rotate_left
        focus (intro wq hSq; (try dsimp only at hSq); go_simp; try with_reducible rfl)
        try simp only [Act.put, List.setIfInBounds_toArray, List.set_cons_zero, List.set_cons_succ]
        refine wpAnyH_take (i := 5) (oi := ⟨some 100, _, _, _, _, _⟩) (v := ?_) rfl (by kernel_rfl) (by kernel_rfl) (by kernel_rfl) (fun _ _ _ h => h) (Or.inl ⟨by rfl, ?_⟩) (by assumption) ?_
        rotate_left
        focus (intro wq hSq; (try dsimp only at hSq); go_simp; try with_reducible rfl)
        try simp only [Act.put, List.setIfInBounds_toArray, List.set_cons_zero, List.set_cons_succ]
        refine wpAnyH_take (i := 6) (oi := ⟨some 101, _, _, _, _, _⟩) (v := ?_) rfl (by kernel_rfl) (by kernel_rfl) (by kernel_rfl) (fun _ _ _ h => h) (Or.inl ⟨by rfl, ?_⟩) (by assumption) ?_
        rotate_left
        focus (intro wq hSq; (try dsimp only at hSq); go_simp; try with_reducible rfl)
        try simp only [Act.put, List.setIfInBounds_toArray, List.set_cons_zero, List.set_cons_succ]
        refine wpAnyH_take (i := 7) (oi := ⟨some 102, _, _, _, _, _⟩) (v := ?_) rfl (by kernel_rfl) (by kernel_rfl) (by kernel_rfl) (fun _ _ _ h => h) (Or.inl ⟨by rfl, ?_⟩) (by assumption) ?_
        rotate_left
        focus (intro wq hSq; (try dsimp only at hSq); go_simp; try with_reducible rfl)
        try simp only [Act.put, List.setIfInBounds_toArray, List.set_cons_zero, List.set_cons_succ]
        refine wpAnyH_take (i := 8) (oi := ⟨some 103, _, _, _, _, _⟩) (v := ?_) rfl (by kernel_rfl) (by kernel_rfl) (by kernel_rfl) (fun _ _ _ h => h) (Or.inl ⟨by rfl, ?_⟩) (by assumption) ?_
        rotate_left
        focus (intro wq hSq; (try dsimp only at hSq); go_simp; try with_reducible rfl)
        try simp only [Act.put, List.setIfInBounds_toArray, List.set_cons_zero, List.set_cons_succ]
        refine wpAnyH_take (i := 9) (oi := ⟨some 104, _, _, _, _, _⟩) (v := ?_) rfl (by kernel_rfl) (by kernel_rfl) (by kernel_rfl) (fun _ _ _ h => h) (Or.inl ⟨by rfl, ?_⟩) (by assumption) ?_
        rotate_left
        focus (intro wq hSq; (try dsimp only at hSq); go_simp; try with_reducible rfl)
        try simp only [Act.put, List.setIfInBounds_toArray, List.set_cons_zero, List.set_cons_succ]
        refine wpAnyH_take (i := 10) (oi := ⟨some 105, _, _, _, _, _⟩) (v := ?_) rfl (by kernel_rfl) (by kernel_rfl) (by kernel_rfl) (fun _ _ _ h => h) (Or.inl ⟨by rfl, ?_⟩) (by assumption) ?_
        rotate_left
        focus (intro wq hSq; (try dsimp only at hSq); go_simp; try with_reducible rfl)
        try simp only [Act.put, List.setIfInBounds_toArray, List.set_cons_zero, List.set_cons_succ]
        refine wpAnyH_take (i := 11) (oi := ⟨some 106, _, _, _, _, _⟩) (v := ?_) rfl (by kernel_rfl) (by kernel_rfl) (by kernel_rfl) (fun _ _ _ h => h) (Or.inl ⟨by rfl, ?_⟩) (by assumption) ?_
        rotate_left
        focus (intro wq hSq; (try dsimp only at hSq); go_simp; try with_reducible rfl)
        try simp only [Act.put, List.setIfInBounds_toArray, List.set_cons_zero, List.set_cons_succ]
        refine wpAnyH_take (i := 12) (oi := ⟨some 107, _, _, _, _, _⟩) (v := ?_) rfl (by kernel_rfl) (by kernel_rfl) (by kernel_rfl) (fun _ _ _ h => h) (Or.inl ⟨by rfl, ?_⟩) (by assumption) ?_
        rotate_left
        focus (intro wq hSq; (try dsimp only at hSq); go_simp; try with_reducible rfl)
        try simp only [Act.put, List.setIfInBounds_toArray, List.set_cons_zero, List.set_cons_succ]
        refine wpAnyH_take (i := 13) (oi := ⟨some 108, _, _, _, _, _⟩) (v := ?_) rfl (by kernel_rfl) (by kernel_rfl) (by kernel_rfl) (fun _ _ _ h => h) (Or.inl ⟨by rfl, ?_⟩) (by assumption) ?_
        rotate_left
        focus (intro wq hSq; (try dsimp only at hSq); go_simp; try with_reducible rfl)
        try simp only [Act.put, List.setIfInBounds_toArray, List.set_cons_zero, List.set_cons_succ]
        refine wpAnyH_take (i := 14) (oi := ⟨some 109, _, _, _, _, _⟩) (v := ?_) rfl (by kernel_rfl) (by kernel_rfl) (by kernel_rfl) (fun _ _ _ h => h) (Or.inl ⟨by rfl, ?_⟩) (by assumption) ?_
        rotate_left
        focus (intro wq hSq; (try dsimp only at hSq); go_simp; try with_reducible rfl)
        try simp only [Act.put, List.setIfInBounds_toArray, List.set_cons_zero, List.set_cons_succ]
        have hbA : Below W3.heap.size W3 (W3.alloc (.cells #[.int .i64 y] 3 (0, 0))).drew := (below_alloc W3 _).drew
        have hHeldA := hkeep _ hbA
        refine wpAnyH_ready (rs := [15]) (by kernel_rfl) (by simp) ?_
        refine AllReadyH.cons (o := ⟨some 110, _, _, _, _, _⟩) rfl (fun K hK => ?_) AllReadyH.nil
        go_simp
        refine hK.out _ _ ?_ (fun hHeld => ?_)
        focus (exact hHeldA)
        clear hK K
        try simp only [Act.put, List.setIfInBounds_toArray, List.set_cons_zero, List.set_cons_succ]
        have hfen : Calls Try.prog 16 #[.agg #[.slice s5S D2.S.length t5S, .slice s5C D2.C.length t5C, .slice (some ad5) D2.K.length t5K, .int .i64 D2.n, .slice s5F D2.F.length t5F], .slice (some ⟨W3.heap.size, 0, none⟩) 1 1] (W3.alloc (.cells #[.int .i64 y] 3 (0, 0))).drew _ := devFenced_any _ D2 (some ⟨W3.heap.size, 0, none⟩) 1 1 [y] _ (hO5.up hbA).dev (ints_new W3 #[.int .i64 y] 3 (0, 0)) rfl (by decide)
        rw [q5] at hfen
        refine wpAnyH_ready (rs := [16]) (by kernel_rfl) (by simp) ?_
        refine AllReadyH.cons (o := ⟨some 111, _, _, _, _, _⟩) rfl (fun K hK => ?_) AllReadyH.nil
        go_simp
        refine hfen.mono ?_
        rintro e v6 ⟨rfl, hb6⟩
        have hx6 : Below W3.heap.size W3 v6 := hbA.trans (hb6.mono hbA.size)
        have hHeld6 := hkeep v6 hx6
        clear hfen hHeldA hb6
        refine hK.out _ _ ?_ (fun hHeld => ?_)
        focus (exact hHeld6)
        clear hK K
        try simp only [Act.put, List.setIfInBounds_toArray, List.set_cons_zero, List.set_cons_succ]
        refine wpAnyH_take (i := 17) (oi := ⟨some 112, _, _, _, _, _⟩) (v := ?_) rfl (by kernel_rfl) (by kernel_rfl) (by kernel_rfl) (fun _ _ _ h => h) (Or.inl ⟨by rfl, ?_⟩) (by assumption) ?_
        rotate_left
        focus (intro wq hSq; (try dsimp only at hSq); go_simp; try with_reducible rfl)
        try simp only [Act.put, List.setIfInBounds_toArray, List.set_cons_zero, List.set_cons_succ]
        refine wpAnyH_take (i := 18) (oi := ⟨some 113, _, _, _, _, _⟩) (v := ?_) rfl (by kernel_rfl) (by kernel_rfl) (by kernel_rfl) (fun _ _ _ h => h) (Or.inl ⟨by rfl, ?_⟩) (by assumption) ?_
        rotate_left
        focus (intro wq hSq; (try dsimp only at hSq); go_simp; try with_reducible rfl)
        try simp only [Act.put, List.setIfInBounds_toArray, List.set_cons_zero, List.set_cons_succ]
        refine wpAnyH_take (i := 19) (oi := ⟨some 114, _, _, _, _, _⟩) (v := ?_) rfl (by kernel_rfl) (by kernel_rfl) (by kernel_rfl) (fun _ _ _ h => h) (Or.inl ⟨by rfl, ?_⟩) (by assumption) ?_
        rotate_left
        focus (intro wq hSq; (try dsimp only at hSq); go_simp; try with_reducible rfl)
        try simp only [Act.put, List.setIfInBounds_toArray, List.set_cons_zero, List.set_cons_succ]
        refine wpAnyH_take (i := 20) (oi := ⟨some 115, _, _, _, _, _⟩) (v := ?_) rfl (by kernel_rfl) (by kernel_rfl) (by kernel_rfl) (fun _ _ _ h => h) (Or.inl ⟨by rfl, ?_⟩) (by assumption) ?_
        rotate_left
        focus (intro wq hSq; (try dsimp only at hSq); go_simp; try with_reducible rfl)
        try simp only [Act.put, List.setIfInBounds_toArray, List.set_cons_zero, List.set_cons_succ]
        refine wpAnyH_take (i := 21) (oi := ⟨some 116, _, _, _, _, _⟩) (v := ?_) rfl (by kernel_rfl) (by kernel_rfl) (by kernel_rfl) (fun _ _ _ h => h) (Or.inl ⟨by rfl, ?_⟩) (by assumption) ?_
        rotate_left
        focus (intro wq hSq; (try dsimp only at hSq); go_simp; try with_reducible rfl)
        try simp only [Act.put, List.setIfInBounds_toArray, List.set_cons_zero, List.set_cons_succ]
        refine wpAnyH_take (i := 22) (oi := ⟨some 117, _, _, _, _, _⟩) (v := ?_) rfl (by kernel_rfl) (by kernel_rfl) (by kernel_rfl) (fun _ _ _ h => h) (Or.inl ⟨by rfl, ?_⟩) (by assumption) ?_
        rotate_left
        focus (intro wq hSq; (try dsimp only at hSq); go_simp; try with_reducible rfl)
        try simp only [Act.put, List.setIfInBounds_toArray, List.set_cons_zero, List.set_cons_succ]
        refine wpAnyH_take (i := 23) (oi := ⟨some 118, _, _, _, _, _⟩) (v := ?_) rfl (by kernel_rfl) (by kernel_rfl) (by kernel_rfl) (fun _ _ _ h => h) (Or.inl ⟨by rfl, ?_⟩) (by assumption) ?_
        rotate_left
        focus (intro wq hSq; (try dsimp only at hSq); go_simp; try with_reducible rfl)
        try simp only [Act.put, List.setIfInBounds_toArray, List.set_cons_zero, List.set_cons_succ]
        refine wpAnyH_take (i := 24) (oi := ⟨some 119, _, _, _, _, _⟩) (v := ?_) rfl (by kernel_rfl) (by kernel_rfl) (by kernel_rfl) (fun _ _ _ h => h) (Or.inl ⟨by rfl, ?_⟩) (by assumption) ?_
        rotate_left
        focus (intro wq hSq; (try dsimp only at hSq); go_simp; try with_reducible rfl)
        try simp only [Act.put, List.setIfInBounds_toArray, List.set_cons_zero, List.set_cons_succ]
        have hbB : Below W3.heap.size W3 (v6.alloc (.cells #[.int .i64 z] 3 (0, 0))) := hx6.trans ((below_alloc v6 _).mono hx6.size)
        have hHeldB := hkeep _ hbB
        refine wpAnyH_ready (rs := [25]) (by kernel_rfl) (by simp) ?_
        refine AllReadyH.cons (o := ⟨some 120, _, _, _, _, _⟩) rfl (fun K hK => ?_) AllReadyH.nil
        go_simp
        refine hK.out _ _ ?_ (fun hHeld => ?_)
        focus (exact hHeldB)
        clear hK K
        try simp only [Act.put, List.setIfInBounds_toArray, List.set_cons_zero, List.set_cons_succ]
        have hfen : Calls Try.prog 16 #[.agg #[.slice s5S D2.S.length t5S, .slice s5C D2.C.length t5C, .slice (some ad5) D2.K.length t5K, .int .i64 D2.n, .slice s5F D2.F.length t5F], .slice (some ⟨v6.heap.size, 0, none⟩) 1 1] (v6.alloc (.cells #[.int .i64 z] 3 (0, 0))) _ := devFenced_any _ D2 (some ⟨v6.heap.size, 0, none⟩) 1 1 [z] _ (hO5.up hbB).dev (ints_new v6 #[.int .i64 z] 3 (0, 0)) rfl (by decide)
        rw [q6] at hfen
        refine wpAnyH_ready (rs := [26]) (by kernel_rfl) (by simp) ?_
        refine AllReadyH.cons (o := ⟨some 121, _, _, _, _, _⟩) rfl (fun K hK => ?_) AllReadyH.nil
        go_simp
        refine hfen.mono ?_
        rintro e v8 ⟨rfl, hb8⟩
        have hx8 : Below W3.heap.size W3 v8 := hbB.trans (hb8.mono hbB.size)
        have hHeld8 := hkeep v8 hx8
        clear hfen hHeldB hb8
        refine hK.out _ _ ?_ (fun hHeld => ?_)
        focus (exact hHeld8)
        clear hK K
        try simp only [Act.put, List.setIfInBounds_toArray, List.set_cons_zero, List.set_cons_succ]
        refine wpAnyH_take (i := 27) (oi := ⟨some 122, _, _, _, _, _⟩) (v := ?_) rfl (by kernel_rfl) (by kernel_rfl) (by kernel_rfl) (fun _ _ _ h => h) (Or.inl ⟨by rfl, ?_⟩) (by assumption) ?_
        rotate_left
        focus (intro wq hSq; (try dsimp only at hSq); go_simp; try with_reducible rfl)
        try simp only [Act.put, List.setIfInBounds_toArray, List.set_cons_zero, List.set_cons_succ]
        refine wpAnyH_done (by kernel_rfl) ?_ _
        have hv8 := hv3.up hx8
        have hb8 : Below w.heap.size w v8 := hb3'.trans (hx8.mono hb3'.size)
        have hTl := F2.may.s1
        have hTs := F2.s
        have HSH : Hid (Shut D2 N D2.S ∧ Five D2 (103 + ((0 : Nat) : Int))) := ⟨q7, F2.may, F2.s, F2.k, by have := F2.n; omega⟩
        have hLS := Lies.of_own (hO5.up hx8).s
        have hk8 := k5B.below hx8 k5B.lt
        obtain ⟨m0, m1, m2, m3, m4⟩ := five_cells hk8
        clear hkeep hHeld6 hHeld8 hHeld k0 k1 k2 k3 k4 hc hc' had hNK hNKi h4K h4Ki hb5 q5 q6 q7 hx6 hx8 hbA hbB k5B hO5 hv3 hb3' F1 F2
        obtain ⟨T, hT⟩ : ∃ T, Hid (D2.S = T) := ⟨_, rfl⟩
        rw [hT.out] at hTl hTs HSH hLS m0
        obtain ⟨adS, eaS, habS, hacS⟩ := hLS.2 (by omega)
        subst eaS
        obtain ⟨i0, hi, hz0, hz1, hz2⟩ := info_parts infoString
        obtain ⟨Y0, hY0⟩ : ∃ Y, Y = v8.alloc (.cells #[] 9) := ⟨_, rfl⟩
        have hbY : Below v8.heap.size v8 Y0 := hY0 ▸ below_alloc v8 _
        have hO0 : Y0.ownsRow w.heap.size 9 1 (.slice (some ⟨v8.heap.size, 0, none⟩) 0 0) 0 [] := by
          rw [hY0]
          exact World.ownsRow_lit v8 #[] 0 hb8.size (Nat.zero_le _) rfl
        have hacY : ∀ (j : Nat) (u : Value), (strV T)[j]? = some u → Y0.cell? (adS.add j) = some u := fun j u hj => by
          have h := hacS j u hj
          exact (hbY.cell (World.block_lt_of_cell? v8 _ h)).trans h
        have HBY := Lib.hid (hb8.trans (hbY.mono hb8.size))
        have hqv := hv8.lt
        clear hLS hacS
        go_wp2_with (at_builtin; go_must (rw [← hY0]; refine _root_.Go.wpList_append_lies _ rfl _ _ 22 rfl w.heap.size 9 i0 _ 1 16 Try.underlying22 hi hz0 hz1 hz2 rfl (by omega) _ 0 [] rfl hO0 adS _ _ (strV T) rfl ?qa1 (fun j u hj => hacY j u hj) (strV_one T) ?qa2 ?qa3 ?qa4 ?qa5 _ rfl ?_))
        case qa1 => rw [strV, List.length_map, Nat.mul_one] <;> first | rfl | rw [hT.out]
        case qa2 => (try rw [hT.out]); omega
        case qa3 => unfold maxLen; (try rw [hT.out]); omega
        case qa4 => (try rw [hT.out]); omega
        case qa5 => exact HBY.out.size
        intro gM cM Y1 hM hg1 hat1 hlt1
        (try simp only [Nat.zero_add, List.nil_append] at hM)
        have hbX1 : Below v8.heap.size v8 Y1 := by
          refine Below.grown (row := some v8.heap.size) ?_ hg1 (by first | simp | (rw [hY0]; simp)) (by intro k hk; injection hk with hk; omega)
          first | exact below_alloc v8 _ | (rw [hY0]; exact below_alloc v8 _)
        have hvY := hv8.up hbX1
        have hbW := hb8.trans (hbX1.mono hb8.size)
        clear hg1 hat1 hlt1 hO0 hacY hbX1 hv8 hb8 HBY hbY habS m0 m1 m2 m3 m4 hk8 hqv
        go_wp2_with fail
        go_loopw [13] (fun i wr => ∃ (k : Nat) (Dk : Dev), k ≤ n3 ∧ i = .int .i64 (k : Int) ∧ VarAt wr w.heap.size qa Dk ∧ Below w.heap.size w wr ∧ wr.ownsRow w.heap.size 9 1 (.slice (some ⟨gM, 0, none⟩) T.length cM) T.length (strV T) ∧ Hid (Shut Dk N T ∧ Five Dk (103 + (k : Int)))) (fun i _ => n3 - (intOf i).toNat)
        case atStart => exact ⟨0, D2, Nat.zero_le _, rfl, hvY, hbW, (by first | exact hM | (rw [hT.out] at hM; exact hM)), HSH⟩
        case round =>
        · clear hvY hbW hM HSH hT
          obtain ⟨k, Dk, hk, rfl, hvA, hbr, hMr, HM⟩ := hrel
          obtain ⟨hS, hF⟩ := HM.out
          clear HM
          by_cases hlt : k < n3
          · obtain ⟨p, rfl, hD⟩ := deeds_at w3 (by omega)
            obtain ⟨hdk, hbd⟩ := hD k hlt
            obtain ⟨vS, vC, vK, vF, gA, hOA, kA⟩ := id hvA
            obtain ⟨sS, tS, sC, tC, sK, tK, sF, tF, rfl, rfl, rfl, rfl⟩ := own_shapes hOA
            obtain ⟨k0, k1, k2, k3, k4⟩ := five_cells kA
            obtain ⟨e0, e1, e2, e3, e4, e5, e6⟩ := deed_cells hdk hbr
            rcases hXk : X3 k with ⟨dk, nd, ⟨ak, asx, ab, ae⟩, kp⟩
            rw [hXk] at e0 e1 e2 e3 e4 e5 e6 hbd
            dsimp only at e0 e1 e2 e3 e4 e5 e6
            clear hXk hdk hD
            by_cases c0 : dk = 0
            rotate_left
            · have hd0 : (dk == 0) = false := by simpa using c0
              have HSN := Lib.hid (shut_deed hS (dk := dk) (a := ⟨ak, asx, ab, ae⟩) kp (fun h => absurd h c0)).1
              clear c0
              obtain ⟨W1, hW1⟩ : ∃ W, W = wr.alloc (.cells #[.int .i64 dk, .int .i64 (N : Int), .int .i8 ak, .int .i64 asx, .string ab, .int .i64 ae, .int .u64 (kp : Int)] 41) := ⟨_, rfl⟩
              have hx1 : Below wr.heap.size wr W1 := hW1 ▸ below_alloc wr _
              have p1 : Blk W1 wr.heap.size #[.int .i64 dk, .int .i64 (N : Int), .int .i8 ak, .int .i64 asx, .string ab, .int .i64 ae, .int .u64 (kp : Int)] 41 := hW1 ▸ Blk.new wr _ _
              have hdoes := does_any w.heap.size _ _ _ _ gA Dk dk (N : Int) ⟨ak, asx, ab, ae⟩ kp W1 (hOA.up hx1) (Nat.le_trans hbr.size hx1.size) hF.may hF.small hbd.a hbd.b hbd.kept
              have HFN := Lib.hid (five_deed hF ⟨dk, (N : Int), ⟨ak, asx, ab, ae⟩, kp⟩)
              generalize deedD Dk ⟨dk, (N : Int), ⟨ak, asx, ab, ae⟩, kp⟩ = DN at *
              generalize deedS Dk ⟨dk, (N : Int), ⟨ak, asx, ab, ae⟩, kp⟩ = SN at *
              generalize deedE Dk ⟨dk, (N : Int), ⟨ak, asx, ab, ae⟩, kp⟩ = EN at *
              dsimp only at hdoes
              have hql := hvA.lt
              go_wp2_with fail
              rw [← hW1]
              refine hdoes.mono ?_
              rintro e v5 ⟨uS, uC, uK, uF, g5, rfl, hO5, hb5⟩
              obtain ⟨x5S, y5S, x5C, y5C, x5K, y5K, x5F, y5F, rfl, rfl, rfl, rfl⟩ := own_shapes hO5
              have hx5 : Below wr.heap.size wr v5 := hx1.trans (hb5.mono hx1.size)
              have p5 := p1.below hb5 p1.lt
              have hp0 : v5.cell? ⟨wr.heap.size, 0, none⟩ = some (.int .i64 dk) := p5.cell 0 _ rfl
              have hpl := p5.lt
              obtain ⟨W6, hW6⟩ : ∃ W, W = v5.alloc (.cells #[.slice x5S DN.S.length y5S, .slice x5C DN.C.length y5C, .slice x5K DN.K.length y5K, .int .i64 DN.n, .slice x5F DN.F.length y5F] 29) := ⟨_, rfl⟩
              have hb6 : Below v5.heap.size v5 W6 := hW6 ▸ below_alloc v5 _
              have p6 : Blk W6 v5.heap.size #[.slice x5S DN.S.length y5S, .slice x5C DN.C.length y5C, .slice x5K DN.K.length y5K, .int .i64 DN.n, .slice x5F DN.F.length y5F] 29 := hW6 ▸ Blk.new v5 _ _
              have hO6 := hO5.up hb6
              have hx6 : Below wr.heap.size wr W6 := hx5.trans (hb6.mono hx5.size)
              have hM6 := own_up hMr hx6
              have hsame := sameSectors_any _ _ DN.S.length T.length y5S cM W6.heap.size DN.S T W6 (Lies.of_own hO6.s) (Lies.of_own hM6) rfl rfl (by have := HFN.out.s; unfold maxLen; omega) (by unfold maxLen; omega) (Nat.le_refl _)
              rw [decide_eq_true HSN.out.s] at hsame
              clear hdoes hW1 hx1 p1 hb5 hO5 k0 k1 k2 k3 k4 e0 e1 e2 e3 e4 e5 e6
              go_wp2_with fail
              rw [← hW6]
              clear hW6
              refine hsame.mono ?_
              rintro e v7 ⟨rfl, hb7⟩
              have hx7 : Below wr.heap.size wr v7 := hx6.trans (hb7.mono hx6.size)
              have p7 := p6.below hb7 p6.lt
              have hO7 := hO6.up hb7
              have kA7 := kA.below hx7 kA.lt
              have hM7 := own_up hMr hx7
              have hne : v5.heap.size ≠ qa := by have := hx5.size; omega
              obtain ⟨qx, hqx⟩ : ∃ q, Hid (v5.heap.size = q) := ⟨_, rfl⟩
              rw [hqx.out] at p7 hne
              rw [hqx.out]
              obtain ⟨j0, j1, j2, j3, j4⟩ := five_cells p7
              obtain ⟨z0, z1, z2, z3, z4⟩ := five_cells kA7
              obtain ⟨f0, f1, f2, f3, f4⟩ := five_free kA7
              have HV := Lib.hid (VarAt.put kA7 rfl hO7)
              have HB := Lib.hid (into5_below (hbr.trans (hx7.mono hbr.size)) HQA.out (.slice x5S DN.S.length y5S) (.slice x5C DN.C.length y5C) (.slice x5K DN.K.length y5K) DN.n (.slice x5F DN.F.length y5F))
              have HM7 := Lib.hid (own_into hM7 kA7 (.slice x5S DN.S.length y5S) (.slice x5C DN.C.length y5C) (.slice x5K DN.K.length y5K) DN.n (.slice x5F DN.F.length y5F))
              have HSF : Hid (Shut DN N T ∧ Five DN (103 + ((k + 1 : Nat) : Int))) := ⟨HSN.out, HFN.out.may, HFN.out.s, HFN.out.k, by have := HFN.out.n; omega⟩
              have HK1 := Lib.hid (show k + 1 ≤ n3 by omega)
              unfold into5 at HV HB HM7
              clear hsame hx5 p5 hp0 hpl hb6 p6 hO6 hx6 hM6 hb7 hx7 p7 hO7 kA7 hM7 hqx hvA hbr hMr kA hOA HSN HFN hF hS
              go_wp2_with fail
              go_roundw
              case rel => exact ⟨k + 1, DN, HK1.out, by go_num, HV.out, HB.out, HM7.out, HSF⟩
              case measure => have := HK1.out; simp [intOf]; omega
            have hd0 : (dk == 0) = true := by simpa using c0
            by_cases c6 : ak = 6
            · have hk6 : (ak == 6) = true := by simpa using c6
              clear c6 c0
              have HSN := Lib.hid (shut_deed hS (dk := 1) (a := ⟨ak, asx, ab, ae⟩) kp (fun h => by omega)).1
              obtain ⟨W1, hW1⟩ : ∃ W, W = wr.alloc (.cells #[.int .i64 1, .int .i64 (N : Int), .int .i8 ak, .int .i64 asx, .string ab, .int .i64 ae, .int .u64 (kp : Int)] 41) := ⟨_, rfl⟩
              have hx1 : Below wr.heap.size wr W1 := hW1 ▸ below_alloc wr _
              have p1 : Blk W1 wr.heap.size #[.int .i64 1, .int .i64 (N : Int), .int .i8 ak, .int .i64 asx, .string ab, .int .i64 ae, .int .u64 (kp : Int)] 41 := hW1 ▸ Blk.new wr _ _
              have hdoes := does_any w.heap.size _ _ _ _ gA Dk 1 (N : Int) ⟨ak, asx, ab, ae⟩ kp W1 (hOA.up hx1) (Nat.le_trans hbr.size hx1.size) hF.may hF.small hbd.a hbd.b hbd.kept
              have HFN := Lib.hid (five_deed hF ⟨1, (N : Int), ⟨ak, asx, ab, ae⟩, kp⟩)
              generalize deedD Dk ⟨1, (N : Int), ⟨ak, asx, ab, ae⟩, kp⟩ = DN at *
              generalize deedS Dk ⟨1, (N : Int), ⟨ak, asx, ab, ae⟩, kp⟩ = SN at *
              generalize deedE Dk ⟨1, (N : Int), ⟨ak, asx, ab, ae⟩, kp⟩ = EN at *
              dsimp only at hdoes
              have hql := hvA.lt
              go_wp2_with fail
              rw [← hW1]
              refine hdoes.mono ?_
              rintro e v5 ⟨uS, uC, uK, uF, g5, rfl, hO5, hb5⟩
              obtain ⟨x5S, y5S, x5C, y5C, x5K, y5K, x5F, y5F, rfl, rfl, rfl, rfl⟩ := own_shapes hO5
              have hx5 : Below wr.heap.size wr v5 := hx1.trans (hb5.mono hx1.size)
              have p5 := p1.below hb5 p1.lt
              have hp0 : v5.cell? ⟨wr.heap.size, 0, none⟩ = some (.int .i64 1) := p5.cell 0 _ rfl
              have hpl := p5.lt
              obtain ⟨W6, hW6⟩ : ∃ W, W = v5.alloc (.cells #[.slice x5S DN.S.length y5S, .slice x5C DN.C.length y5C, .slice x5K DN.K.length y5K, .int .i64 DN.n, .slice x5F DN.F.length y5F] 29) := ⟨_, rfl⟩
              have hb6 : Below v5.heap.size v5 W6 := hW6 ▸ below_alloc v5 _
              have p6 : Blk W6 v5.heap.size #[.slice x5S DN.S.length y5S, .slice x5C DN.C.length y5C, .slice x5K DN.K.length y5K, .int .i64 DN.n, .slice x5F DN.F.length y5F] 29 := hW6 ▸ Blk.new v5 _ _
              have hO6 := hO5.up hb6
              have hx6 : Below wr.heap.size wr W6 := hx5.trans (hb6.mono hx5.size)
              have hM6 := own_up hMr hx6
              have hsame := sameSectors_any _ _ DN.S.length T.length y5S cM W6.heap.size DN.S T W6 (Lies.of_own hO6.s) (Lies.of_own hM6) rfl rfl (by have := HFN.out.s; unfold maxLen; omega) (by unfold maxLen; omega) (Nat.le_refl _)
              rw [decide_eq_true HSN.out.s] at hsame
              clear hdoes hW1 hx1 p1 hb5 hO5 k0 k1 k2 k3 k4 e0 e1 e2 e3 e4 e5 e6
              go_wp2_with fail
              rw [← hW6]
              clear hW6
              refine hsame.mono ?_
              rintro e v7 ⟨rfl, hb7⟩
              have hx7 : Below wr.heap.size wr v7 := hx6.trans (hb7.mono hx6.size)
              have p7 := p6.below hb7 p6.lt
              have hO7 := hO6.up hb7
              have kA7 := kA.below hx7 kA.lt
              have hM7 := own_up hMr hx7
              have hne : v5.heap.size ≠ qa := by have := hx5.size; omega
              obtain ⟨qx, hqx⟩ : ∃ q, Hid (v5.heap.size = q) := ⟨_, rfl⟩
              rw [hqx.out] at p7 hne
              rw [hqx.out]
              obtain ⟨j0, j1, j2, j3, j4⟩ := five_cells p7
              obtain ⟨z0, z1, z2, z3, z4⟩ := five_cells kA7
              obtain ⟨f0, f1, f2, f3, f4⟩ := five_free kA7
              have HV := Lib.hid (VarAt.put kA7 rfl hO7)
              have HB := Lib.hid (into5_below (hbr.trans (hx7.mono hbr.size)) HQA.out (.slice x5S DN.S.length y5S) (.slice x5C DN.C.length y5C) (.slice x5K DN.K.length y5K) DN.n (.slice x5F DN.F.length y5F))
              have HM7 := Lib.hid (own_into hM7 kA7 (.slice x5S DN.S.length y5S) (.slice x5C DN.C.length y5C) (.slice x5K DN.K.length y5K) DN.n (.slice x5F DN.F.length y5F))
              have HSF : Hid (Shut DN N T ∧ Five DN (103 + ((k + 1 : Nat) : Int))) := ⟨HSN.out, HFN.out.may, HFN.out.s, HFN.out.k, by have := HFN.out.n; omega⟩
              have HK1 := Lib.hid (show k + 1 ≤ n3 by omega)
              unfold into5 at HV HB HM7
              clear hsame hx5 p5 hp0 hpl hb6 p6 hO6 hx6 hM6 hb7 hx7 p7 hO7 kA7 hM7 hqx hvA hbr hMr kA hOA HSN HFN hF hS
              go_wp2_with fail
              go_roundw
              case rel => exact ⟨k + 1, DN, HK1.out, by go_num, HV.out, HB.out, HM7.out, HSF⟩
              case measure => have := HK1.out; simp [intOf]; omega
            have hk6 : (ak == 6) = false := by simpa using c6
            obtain ⟨hs1, hs2⟩ := shut_deed hS (dk := dk) (a := ⟨ak, asx, ab, ae⟩) kp (fun _ => c6)
            have HSN := Lib.hid hs1
            obtain ⟨hen, hsn⟩ := hs2 c0
            clear hs1 hs2 c0 c6
            rcases hen with hen | hen
            · obtain ⟨W1, hW1⟩ : ∃ W, W = wr.alloc (.cells #[.int .i64 dk, .int .i64 (N : Int), .int .i8 ak, .int .i64 asx, .string ab, .int .i64 ae, .int .u64 (kp : Int)] 41) := ⟨_, rfl⟩
              have hx1 : Below wr.heap.size wr W1 := hW1 ▸ below_alloc wr _
              have p1 : Blk W1 wr.heap.size #[.int .i64 dk, .int .i64 (N : Int), .int .i8 ak, .int .i64 asx, .string ab, .int .i64 ae, .int .u64 (kp : Int)] 41 := hW1 ▸ Blk.new wr _ _
              have hdoes := does_any w.heap.size _ _ _ _ gA Dk dk (N : Int) ⟨ak, asx, ab, ae⟩ kp W1 (hOA.up hx1) (Nat.le_trans hbr.size hx1.size) hF.may hF.small hbd.a hbd.b hbd.kept
              have HFN := Lib.hid (five_deed hF ⟨dk, (N : Int), ⟨ak, asx, ab, ae⟩, kp⟩)
              generalize deedD Dk ⟨dk, (N : Int), ⟨ak, asx, ab, ae⟩, kp⟩ = DN at *
              generalize deedS Dk ⟨dk, (N : Int), ⟨ak, asx, ab, ae⟩, kp⟩ = SN at *
              generalize deedE Dk ⟨dk, (N : Int), ⟨ak, asx, ab, ae⟩, kp⟩ = EN at *
              dsimp only at hdoes
              obtain rfl := hsn
              obtain rfl := hen
              have hql := hvA.lt
              go_wp2_with fail
              rw [← hW1]
              refine hdoes.mono ?_
              rintro e v5 ⟨uS, uC, uK, uF, g5, rfl, hO5, hb5⟩
              obtain ⟨x5S, y5S, x5C, y5C, x5K, y5K, x5F, y5F, rfl, rfl, rfl, rfl⟩ := own_shapes hO5
              have hx5 : Below wr.heap.size wr v5 := hx1.trans (hb5.mono hx1.size)
              have p5 := p1.below hb5 p1.lt
              have hp0 : v5.cell? ⟨wr.heap.size, 0, none⟩ = some (.int .i64 dk) := p5.cell 0 _ rfl
              have hpl := p5.lt
              obtain ⟨W6, hW6⟩ : ∃ W, W = v5.alloc (.cells #[.slice x5S DN.S.length y5S, .slice x5C DN.C.length y5C, .slice x5K DN.K.length y5K, .int .i64 DN.n, .slice x5F DN.F.length y5F] 29) := ⟨_, rfl⟩
              have hb6 : Below v5.heap.size v5 W6 := hW6 ▸ below_alloc v5 _
              have p6 : Blk W6 v5.heap.size #[.slice x5S DN.S.length y5S, .slice x5C DN.C.length y5C, .slice x5K DN.K.length y5K, .int .i64 DN.n, .slice x5F DN.F.length y5F] 29 := hW6 ▸ Blk.new v5 _ _
              have hO6 := hO5.up hb6
              have hx6 : Below wr.heap.size wr W6 := hx5.trans (hb6.mono hx5.size)
              have hM6 := own_up hMr hx6
              have hsame := sameSectors_any _ _ DN.S.length T.length y5S cM W6.heap.size DN.S T W6 (Lies.of_own hO6.s) (Lies.of_own hM6) rfl rfl (by have := HFN.out.s; unfold maxLen; omega) (by unfold maxLen; omega) (Nat.le_refl _)
              rw [decide_eq_true HSN.out.s] at hsame
              clear hdoes hW1 hx1 p1 hb5 hO5 k0 k1 k2 k3 k4 e0 e1 e2 e3 e4 e5 e6
              go_wp2_with fail
              rw [← hW6]
              clear hW6
              refine hsame.mono ?_
              rintro e v7 ⟨rfl, hb7⟩
              have hx7 : Below wr.heap.size wr v7 := hx6.trans (hb7.mono hx6.size)
              have p7 := p6.below hb7 p6.lt
              have hO7 := hO6.up hb7
              have kA7 := kA.below hx7 kA.lt
              have hM7 := own_up hMr hx7
              have hne : v5.heap.size ≠ qa := by have := hx5.size; omega
              obtain ⟨qx, hqx⟩ : ∃ q, Hid (v5.heap.size = q) := ⟨_, rfl⟩
              rw [hqx.out] at p7 hne
              rw [hqx.out]
              obtain ⟨j0, j1, j2, j3, j4⟩ := five_cells p7
              obtain ⟨z0, z1, z2, z3, z4⟩ := five_cells kA7
              obtain ⟨f0, f1, f2, f3, f4⟩ := five_free kA7
              have HV := Lib.hid (VarAt.put kA7 rfl hO7)
              have HB := Lib.hid (into5_below (hbr.trans (hx7.mono hbr.size)) HQA.out (.slice x5S DN.S.length y5S) (.slice x5C DN.C.length y5C) (.slice x5K DN.K.length y5K) DN.n (.slice x5F DN.F.length y5F))
              have HM7 := Lib.hid (own_into hM7 kA7 (.slice x5S DN.S.length y5S) (.slice x5C DN.C.length y5C) (.slice x5K DN.K.length y5K) DN.n (.slice x5F DN.F.length y5F))
              have HSF : Hid (Shut DN N T ∧ Five DN (103 + ((k + 1 : Nat) : Int))) := ⟨HSN.out, HFN.out.may, HFN.out.s, HFN.out.k, by have := HFN.out.n; omega⟩
              have HK1 := Lib.hid (show k + 1 ≤ n3 by omega)
              unfold into5 at HV HB HM7
              clear hsame hx5 p5 hp0 hpl hb6 p6 hO6 hx6 hM6 hb7 hx7 p7 hO7 kA7 hM7 hqx hvA hbr hMr kA hOA HSN HFN hF hS
              go_wp2_with fail
              go_roundw
              case rel => exact ⟨k + 1, DN, HK1.out, by go_num, HV.out, HB.out, HM7.out, HSF⟩
              case measure => have := HK1.out; simp [intOf]; omega
            · obtain ⟨W1, hW1⟩ : ∃ W, W = wr.alloc (.cells #[.int .i64 dk, .int .i64 (N : Int), .int .i8 ak, .int .i64 asx, .string ab, .int .i64 ae, .int .u64 (kp : Int)] 41) := ⟨_, rfl⟩
              have hx1 : Below wr.heap.size wr W1 := hW1 ▸ below_alloc wr _
              have p1 : Blk W1 wr.heap.size #[.int .i64 dk, .int .i64 (N : Int), .int .i8 ak, .int .i64 asx, .string ab, .int .i64 ae, .int .u64 (kp : Int)] 41 := hW1 ▸ Blk.new wr _ _
              have hdoes := does_any w.heap.size _ _ _ _ gA Dk dk (N : Int) ⟨ak, asx, ab, ae⟩ kp W1 (hOA.up hx1) (Nat.le_trans hbr.size hx1.size) hF.may hF.small hbd.a hbd.b hbd.kept
              have HFN := Lib.hid (five_deed hF ⟨dk, (N : Int), ⟨ak, asx, ab, ae⟩, kp⟩)
              generalize deedD Dk ⟨dk, (N : Int), ⟨ak, asx, ab, ae⟩, kp⟩ = DN at *
              generalize deedS Dk ⟨dk, (N : Int), ⟨ak, asx, ab, ae⟩, kp⟩ = SN at *
              generalize deedE Dk ⟨dk, (N : Int), ⟨ak, asx, ab, ae⟩, kp⟩ = EN at *
              dsimp only at hdoes
              obtain rfl := hsn
              obtain rfl := hen
              have hql := hvA.lt
              go_wp2_with fail
              rw [← hW1]
              refine hdoes.mono ?_
              rintro e v5 ⟨uS, uC, uK, uF, g5, rfl, hO5, hb5⟩
              obtain ⟨x5S, y5S, x5C, y5C, x5K, y5K, x5F, y5F, rfl, rfl, rfl, rfl⟩ := own_shapes hO5
              have hx5 : Below wr.heap.size wr v5 := hx1.trans (hb5.mono hx1.size)
              have p5 := p1.below hb5 p1.lt
              have hp0 : v5.cell? ⟨wr.heap.size, 0, none⟩ = some (.int .i64 dk) := p5.cell 0 _ rfl
              have hpl := p5.lt
              obtain ⟨W6, hW6⟩ : ∃ W, W = v5.alloc (.cells #[.slice x5S DN.S.length y5S, .slice x5C DN.C.length y5C, .slice x5K DN.K.length y5K, .int .i64 DN.n, .slice x5F DN.F.length y5F] 29) := ⟨_, rfl⟩
              have hb6 : Below v5.heap.size v5 W6 := hW6 ▸ below_alloc v5 _
              have p6 : Blk W6 v5.heap.size #[.slice x5S DN.S.length y5S, .slice x5C DN.C.length y5C, .slice x5K DN.K.length y5K, .int .i64 DN.n, .slice x5F DN.F.length y5F] 29 := hW6 ▸ Blk.new v5 _ _
              have hO6 := hO5.up hb6
              have hx6 : Below wr.heap.size wr W6 := hx5.trans (hb6.mono hx5.size)
              have hM6 := own_up hMr hx6
              have hsame := sameSectors_any _ _ DN.S.length T.length y5S cM W6.heap.size DN.S T W6 (Lies.of_own hO6.s) (Lies.of_own hM6) rfl rfl (by have := HFN.out.s; unfold maxLen; omega) (by unfold maxLen; omega) (Nat.le_refl _)
              rw [decide_eq_true HSN.out.s] at hsame
              clear hdoes hW1 hx1 p1 hb5 hO5 k0 k1 k2 k3 k4 e0 e1 e2 e3 e4 e5 e6
              go_wp2_with fail
              rw [← hW6]
              clear hW6
              refine hsame.mono ?_
              rintro e v7 ⟨rfl, hb7⟩
              have hx7 : Below wr.heap.size wr v7 := hx6.trans (hb7.mono hx6.size)
              have p7 := p6.below hb7 p6.lt
              have hO7 := hO6.up hb7
              have kA7 := kA.below hx7 kA.lt
              have hM7 := own_up hMr hx7
              have hne : v5.heap.size ≠ qa := by have := hx5.size; omega
              obtain ⟨qx, hqx⟩ : ∃ q, Hid (v5.heap.size = q) := ⟨_, rfl⟩
              rw [hqx.out] at p7 hne
              rw [hqx.out]
              obtain ⟨j0, j1, j2, j3, j4⟩ := five_cells p7
              obtain ⟨z0, z1, z2, z3, z4⟩ := five_cells kA7
              obtain ⟨f0, f1, f2, f3, f4⟩ := five_free kA7
              have HV := Lib.hid (VarAt.put kA7 rfl hO7)
              have HB := Lib.hid (into5_below (hbr.trans (hx7.mono hbr.size)) HQA.out (.slice x5S DN.S.length y5S) (.slice x5C DN.C.length y5C) (.slice x5K DN.K.length y5K) DN.n (.slice x5F DN.F.length y5F))
              have HM7 := Lib.hid (own_into hM7 kA7 (.slice x5S DN.S.length y5S) (.slice x5C DN.C.length y5C) (.slice x5K DN.K.length y5K) DN.n (.slice x5F DN.F.length y5F))
              have HSF : Hid (Shut DN N T ∧ Five DN (103 + ((k + 1 : Nat) : Int))) := ⟨HSN.out, HFN.out.may, HFN.out.s, HFN.out.k, by have := HFN.out.n; omega⟩
              have HK1 := Lib.hid (show k + 1 ≤ n3 by omega)
              unfold into5 at HV HB HM7
              clear hsame hx5 p5 hp0 hpl hb6 p6 hO6 hx6 hM6 hb7 hx7 p7 hO7 kA7 hM7 hqx hvA hbr hMr kA hOA HSN HFN hF hS
              go_wp2_with fail
              go_roundw
              case rel => exact ⟨k + 1, DN, HK1.out, by go_num, HV.out, HB.out, HM7.out, HSF⟩
              case measure => have := HK1.out; simp [intOf]; omega
          · have hkn : k = n3 := by omega
            clear hlt
            obtain ⟨r1, r2⟩ := register_at hF (by omega) hN3
            obtain ⟨vS, vC, vK, vF, gA, hOA, kA⟩ := id hvA
            obtain ⟨sS, tS, sC, tC, sK, tK, sF, tF, rfl, rfl, rfl, rfl⟩ := own_shapes hOA
            obtain ⟨k0, k1, k2, k3, k4⟩ := five_cells kA
            have hdo : Calls Try.prog 15 #[.agg #[.slice sS Dk.S.length tS, .slice sC Dk.C.length tC, .slice sK Dk.K.length tK, .int .i64 Dk.n, .slice sF Dk.F.length tF], .int .i64 (N : Int), .agg #[.int .i8 6, .int .i64 0, .string ⟨#[]⟩, .int .i64 0]] wr (ActPost (doD Dk (N : Int) ⟨6, 0, ⟨#[]⟩, 0⟩) (doS Dk (N : Int) ⟨6, 0, ⟨#[]⟩, 0⟩) (refE Dk (N : Int) ⟨6, 0, ⟨#[]⟩, 0⟩) wr) := devDo_any _ Dk (N : Int) ⟨6, 0, ⟨#[]⟩, 0⟩ wr hOA.dev hF.may hF.small (act_bd 6 0 0 (by omega) (by omega) rfl (by omega) (by omega))
            rw [r1] at hdo
            generalize doS Dk (N : Int) ⟨6, 0, ⟨#[]⟩, 0⟩ = SN at *
            generalize doD Dk (N : Int) ⟨6, 0, ⟨#[]⟩, 0⟩ = DN at *
            have hr2 : (((SN.size : Nat) : Int) == 6) = true := by rw [r2]; rfl
            have HR2 := Lib.hid r2
            clear r2
            go_wp2_with fail
            refine hdo.mono ?_
            rintro e v5 ⟨uS, uC, uK, uF, g5, rfl, hO5, hb5⟩
            obtain ⟨x5S, y5S, x5C, y5C, x5K, y5K, x5F, y5F, rfl, rfl, rfl, rfl⟩ := own_shapes hO5
            have hb6 : Below w.heap.size w (v5.alloc (.cells #[.slice x5S DN.S.length y5S, .slice x5C DN.C.length y5C, .slice x5K DN.K.length y5K, .int .i64 DN.n, .slice x5F DN.F.length y5F] 29)) := (hbr.trans (hb5.mono hbr.size)).alloc (hbr.trans (hb5.mono hbr.size)).size _
            clear hdo k0 k1 k2 k3 k4 hOA hO5 hvA hMr hb5 kA
            go_wp2_with fail
            refine (wakes_any _).mono ?_
            rintro e v9 ⟨rfl, hb9⟩
            have hb10 := hb6.trans (hb9.mono hb6.size)
            go_wp2_with fail
            go_ret
            exact ⟨rfl, hb10⟩

/-! ### THE ROW's STEP -/
set_option maxRecDepth 100000 in
theorem lifted (os : Os) (started : os.Started) (H : Type) (enc : TypeId × Value → H) :
    ReturnsInHanded {} Try.checked os 4 .any (Rows.deviceFenceSpec.pre6 enc Try.prog Try.f4 Rows.deviceFenceRow.domain false) (Rows.deviceFenceSpec.post enc Try.prog Try.f4 false true false false) := by
  refine returnsInHanded_of_change (C := Try.checked) own started (by kernel_rfl) Try.func4
    (ChangeSpec.witness6 (enc := enc) (C := Try.checked) false ⟨#[], #[.slice none 0 0, .slice none 0 0, .int .i64 0, .slice none 0 0], []⟩ 8 (by kernel_rfl) (by kernel_rfl) (by kernel_rfl) (by kernel_rfl)) ?_
  intro W base args ds gs before hval0 hW hcnd _
  have hval : ∀ (j : Nat) t v, Try.f4.params[j]? = some t → args[j]? = some v → Value.okWide Try.prog W .any base t v := hval0
  have hW' := hW
  obtain ⟨p, q, hA0, hV, rfl, hfz, hnd⟩ := hW
  have hA : DataW.TrodAll enc Try.prog W 0 (fun _ => true) true Try.f4.params.toList args.toList ds p := hA0
  rw [Try.params4] at hA hval
  obtain ⟨v0, vs0, d0, ds0, p0, q0, hargs, rfl, rfl, h0, r0⟩ := trodAll_cons hA
  obtain ⟨v1, vs1, d1, ds1, p1, q1, rfl, rfl, rfl, h1, r1⟩ := trodAll_cons r0
  obtain ⟨v2, vs2, d2, ds2, p2, q2, rfl, rfl, rfl, h2, r2⟩ := trodAll_cons r1
  obtain ⟨v3, vs3, d3, ds3, p3, q3, rfl, rfl, rfl, h3, r3⟩ := trodAll_cons r2
  obtain ⟨rfl, rfl, rfl⟩ := trodAll_nil r3
  obtain rfl : args = #[v0, v1, v2, v3] := by cases args; simp_all
  obtain ⟨rfl, rfl⟩ := trodVars_none hV
  have k0 := h0
  have lt0 : ∀ x ∈ p0, x.block < W.heap.size := by obtain ⟨m, hm⟩ := k0; exact DataW.trod_lt m _ _ _ hm
  obtain ⟨a0, len0, cap0, rfl⟩ := okWide_slice Try.underlying22 (hval 0 22 v0 rfl rfl)
  obtain ⟨z0, w0⟩ : ∃ zs, IsStrs W a0 len0 cap0 zs := by
    obtain ⟨fuel, hf⟩ := h0
    rcases open_strings Try.underlying22 Try.underlying9 (by kernel_rfl) hf with ⟨hcs, _⟩ | ⟨x, l, c, zs, hcs, _, hl, hm, hz, _, hcell, hwz⟩
    · simp [Value.cells] at hcs
      obtain ⟨rfl, rfl, rfl⟩ := hcs
      exact ⟨[], .inl ⟨rfl, rfl, rfl, rfl⟩⟩
    · simp [Value.cells] at hcs
      obtain ⟨rfl, rfl, rfl⟩ := hcs
      exact ⟨zs, .inr ⟨_, rfl, hl, hm, by simpa using hz, hcell, hwz⟩⟩
  have k1 := h1
  have lt1 : ∀ x ∈ p1, x.block < W.heap.size := by obtain ⟨m, hm⟩ := k1; exact DataW.trod_lt m _ _ _ hm
  obtain ⟨a1, len1, cap1, X1, rfl, w1⟩ := open_deeds (hval 1 23 v1 rfl rfl) h1
  obtain ⟨a2, rfl, rfl, rfl, w2⟩ := open_int Try.underlying3 (hval 2 3 v2 rfl rfl) h2
  have k3 := h3
  have lt3 : ∀ x ∈ p3, x.block < W.heap.size := by obtain ⟨m, hm⟩ := k3; exact DataW.trod_lt m _ _ _ hm
  obtain ⟨a3, len3, cap3, X3, rfl, w3⟩ := open_deeds (hval 3 23 v3 rfl rfl) h3
  clear hA0 hval0
  refine (walk a0 len0 cap0 z0 a1 len1 cap1 X1 a2 a3 len3 cap3 X3 W w0 w1 w2 w3).mono fun e W' ⟨he, bel⟩ => ?_
  subst he
  exact ⟨_, rfl, _, _, _, [], _, [], hW', trodAll_mk1 (shut_bool Try.underlying4 _), (trodAll_cons_mk (Below.trod laidOut (by kernel_rfl) (of_decide_eq_true (by kernel_rfl)) k0 bel lt0) (trodAll_cons_mk (Below.trod laidOut (by kernel_rfl) (of_decide_eq_true (by kernel_rfl)) k1 bel lt1) (trodAll_cons_mk (shut_int Try.underlying3 w2) (trodAll_cons_mk (Below.trod laidOut (by kernel_rfl) (of_decide_eq_true (by kernel_rfl)) k3 bel lt3) trodAll_mk0)))), rfl, bel.frame _, fun h => by cases h⟩

theorem over : Rows.deviceFenceRow.holds Try.pinned (OpenSpec.ofChange Rows.deviceFenceSpec) :=
  OpenClaim.holds_of_wide 4 Try.f4 rfl rfl rfl rfl rfl rfl rfl ⟨rfl, rfl, rfl, rfl, rfl⟩ rfl rfl rfl rfl rfl (by kernel_rfl) Try.func4 (by kernel_rfl)
    (of_decide_eq_true (by kernel_rfl)) (by unfold Func.isWrapper; first | (rw [if_pos (by decide +kernel)]; kernel_rfl) | (rw [if_neg (by decide +kernel)]; exact ⟨rfl, rfl⟩))
    (fun os started H enc _ => lifted os started H enc)

/-- The statement. -/
theorem proved : Rows.DeviceFenceSaid := over
#print axioms proved
end Go.Proofs.Ytleemgjbihdbgaa.deviceFence
