/-
  The statement DevicePlays: a new device, deed by deed, is what the document says: for any number of nodes, all sectors and all deeds the call answers true and leaves its arguments as they were. No conditions.
-/
import Derived.Test.YtleemgjbihdbgaaDevTwo
import Derived.Test.YtleemgjbihdbgaaDevWakes
import Derived.Test.YtleemgjbihdbgaaJoinDevRefNew
import Derived.Test.YtleemgjbihdbgaaJoinDevRefSame
import Derived.Test.YtleemgjbihdbgaaOpenRows
import Derived.Test.YtleemgjbihdbgaaDevSmall
import Derived.ProofKit
import Derived.Deep.DeepCutAuto
import Derived.Deep.AppendLies
import Derived.ShutString
import Derived.ChangeOld
import Derived.Below
namespace Go.Proofs.Ytleemgjbihdbgaa.devicePlays
open Go.ChangeShapes Go.WideShapes Go.ChangeAt Go.RowKit Go.Deep
open Go.ChangeMaps (open_string shut_string)
set_option linter.unusedVariables false
set_option linter.unusedSimpArgs false

theorem own : ownKnob Try.prog.godebug = none := by kernel_rfl
theorem laidOut : laidOutB Try.prog = true := by kernel_rfl
set_option maxRecDepth 100000 in
set_option maxHeartbeats 2000000 in
theorem walk (nodes : Int) (a1 : Option Addr) (n1 c1 : Nat) (z1 : List ByteArray) (a2 : Option Addr) (n2 c2 : Nat) (X : Nat → DeedM) (w : World) (w0 : (Lit.int .i64 nodes).wf = true) (w1 : IsStrs w a1 n1 c1 z1) (w2 : IsDeeds w a2 n2 c2 X) :
    Calls Try.prog 3 #[.int .i64 nodes, .slice a1 n1 c1, .slice a2 n2 c2] w fun e w' => e = .returned (.bool true) ∧ Below w.heap.size w w' := by
  obtain ⟨hS, hsz, hn1, hl1⟩ := lies_of_strs w1
  generalize z1.take n1 = S at *
  have hn2 : n2 ≤ maxLen := by
    rcases w2 with ⟨_, h1, _⟩ | ⟨_, _, h1, h2, _⟩
    · omega
    · omega
  unfold maxLen at hn1 hn2
  clear w0 w1
  go_enter Try.func3, Try.ntmps3
  by_cases h40 : 40 < n1
  · have d1 : decide ((40 : Int) < (n1 : Int)) = true := decide_eq_true (by omega)
    go_wp2_with fail
    refine (wakes_any w).mono ?_
    rintro e v1 ⟨rfl, hb1⟩
    go_wp2_with fail
    go_ret
    exact ⟨rfl, hb1⟩
  · have d1 : decide ((40 : Int) < (n1 : Int)) = false := decide_eq_false (by omega)
    have hg := great_any a2 n2 c2 X w w w2 (Below.refl _ _)
    obtain ⟨G, hG⟩ : ∃ G, greatB X n2 = G := ⟨_, rfl⟩
    rw [hG] at hg
    go_wp2_with fail
    refine hg.mono ?_
    rintro e v1 ⟨rfl, rfl⟩
    clear hg
    cases G with
    | true =>
      go_wp2_with fail
      refine (wakes_any w).mono ?_
      rintro e v1 ⟨rfl, hb1⟩
      go_wp2_with fail
      go_ret
      exact ⟨rfl, hb1⟩
    | false =>
      have hc1 := devNew_any nodes a1 n1 c1 S w hS hl1 (by omega)
      generalize hDn : nwD nodes S = D at *
      generalize hEn : nwE nodes S = E at *
      go_wp2_with fail
      refine hc1.mono ?_
      rintro e v1 ⟨uS, uC, uK, uF, g, rfl, hO1, hb1⟩
      obtain ⟨xS, yS, xC, yC, xK, yK, xF, yF, rfl, rfl, rfl, rfl⟩ := own_shapes hO1
      have HO1 := Lib.hid hO1
      have hvA := var_new hO1
      obtain ⟨V1, hV1⟩ : ∃ V, V = v1.alloc (.cells #[.slice xS D.S.length yS, .slice xC D.C.length yC, .slice xK D.K.length yK, .int .i64 D.n, .slice xF D.F.length yF] 29) := ⟨_, rfl⟩
      rw [← hV1] at hvA
      have hbV1 : Below w.heap.size w V1 := by rw [hV1]; exact hb1.alloc hb1.size _
      have hc2 := refNew_any nodes a1 n1 c1 S V1 (lies_up hS hbV1) hl1 (by omega)
      rw [hDn, hEn] at hc2
      have hlA : v1.heap.size < V1.heap.size := by rw [hV1]; simp
      clear hc1 hO1
      go_wp2_with fail
      rw [← hV1]
      clear hV1
      refine hc2.mono ?_
      rintro e v2 ⟨uS2, uC2, uK2, uF2, g2, rfl, hO2, hb2⟩
      obtain ⟨xS2, yS2, xC2, yC2, xK2, yK2, xF2, yF2, rfl, rfl, rfl, rfl⟩ := own_shapes hO2
      have hvA2 := hvA.up hb2
      have hvB := var_new (hO2.less (B' := w.heap.size) hbV1.size)
      obtain ⟨V2, hV2⟩ : ∃ V, V = v2.alloc (.cells #[.slice xS2 D.S.length yS2, .slice xC2 D.C.length yC2, .slice xK2 D.K.length yK2, .int .i64 D.n, .slice xF2 D.F.length yF2] 29) := ⟨_, rfl⟩
      rw [← hV2] at hvB
      have hbV2 : Below v2.heap.size v2 V2 := hV2 ▸ below_alloc v2 _
      have hvA3 := hvA2.up hbV2
      have hbV3 : Below w.heap.size w V2 := (hbV1.trans (hb2.mono hbV1.size)).trans (hbV2.mono (by have := hb2.size; have := hbV1.size; omega))
      have hvA4 := hvA3
      have hlA2 : v1.heap.size < v2.heap.size := by have := hb2.size; omega
      have hne : v1.heap.size ≠ v2.heap.size := by omega
      obtain ⟨sS, tS, sC, tC, sK, tK, sF, tF, k0, k1, k2, k3, k4, hdA, _, _⟩ := hvA4.cells
      have hdB := (hO2.up hbV2).dev
      obtain ⟨j0, j1, j2, j3, j4⟩ : v2.cell? ⟨v1.heap.size, 0, none⟩ = some (.slice sS D.S.length tS) ∧ v2.cell? ⟨v1.heap.size, 1, none⟩ = some (.slice sC D.C.length tC) ∧ v2.cell? ⟨v1.heap.size, 2, none⟩ = some (.slice sK D.K.length tK) ∧ v2.cell? ⟨v1.heap.size, 3, none⟩ = some (.int .i64 D.n) ∧ v2.cell? ⟨v1.heap.size, 4, none⟩ = some (.slice sF D.F.length tF) :=
        ⟨(hbV2.cell (p := ⟨v1.heap.size, 0, none⟩) hlA2).symm.trans k0, (hbV2.cell (p := ⟨v1.heap.size, 1, none⟩) hlA2).symm.trans k1, (hbV2.cell (p := ⟨v1.heap.size, 2, none⟩) hlA2).symm.trans k2, (hbV2.cell (p := ⟨v1.heap.size, 3, none⟩) hlA2).symm.trans k3, (hbV2.cell (p := ⟨v1.heap.size, 4, none⟩) hlA2).symm.trans k4⟩
      have HSD : Hid (D.K.length ≤ 1099511627776 ∧ D.F.length ≤ 1099511627776) := by
        rw [← hDn]
        unfold nwD
        split
        · rename_i hh
          show (List.replicate nodes.toNat (0 : Int)).length ≤ _ ∧ ([] : List Int).length ≤ _
          have := hh.2.1
          simp
          omega
        · show ([] : List Int).length ≤ _ ∧ ([] : List Int).length ≤ _
          simp
      have hsm := refSame_yes _ _ D V2 hdA hdB HSD.out.1 HSD.out.2
      clear k0 k1 k2 k3 k4 hO2 hvA hvA2 hbV1 hb2 hlA hdA hdB HO1
      go_wp2_with fail
      rw [← hV2]
      refine hsm.mono ?_
      rintro e v3 ⟨rfl, hb3⟩
      have hvA5 := hvA4.up hb3
      have hvB5 := hvB.up hb3
      have hbW := hbV3.trans (hb3.mono hbV3.size)
      clear hsm hvA3 hvA4 hvB hV2 hbV2 j0 j1 j2 j3 j4
      go_wp2_with fail
      obtain ⟨qa, hqa⟩ : ∃ q, Hid (v1.heap.size = q) := ⟨_, rfl⟩
      obtain ⟨qb, hqb⟩ : ∃ q, Hid (v2.heap.size = q) := ⟨_, rfl⟩
      rw [hqa.out, hqb.out] at hne
      rw [hqa.out] at hvA5
      rw [hqb.out] at hvB5
      have HMY : Hid (E = 0 → MayD D ∧ D.S.length ≤ 1099511627776) := by
        intro hE
        rw [← hEn] at hE
        unfold nwE at hE
        split at hE
        · rename_i hh
          rw [← hDn]
          unfold nwD
          rw [if_pos hh]
          refine ⟨may_new (by have := hh.1; omega) (by have := hh.2.1; omega) hh.2.2.1 hh.2.2.2, ?_⟩
          show S.length ≤ _
          omega
        · cases hE
      have hgn := great_no hG
      have HQA : Hid (w.heap.size ≤ qa ∧ w.heap.size ≤ qb) := by
        show _ ∧ _
        rw [← hqa.out, ← hqb.out]
        have := hb1.size
        exact ⟨this, by omega⟩
      rw [hqa.out, hqb.out]
      clear hDn hEn hc2 hb3 HSD hlA2 hS hb1 hbV3
      go_loopw [11] (fun i wr => ∃ (k : Nat) (Dk : Dev), k ≤ n2 ∧ i = .int .i64 (k : Int) ∧ VarAt wr w.heap.size qa Dk ∧ VarAt wr w.heap.size qb Dk ∧ Below w.heap.size w wr ∧ Hid (E = 0 → MayD Dk ∧ Dk.S.length ≤ 1099511627776)) (fun i _ => n2 - (intOf i).toNat)
      case atStart => exact ⟨0, D, Nat.zero_le _, rfl, hvA5, hvB5, hbW, HMY⟩
      case round =>
        clear hvA5 hvB5 hbW HMY
        obtain ⟨k, Dk, hk, rfl, hvA, hvB, hbr, HM⟩ := hrel
        by_cases hlt : k < n2
        · by_cases hE : E = 0
          · subst hE
            obtain ⟨hmd, hsd⟩ := HM.out rfl
            have hsm := may_small hmd hsd
            obtain ⟨p, rfl, hD⟩ : ∃ p : Addr, a2 = some p ∧ ∀ i, i < n2 → DeedAt w (p.add (i * 7)) (X i) ∧ DeedBd (X i) := by
              rcases w2 with ⟨_, h1, _⟩ | ⟨p, h1, _, _, h4⟩
              · omega
              · exact ⟨p, h1, h4⟩
            obtain ⟨hdk, hbd⟩ := hD k hlt
            obtain ⟨vS, vC, vK, vF, gA, hOA, kA⟩ := id hvA
            obtain ⟨sS, tS, sC, tC, sK, tK, sF, tF, rfl, rfl, rfl, rfl⟩ := own_shapes hOA
            obtain ⟨k0, k1, k2, k3, k4⟩ := five_cells kA
            obtain ⟨e0, e1, e2, e3, e4, e5, e6⟩ := deed_cells hdk hbr
            have hkeep : ∀ wx : World, Below wr.heap.size wr wx → (wx.cell? ⟨qa, 0, none⟩ = some (.slice sS Dk.S.length tS) ∧ wx.cell? ⟨qa, 1, none⟩ = some (.slice sC Dk.C.length tC) ∧ wx.cell? ⟨qa, 2, none⟩ = some (.slice sK Dk.K.length tK) ∧ wx.cell? ⟨qa, 3, none⟩ = some (.int .i64 Dk.n) ∧ wx.cell? ⟨qa, 4, none⟩ = some (.slice sF Dk.F.length tF) ∧ wx.cell? (p.add (k * 7)) = some (.int .i64 (X k).dk) ∧ wx.cell? ⟨(p.add (k * 7)).block, (p.add (k * 7)).off + 1, none⟩ = some (.int .i64 (X k).node) ∧ wx.cell? ⟨(p.add (k * 7)).block, (p.add (k * 7)).off + 2, none⟩ = some (.int .i8 (X k).a.k) ∧ wx.cell? ⟨(p.add (k * 7)).block, (p.add (k * 7)).off + 3, none⟩ = some (.int .i64 (X k).a.s) ∧ wx.cell? ⟨(p.add (k * 7)).block, (p.add (k * 7)).off + 4, none⟩ = some (.string (X k).a.b) ∧ wx.cell? ⟨(p.add (k * 7)).block, (p.add (k * 7)).off + 5, none⟩ = some (.int .i64 (X k).a.key) ∧ wx.cell? ⟨(p.add (k * 7)).block, (p.add (k * 7)).off + 6, none⟩ = some (.int .u64 ((X k).kept : Int))) := fun wx hx => by
              obtain ⟨j0, j1, j2, j3, j4⟩ := five_cells (kA.below hx kA.lt)
              obtain ⟨f0, f1, f2, f3, f4, f5, f6⟩ := deed_cells hdk (hbr.trans (hx.mono hbr.size))
              exact ⟨j0, j1, j2, j3, j4, f0, f1, f2, f3, f4, f5, f6⟩
            have hdoes := fun (wx : World) (hx : Below wr.heap.size wr wx) => does_any w.heap.size _ _ _ _ gA Dk (X k).dk (X k).node (X k).a (X k).kept wx (hOA.up hx) (Nat.le_trans hbr.size hx.size) hmd hsm hbd.a hbd.b hbd.kept
            obtain ⟨DN, hDN⟩ : ∃ d, Hid (deedD Dk (X k) = d) := ⟨_, rfl⟩
            obtain ⟨SN, hSN⟩ : ∃ d, Hid (deedS Dk (X k) = d) := ⟨_, rfl⟩
            obtain ⟨EN, hEN⟩ : ∃ d, Hid (deedE Dk (X k) = d) := ⟨_, rfl⟩
            rw [show deedD Dk ⟨(X k).dk, (X k).node, (X k).a, (X k).kept⟩ = DN from hDN.out, show deedS Dk ⟨(X k).dk, (X k).node, (X k).a, (X k).kept⟩ = SN from hSN.out, show deedE Dk ⟨(X k).dk, (X k).node, (X k).a, (X k).kept⟩ = EN from hEN.out] at hdoes
            obtain ⟨v3', hv3'⟩ : ∃ W, W = (wr.alloc (.cells #[.slice none 0 0, .slice none 0 0, .slice none 0 0, .int .i64 0, .slice none 0 0] 29)).drew := ⟨_, rfl⟩
            have hx3 : Below wr.heap.size wr v3' := by rw [hv3']; exact (below_alloc wr _).drew
            have zb : Blk v3' wr.heap.size #[.slice none 0 0, .slice none 0 0, .slice none 0 0, .int .i64 0, .slice none 0 0] 29 := by rw [hv3']; exact (Blk.new wr _ _).drew
            have HZ0 : Hid ((((wr.alloc (.cells #[.slice none 0 0, .slice none 0 0, .slice none 0 0, .int .i64 0, .slice none 0 0] 29)).drew).cell? ⟨qa, 0, none⟩ = some (.slice sS Dk.S.length tS) ∧ ((wr.alloc (.cells #[.slice none 0 0, .slice none 0 0, .slice none 0 0, .int .i64 0, .slice none 0 0] 29)).drew).cell? ⟨qa, 1, none⟩ = some (.slice sC Dk.C.length tC) ∧ ((wr.alloc (.cells #[.slice none 0 0, .slice none 0 0, .slice none 0 0, .int .i64 0, .slice none 0 0] 29)).drew).cell? ⟨qa, 2, none⟩ = some (.slice sK Dk.K.length tK) ∧ ((wr.alloc (.cells #[.slice none 0 0, .slice none 0 0, .slice none 0 0, .int .i64 0, .slice none 0 0] 29)).drew).cell? ⟨qa, 3, none⟩ = some (.int .i64 Dk.n) ∧ ((wr.alloc (.cells #[.slice none 0 0, .slice none 0 0, .slice none 0 0, .int .i64 0, .slice none 0 0] 29)).drew).cell? ⟨qa, 4, none⟩ = some (.slice sF Dk.F.length tF) ∧ ((wr.alloc (.cells #[.slice none 0 0, .slice none 0 0, .slice none 0 0, .int .i64 0, .slice none 0 0] 29)).drew).cell? (p.add (k * 7)) = some (.int .i64 (X k).dk) ∧ ((wr.alloc (.cells #[.slice none 0 0, .slice none 0 0, .slice none 0 0, .int .i64 0, .slice none 0 0] 29)).drew).cell? ⟨(p.add (k * 7)).block, (p.add (k * 7)).off + 1, none⟩ = some (.int .i64 (X k).node) ∧ ((wr.alloc (.cells #[.slice none 0 0, .slice none 0 0, .slice none 0 0, .int .i64 0, .slice none 0 0] 29)).drew).cell? ⟨(p.add (k * 7)).block, (p.add (k * 7)).off + 2, none⟩ = some (.int .i8 (X k).a.k) ∧ ((wr.alloc (.cells #[.slice none 0 0, .slice none 0 0, .slice none 0 0, .int .i64 0, .slice none 0 0] 29)).drew).cell? ⟨(p.add (k * 7)).block, (p.add (k * 7)).off + 3, none⟩ = some (.int .i64 (X k).a.s) ∧ ((wr.alloc (.cells #[.slice none 0 0, .slice none 0 0, .slice none 0 0, .int .i64 0, .slice none 0 0] 29)).drew).cell? ⟨(p.add (k * 7)).block, (p.add (k * 7)).off + 4, none⟩ = some (.string (X k).a.b) ∧ ((wr.alloc (.cells #[.slice none 0 0, .slice none 0 0, .slice none 0 0, .int .i64 0, .slice none 0 0] 29)).drew).cell? ⟨(p.add (k * 7)).block, (p.add (k * 7)).off + 5, none⟩ = some (.int .i64 (X k).a.key) ∧ ((wr.alloc (.cells #[.slice none 0 0, .slice none 0 0, .slice none 0 0, .int .i64 0, .slice none 0 0] 29)).drew).cell? ⟨(p.add (k * 7)).block, (p.add (k * 7)).off + 6, none⟩ = some (.int .u64 ((X k).kept : Int)))) := hkeep _ ((below_alloc wr _).drew)
            go_wp2_with fail
            refine wp_region_held_drew (S := (fun w' => w'.cell? ⟨qa, 0, none⟩ = some (.slice sS Dk.S.length tS) ∧ w'.cell? ⟨qa, 1, none⟩ = some (.slice sC Dk.C.length tC) ∧ w'.cell? ⟨qa, 2, none⟩ = some (.slice sK Dk.K.length tK) ∧ w'.cell? ⟨qa, 3, none⟩ = some (.int .i64 Dk.n) ∧ w'.cell? ⟨qa, 4, none⟩ = some (.slice sF Dk.F.length tF) ∧ w'.cell? (p.add (k * 7)) = some (.int .i64 (X k).dk) ∧ w'.cell? ⟨(p.add (k * 7)).block, (p.add (k * 7)).off + 1, none⟩ = some (.int .i64 (X k).node) ∧ w'.cell? ⟨(p.add (k * 7)).block, (p.add (k * 7)).off + 2, none⟩ = some (.int .i8 (X k).a.k) ∧ w'.cell? ⟨(p.add (k * 7)).block, (p.add (k * 7)).off + 3, none⟩ = some (.int .i64 (X k).a.s) ∧ w'.cell? ⟨(p.add (k * 7)).block, (p.add (k * 7)).off + 4, none⟩ = some (.string (X k).a.b) ∧ w'.cell? ⟨(p.add (k * 7)).block, (p.add (k * 7)).off + 5, none⟩ = some (.int .i64 (X k).a.key) ∧ w'.cell? ⟨(p.add (k * 7)).block, (p.add (k * 7)).off + 6, none⟩ = some (.int .u64 ((X k).kept : Int)))) (by kernel_rfl) ?_ (fun hHeld => ?_)
            focus (exact ⟨k0, k1, k2, k3, k4, e0, e1, e2, e3, e4, e5, e6⟩)
            refine wpAnyH_take (i := 0) (oi := ⟨some 58, _, _, _, _, _⟩) (v := ?_) rfl (by kernel_rfl) (by kernel_rfl) (by kernel_rfl) (fun _ _ _ h => h) (Or.inl ⟨by rfl, ?_⟩) (by assumption) ?_
            rotate_left
            focus (intro wq hSq; (try dsimp only at hSq); go_simp; try with_reducible rfl)
            try simp only [Act.put, List.setIfInBounds_toArray, List.set_cons_zero, List.set_cons_succ]
            refine wpAnyH_take (i := 1) (oi := ⟨some 59, _, _, _, _, _⟩) (v := ?_) rfl (by kernel_rfl) (by kernel_rfl) (by kernel_rfl) (fun _ _ _ h => h) (Or.inl ⟨by rfl, ?_⟩) (by assumption) ?_
            rotate_left
            focus (intro wq hSq; (try dsimp only at hSq); go_simp; try with_reducible rfl)
            try simp only [Act.put, List.setIfInBounds_toArray, List.set_cons_zero, List.set_cons_succ]
            refine wpAnyH_take (i := 2) (oi := ⟨some 60, _, _, _, _, _⟩) (v := ?_) rfl (by kernel_rfl) (by kernel_rfl) (by kernel_rfl) (fun _ _ _ h => h) (Or.inl ⟨by rfl, ?_⟩) (by assumption) ?_
            rotate_left
            focus (intro wq hSq; (try dsimp only at hSq); go_simp; try with_reducible rfl)
            try simp only [Act.put, List.setIfInBounds_toArray, List.set_cons_zero, List.set_cons_succ]
            refine wpAnyH_take (i := 3) (oi := ⟨some 61, _, _, _, _, _⟩) (v := ?_) rfl (by kernel_rfl) (by kernel_rfl) (by kernel_rfl) (fun _ _ _ h => h) (Or.inl ⟨by rfl, ?_⟩) (by assumption) ?_
            rotate_left
            focus (intro wq hSq; (try dsimp only at hSq); go_simp; try with_reducible rfl)
            try simp only [Act.put, List.setIfInBounds_toArray, List.set_cons_zero, List.set_cons_succ]
            refine wpAnyH_take (i := 4) (oi := ⟨some 62, _, _, _, _, _⟩) (v := ?_) rfl (by kernel_rfl) (by kernel_rfl) (by kernel_rfl) (fun _ _ _ h => h) (Or.inl ⟨by rfl, ?_⟩) (by assumption) ?_
            rotate_left
            focus (intro wq hSq; (try dsimp only at hSq); go_simp; try with_reducible rfl)
            try simp only [Act.put, List.setIfInBounds_toArray, List.set_cons_zero, List.set_cons_succ]
            refine wpAnyH_ready (rs := [5, 10]) (by kernel_rfl) (by simp) ?_
            refine AllReadyH.cons (o := ⟨some 63, _, _, _, _, _⟩) rfl (fun K hK => ?_) (AllReadyH.cons (o := ⟨some 12, _, _, _, _, _⟩) rfl (fun K hK => ?_) AllReadyH.nil)
            · go_simp
              refine (hdoes wr.drew ((Below.refl _ _).drew)).mono ?_
              rintro e v4 ⟨uS, uC, uK, uF, g4, rfl, hO4, hb4⟩
              obtain ⟨xS4, yS4, xC4, yC4, xK4, yK4, xF4, yF4, rfl, rfl, rfl, rfl⟩ := own_shapes hO4
              have hx4 : Below wr.heap.size wr v4 := ((Below.refl _ _).drew).trans hb4
              have HS4 := Lib.hid (hkeep v4 hx4)
              have HS5 := Lib.hid (hkeep _ (hx4.trans ((below_alloc v4 (.cells #[.slice none 0 0, .slice none 0 0, .slice none 0 0, .int .i64 0, .slice none 0 0] 29)).mono hx4.size)))
              have HS6 := Lib.hid (hkeep _ (hx4.trans ((below_alloc v4 (.cells #[.slice xS4 DN.S.length yS4, .slice xC4 DN.C.length yC4, .slice xK4 DN.K.length yK4, .int .i64 DN.n, .slice xF4 DN.F.length yF4] 29)).mono hx4.size)))
              clear hdoes hb4
              go_wp2_with fail
              refine hK.out _ _ ?_ (fun hHeld => ?_)
              focus (exact HS4.out)
              clear hK K
              try simp only [Act.put, List.setIfInBounds_toArray, List.set_cons_zero, List.set_cons_succ]
              refine wpAnyH_take (i := 6) (oi := ⟨some 57, _, _, _, _, _⟩) (v := ?_) rfl (by kernel_rfl) (by kernel_rfl) (by kernel_rfl) (fun _ _ _ h => h) (Or.inl ⟨by rfl, ?_⟩) (by assumption) ?_
              rotate_left
              focus (intro wq hSq; (try dsimp only at hSq); go_simp; try with_reducible rfl)
              try simp only [Act.put, List.setIfInBounds_toArray, List.set_cons_zero, List.set_cons_succ]
              refine wpAnyH_take (i := 7) (oi := ⟨some 64, _, _, _, _, _⟩) (v := ?_) rfl (by kernel_rfl) (by kernel_rfl) (by kernel_rfl) (fun _ _ _ h => h) (Or.inl ⟨by rfl, ?_⟩) (by assumption) ?_
              rotate_left
              focus (intro wq hSq; (try dsimp only at hSq); go_simp; try with_reducible rfl)
              try simp only [Act.put, List.setIfInBounds_toArray, List.set_cons_zero, List.set_cons_succ]
              refine wpAnyH_take (i := 8) (oi := ⟨some 65, _, _, _, _, _⟩) (v := ?_) rfl (by kernel_rfl) (by kernel_rfl) (by kernel_rfl) (fun _ _ _ h => h) (Or.inl ⟨by rfl, ?_⟩) (by assumption) ?_
              rotate_left
              focus (intro wq hSq; (try dsimp only at hSq); go_simp; try with_reducible rfl)
              try simp only [Act.put, List.setIfInBounds_toArray, List.set_cons_zero, List.set_cons_succ]
              refine wpAnyH_take (i := 9) (oi := ⟨some 66, _, _, _, _, _⟩) (v := ?_) rfl (by kernel_rfl) (by kernel_rfl) (by kernel_rfl) (fun _ _ _ h => h) (Or.inl ⟨by rfl, ?_⟩) (by assumption) ?_
              rotate_left
              focus (intro wq hSq; (try dsimp only at hSq); go_simp; try with_reducible rfl)
              try simp only [Act.put, List.setIfInBounds_toArray, List.set_cons_zero, List.set_cons_succ]
              refine wpAnyH_ready (rs := [10]) (by kernel_rfl) (by simp) ?_
              refine AllReadyH.cons (o := ⟨some 12, _, _, _, _, _⟩) rfl (fun K hK => ?_) AllReadyH.nil
              go_simp
              refine hK.out _ _ ?_ (fun hHeld => ?_)
              focus (exact HS5.out)
              clear hK K
              try simp only [Act.put, List.setIfInBounds_toArray, List.set_cons_zero, List.set_cons_succ]
              refine wpAnyH_ready (rs := [11]) (by kernel_rfl) (by simp) ?_
              refine AllReadyH.cons (o := ⟨none, _, _, _, _, _⟩) rfl (fun K hK => ?_) AllReadyH.nil
              go_simp
              refine hK.out _ _ ?_ (fun hHeld => ?_)
              focus (exact HS6.out)
              clear hK K
              try simp only [Act.put, List.setIfInBounds_toArray, List.set_cons_zero, List.set_cons_succ]
              refine wpAnyH_take (i := 12) (oi := ⟨some 13, _, _, _, _, _⟩) (v := ?_) rfl (by kernel_rfl) (by kernel_rfl) (by kernel_rfl) (fun _ _ _ h => h) (Or.inl ⟨by rfl, ?_⟩) (by assumption) ?_
              rotate_left
              focus (intro wq hSq; (try dsimp only at hSq); go_simp; try with_reducible rfl)
              try simp only [Act.put, List.setIfInBounds_toArray, List.set_cons_zero, List.set_cons_succ]
              refine wpAnyH_take (i := 13) (oi := ⟨some 14, _, _, _, _, _⟩) (v := ?_) rfl (by kernel_rfl) (by kernel_rfl) (by kernel_rfl) (fun _ _ _ h => h) (Or.inl ⟨by rfl, ?_⟩) (by assumption) ?_
              rotate_left
              focus (intro wq hSq; (try dsimp only at hSq); go_simp; try with_reducible rfl)
              try simp only [Act.put, List.setIfInBounds_toArray, List.set_cons_zero, List.set_cons_succ]
              refine wpAnyH_done (by kernel_rfl) ?_ _
              obtain ⟨y1, hy1⟩ : ∃ W, W = v4.alloc (.cells #[.slice xS4 DN.S.length yS4, .slice xC4 DN.C.length yC4, .slice xK4 DN.K.length yK4, .int .i64 DN.n, .slice xF4 DN.F.length yF4] 29) := ⟨_, rfl⟩
              have hq1 : Below v4.heap.size v4 y1 := hy1 ▸ below_alloc v4 _
              have hvX : VarAt y1 w.heap.size v4.heap.size DN := hy1 ▸ var_new hO4
              have hxy := hx4.trans (hq1.mono hx4.size)
              have hvA1 := hvA.up hxy
              have hvB1 := hvB.up hxy
              have hbr1 := hbr.trans (hxy.mono hbr.size)
              have hnx : qa ≠ v4.heap.size ∧ qb ≠ v4.heap.size := by have := hvA.lt; have := hvB.lt; have := hx4.size; exact ⟨by omega, by omega⟩
              rw [← hy1]
              obtain ⟨qx, hqx⟩ : ∃ q, Hid (v4.heap.size = q) := ⟨_, rfl⟩
              rw [hqx.out] at hvX hnx
              rw [hqx.out]
              clear hy1 HS4 HS5 HS6 hO4 hq1 hx4 hx3 zb hv3' HZ0
              clear k0 k1 k2 k3 k4 e0 e1 e2 e3 e4 e5 e6 hkeep hOA kA hvA hvB
              obtain ⟨vS', vC', vK', vF', gB, hOB, kB⟩ := id hvB1
              obtain ⟨rS, pS, rC, pC, rK, pK, rF, pF, rfl, rfl, rfl, rfl⟩ := own_shapes hOB
              obtain ⟨k0, k1, k2, k3, k4⟩ := five_cells kB
              obtain ⟨e0, e1, e2, e3, e4, e5, e6⟩ := deed_cells hdk hbr1
              have hkeep2 : ∀ wx : World, Below y1.heap.size y1 wx → (wx.cell? ⟨qb, 0, none⟩ = some (.slice rS Dk.S.length pS) ∧ wx.cell? ⟨qb, 1, none⟩ = some (.slice rC Dk.C.length pC) ∧ wx.cell? ⟨qb, 2, none⟩ = some (.slice rK Dk.K.length pK) ∧ wx.cell? ⟨qb, 3, none⟩ = some (.int .i64 Dk.n) ∧ wx.cell? ⟨qb, 4, none⟩ = some (.slice rF Dk.F.length pF) ∧ wx.cell? (p.add (k * 7)) = some (.int .i64 (X k).dk) ∧ wx.cell? ⟨(p.add (k * 7)).block, (p.add (k * 7)).off + 1, none⟩ = some (.int .i64 (X k).node) ∧ wx.cell? ⟨(p.add (k * 7)).block, (p.add (k * 7)).off + 2, none⟩ = some (.int .i8 (X k).a.k) ∧ wx.cell? ⟨(p.add (k * 7)).block, (p.add (k * 7)).off + 3, none⟩ = some (.int .i64 (X k).a.s) ∧ wx.cell? ⟨(p.add (k * 7)).block, (p.add (k * 7)).off + 4, none⟩ = some (.string (X k).a.b) ∧ wx.cell? ⟨(p.add (k * 7)).block, (p.add (k * 7)).off + 5, none⟩ = some (.int .i64 (X k).a.key) ∧ wx.cell? ⟨(p.add (k * 7)).block, (p.add (k * 7)).off + 6, none⟩ = some (.int .u64 ((X k).kept : Int))) := fun wx hx => by
                obtain ⟨j0, j1, j2, j3, j4⟩ := five_cells (kB.below hx kB.lt)
                obtain ⟨f0, f1, f2, f3, f4, f5, f6⟩ := deed_cells hdk (hbr1.trans (hx.mono hbr1.size))
                exact ⟨j0, j1, j2, j3, j4, f0, f1, f2, f3, f4, f5, f6⟩
              have hhis := fun (wx : World) (hx : Below y1.heap.size y1 wx) => his_any w.heap.size _ _ _ _ gB Dk (X k).dk (X k).node (X k).a (X k).kept wx (hOB.up hx) (Nat.le_trans hbr1.size hx.size) hmd hsm hbd.a hbd.b hbd.kept
              rw [show deedD Dk ⟨(X k).dk, (X k).node, (X k).a, (X k).kept⟩ = DN from hDN.out, show deedS Dk ⟨(X k).dk, (X k).node, (X k).a, (X k).kept⟩ = SN from hSN.out, show deedE Dk ⟨(X k).dk, (X k).node, (X k).a, (X k).kept⟩ = EN from hEN.out] at hhis
              obtain ⟨v5', hv5'⟩ : ∃ W, W = (y1.alloc (.cells #[.slice none 0 0, .slice none 0 0, .slice none 0 0, .int .i64 0, .slice none 0 0] 29)).drew := ⟨_, rfl⟩
              have hx3 : Below y1.heap.size y1 v5' := by rw [hv5']; exact (below_alloc y1 _).drew
              have zb : Blk v5' y1.heap.size #[.slice none 0 0, .slice none 0 0, .slice none 0 0, .int .i64 0, .slice none 0 0] 29 := by rw [hv5']; exact (Blk.new y1 _ _).drew
              have HZ0 : Hid (((y1.alloc (.cells #[.slice none 0 0, .slice none 0 0, .slice none 0 0, .int .i64 0, .slice none 0 0] 29)).drew).cell? ⟨qb, 0, none⟩ = some (.slice rS Dk.S.length pS) ∧ ((y1.alloc (.cells #[.slice none 0 0, .slice none 0 0, .slice none 0 0, .int .i64 0, .slice none 0 0] 29)).drew).cell? ⟨qb, 1, none⟩ = some (.slice rC Dk.C.length pC) ∧ ((y1.alloc (.cells #[.slice none 0 0, .slice none 0 0, .slice none 0 0, .int .i64 0, .slice none 0 0] 29)).drew).cell? ⟨qb, 2, none⟩ = some (.slice rK Dk.K.length pK) ∧ ((y1.alloc (.cells #[.slice none 0 0, .slice none 0 0, .slice none 0 0, .int .i64 0, .slice none 0 0] 29)).drew).cell? ⟨qb, 3, none⟩ = some (.int .i64 Dk.n) ∧ ((y1.alloc (.cells #[.slice none 0 0, .slice none 0 0, .slice none 0 0, .int .i64 0, .slice none 0 0] 29)).drew).cell? ⟨qb, 4, none⟩ = some (.slice rF Dk.F.length pF) ∧ ((y1.alloc (.cells #[.slice none 0 0, .slice none 0 0, .slice none 0 0, .int .i64 0, .slice none 0 0] 29)).drew).cell? (p.add (k * 7)) = some (.int .i64 (X k).dk) ∧ ((y1.alloc (.cells #[.slice none 0 0, .slice none 0 0, .slice none 0 0, .int .i64 0, .slice none 0 0] 29)).drew).cell? ⟨(p.add (k * 7)).block, (p.add (k * 7)).off + 1, none⟩ = some (.int .i64 (X k).node) ∧ ((y1.alloc (.cells #[.slice none 0 0, .slice none 0 0, .slice none 0 0, .int .i64 0, .slice none 0 0] 29)).drew).cell? ⟨(p.add (k * 7)).block, (p.add (k * 7)).off + 2, none⟩ = some (.int .i8 (X k).a.k) ∧ ((y1.alloc (.cells #[.slice none 0 0, .slice none 0 0, .slice none 0 0, .int .i64 0, .slice none 0 0] 29)).drew).cell? ⟨(p.add (k * 7)).block, (p.add (k * 7)).off + 3, none⟩ = some (.int .i64 (X k).a.s) ∧ ((y1.alloc (.cells #[.slice none 0 0, .slice none 0 0, .slice none 0 0, .int .i64 0, .slice none 0 0] 29)).drew).cell? ⟨(p.add (k * 7)).block, (p.add (k * 7)).off + 4, none⟩ = some (.string (X k).a.b) ∧ ((y1.alloc (.cells #[.slice none 0 0, .slice none 0 0, .slice none 0 0, .int .i64 0, .slice none 0 0] 29)).drew).cell? ⟨(p.add (k * 7)).block, (p.add (k * 7)).off + 5, none⟩ = some (.int .i64 (X k).a.key) ∧ ((y1.alloc (.cells #[.slice none 0 0, .slice none 0 0, .slice none 0 0, .int .i64 0, .slice none 0 0] 29)).drew).cell? ⟨(p.add (k * 7)).block, (p.add (k * 7)).off + 6, none⟩ = some (.int .u64 ((X k).kept : Int))) := hkeep2 _ ((below_alloc y1 _).drew)
              go_wp2_with fail
              refine wp_region_held_drew (S := (fun w' => w'.cell? ⟨qb, 0, none⟩ = some (.slice rS Dk.S.length pS) ∧ w'.cell? ⟨qb, 1, none⟩ = some (.slice rC Dk.C.length pC) ∧ w'.cell? ⟨qb, 2, none⟩ = some (.slice rK Dk.K.length pK) ∧ w'.cell? ⟨qb, 3, none⟩ = some (.int .i64 Dk.n) ∧ w'.cell? ⟨qb, 4, none⟩ = some (.slice rF Dk.F.length pF) ∧ w'.cell? (p.add (k * 7)) = some (.int .i64 (X k).dk) ∧ w'.cell? ⟨(p.add (k * 7)).block, (p.add (k * 7)).off + 1, none⟩ = some (.int .i64 (X k).node) ∧ w'.cell? ⟨(p.add (k * 7)).block, (p.add (k * 7)).off + 2, none⟩ = some (.int .i8 (X k).a.k) ∧ w'.cell? ⟨(p.add (k * 7)).block, (p.add (k * 7)).off + 3, none⟩ = some (.int .i64 (X k).a.s) ∧ w'.cell? ⟨(p.add (k * 7)).block, (p.add (k * 7)).off + 4, none⟩ = some (.string (X k).a.b) ∧ w'.cell? ⟨(p.add (k * 7)).block, (p.add (k * 7)).off + 5, none⟩ = some (.int .i64 (X k).a.key) ∧ w'.cell? ⟨(p.add (k * 7)).block, (p.add (k * 7)).off + 6, none⟩ = some (.int .u64 ((X k).kept : Int)))) (by kernel_rfl) ?_ (fun hHeld => ?_)
              focus (exact ⟨k0, k1, k2, k3, k4, e0, e1, e2, e3, e4, e5, e6⟩)
              refine wpAnyH_take (i := 0) (oi := ⟨some 68, _, _, _, _, _⟩) (v := ?_) rfl (by kernel_rfl) (by kernel_rfl) (by kernel_rfl) (fun _ _ _ h => h) (Or.inl ⟨by rfl, ?_⟩) (by assumption) ?_
              rotate_left
              focus (intro wq hSq; (try dsimp only at hSq); go_simp; try with_reducible rfl)
              try simp only [Act.put, List.setIfInBounds_toArray, List.set_cons_zero, List.set_cons_succ]
              refine wpAnyH_take (i := 1) (oi := ⟨some 69, _, _, _, _, _⟩) (v := ?_) rfl (by kernel_rfl) (by kernel_rfl) (by kernel_rfl) (fun _ _ _ h => h) (Or.inl ⟨by rfl, ?_⟩) (by assumption) ?_
              rotate_left
              focus (intro wq hSq; (try dsimp only at hSq); go_simp; try with_reducible rfl)
              try simp only [Act.put, List.setIfInBounds_toArray, List.set_cons_zero, List.set_cons_succ]
              refine wpAnyH_take (i := 2) (oi := ⟨some 70, _, _, _, _, _⟩) (v := ?_) rfl (by kernel_rfl) (by kernel_rfl) (by kernel_rfl) (fun _ _ _ h => h) (Or.inl ⟨by rfl, ?_⟩) (by assumption) ?_
              rotate_left
              focus (intro wq hSq; (try dsimp only at hSq); go_simp; try with_reducible rfl)
              try simp only [Act.put, List.setIfInBounds_toArray, List.set_cons_zero, List.set_cons_succ]
              refine wpAnyH_take (i := 3) (oi := ⟨some 71, _, _, _, _, _⟩) (v := ?_) rfl (by kernel_rfl) (by kernel_rfl) (by kernel_rfl) (fun _ _ _ h => h) (Or.inl ⟨by rfl, ?_⟩) (by assumption) ?_
              rotate_left
              focus (intro wq hSq; (try dsimp only at hSq); go_simp; try with_reducible rfl)
              try simp only [Act.put, List.setIfInBounds_toArray, List.set_cons_zero, List.set_cons_succ]
              refine wpAnyH_take (i := 4) (oi := ⟨some 72, _, _, _, _, _⟩) (v := ?_) rfl (by kernel_rfl) (by kernel_rfl) (by kernel_rfl) (fun _ _ _ h => h) (Or.inl ⟨by rfl, ?_⟩) (by assumption) ?_
              rotate_left
              focus (intro wq hSq; (try dsimp only at hSq); go_simp; try with_reducible rfl)
              try simp only [Act.put, List.setIfInBounds_toArray, List.set_cons_zero, List.set_cons_succ]
              refine wpAnyH_ready (rs := [5, 10]) (by kernel_rfl) (by simp) ?_
              refine AllReadyH.cons (o := ⟨some 73, _, _, _, _, _⟩) rfl (fun K hK => ?_) (AllReadyH.cons (o := ⟨some 15, _, _, _, _, _⟩) rfl (fun K hK => ?_) AllReadyH.nil)
              · go_simp
                refine (hhis y1.drew ((Below.refl _ _).drew)).mono ?_
                rintro e v5 ⟨uS5, uC5, uK5, uF5, g5, rfl, hO5, hb5⟩
                obtain ⟨xS5, yS5, xC5, yC5, xK5, yK5, xF5, yF5, rfl, rfl, rfl, rfl⟩ := own_shapes hO5
                have hx4 : Below y1.heap.size y1 v5 := ((Below.refl _ _).drew).trans hb5
                have HS4 := Lib.hid (hkeep2 v5 hx4)
                have HS5 := Lib.hid (hkeep2 _ (hx4.trans ((below_alloc v5 (.cells #[.slice none 0 0, .slice none 0 0, .slice none 0 0, .int .i64 0, .slice none 0 0] 29)).mono hx4.size)))
                have HS6 := Lib.hid (hkeep2 _ (hx4.trans ((below_alloc v5 (.cells #[.slice xS5 DN.S.length yS5, .slice xC5 DN.C.length yC5, .slice xK5 DN.K.length yK5, .int .i64 DN.n, .slice xF5 DN.F.length yF5] 29)).mono hx4.size)))
                clear hhis hb5
                go_wp2_with fail
                refine hK.out _ _ ?_ (fun hHeld => ?_)
                focus (exact HS4.out)
                clear hK K
                try simp only [Act.put, List.setIfInBounds_toArray, List.set_cons_zero, List.set_cons_succ]
                refine wpAnyH_take (i := 6) (oi := ⟨some 67, _, _, _, _, _⟩) (v := ?_) rfl (by kernel_rfl) (by kernel_rfl) (by kernel_rfl) (fun _ _ _ h => h) (Or.inl ⟨by rfl, ?_⟩) (by assumption) ?_
                rotate_left
                focus (intro wq hSq; (try dsimp only at hSq); go_simp; try with_reducible rfl)
                try simp only [Act.put, List.setIfInBounds_toArray, List.set_cons_zero, List.set_cons_succ]
                refine wpAnyH_take (i := 7) (oi := ⟨some 74, _, _, _, _, _⟩) (v := ?_) rfl (by kernel_rfl) (by kernel_rfl) (by kernel_rfl) (fun _ _ _ h => h) (Or.inl ⟨by rfl, ?_⟩) (by assumption) ?_
                rotate_left
                focus (intro wq hSq; (try dsimp only at hSq); go_simp; try with_reducible rfl)
                try simp only [Act.put, List.setIfInBounds_toArray, List.set_cons_zero, List.set_cons_succ]
                refine wpAnyH_take (i := 8) (oi := ⟨some 75, _, _, _, _, _⟩) (v := ?_) rfl (by kernel_rfl) (by kernel_rfl) (by kernel_rfl) (fun _ _ _ h => h) (Or.inl ⟨by rfl, ?_⟩) (by assumption) ?_
                rotate_left
                focus (intro wq hSq; (try dsimp only at hSq); go_simp; try with_reducible rfl)
                try simp only [Act.put, List.setIfInBounds_toArray, List.set_cons_zero, List.set_cons_succ]
                refine wpAnyH_take (i := 9) (oi := ⟨some 76, _, _, _, _, _⟩) (v := ?_) rfl (by kernel_rfl) (by kernel_rfl) (by kernel_rfl) (fun _ _ _ h => h) (Or.inl ⟨by rfl, ?_⟩) (by assumption) ?_
                rotate_left
                focus (intro wq hSq; (try dsimp only at hSq); go_simp; try with_reducible rfl)
                try simp only [Act.put, List.setIfInBounds_toArray, List.set_cons_zero, List.set_cons_succ]
                refine wpAnyH_ready (rs := [10]) (by kernel_rfl) (by simp) ?_
                refine AllReadyH.cons (o := ⟨some 15, _, _, _, _, _⟩) rfl (fun K hK => ?_) AllReadyH.nil
                go_simp
                refine hK.out _ _ ?_ (fun hHeld => ?_)
                focus (exact HS5.out)
                clear hK K
                try simp only [Act.put, List.setIfInBounds_toArray, List.set_cons_zero, List.set_cons_succ]
                refine wpAnyH_ready (rs := [11]) (by kernel_rfl) (by simp) ?_
                refine AllReadyH.cons (o := ⟨none, _, _, _, _, _⟩) rfl (fun K hK => ?_) AllReadyH.nil
                go_simp
                refine hK.out _ _ ?_ (fun hHeld => ?_)
                focus (exact HS6.out)
                clear hK K
                try simp only [Act.put, List.setIfInBounds_toArray, List.set_cons_zero, List.set_cons_succ]
                refine wpAnyH_take (i := 12) (oi := ⟨some 16, _, _, _, _, _⟩) (v := ?_) rfl (by kernel_rfl) (by kernel_rfl) (by kernel_rfl) (fun _ _ _ h => h) (Or.inl ⟨by rfl, ?_⟩) (by assumption) ?_
                rotate_left
                focus (intro wq hSq; (try dsimp only at hSq); go_simp; try with_reducible rfl)
                try simp only [Act.put, List.setIfInBounds_toArray, List.set_cons_zero, List.set_cons_succ]
                refine wpAnyH_take (i := 13) (oi := ⟨some 17, _, _, _, _, _⟩) (v := ?_) rfl (by kernel_rfl) (by kernel_rfl) (by kernel_rfl) (fun _ _ _ h => h) (Or.inl ⟨by rfl, ?_⟩) (by assumption) ?_
                rotate_left
                focus (intro wq hSq; (try dsimp only at hSq); go_simp; try with_reducible rfl)
                try simp only [Act.put, List.setIfInBounds_toArray, List.set_cons_zero, List.set_cons_succ]
                refine wpAnyH_done (by kernel_rfl) ?_ _
                obtain ⟨y2, hy2⟩ : ∃ W, W = v5.alloc (.cells #[.slice xS5 DN.S.length yS5, .slice xC5 DN.C.length yC5, .slice xK5 DN.K.length yK5, .int .i64 DN.n, .slice xF5 DN.F.length yF5] 29) := ⟨_, rfl⟩
                have hq1 : Below v5.heap.size v5 y2 := hy2 ▸ below_alloc v5 _
                have hvY : VarAt y2 w.heap.size v5.heap.size DN := hy2 ▸ var_new hO5
                have hxy := hx4.trans (hq1.mono hx4.size)
                have hvA2 := hvA1.up hxy
                have hvB2 := hvB1.up hxy
                have hvX2 := hvX.up hxy
                have hbr2 := hbr1.trans (hxy.mono hbr1.size)
                have hny : qa ≠ v5.heap.size ∧ qb ≠ v5.heap.size := by have := hvA1.lt; have := hvB1.lt; have := hx4.size; exact ⟨by omega, by omega⟩
                rw [← hy2]
                obtain ⟨qy, hqy⟩ : ∃ q, Hid (v5.heap.size = q) := ⟨_, rfl⟩
                rw [hqy.out] at hvY hny
                rw [hqy.out]
                clear hy2 HS4 HS5 HS6 hO5 hq1 hx4 hx3 zb hv5' HZ0 hvA1 hvB1 hvX
                clear hkeep2 hOB kB k0 k1 k2 k3 k4 e0 e1 e2 e3 e4 e5 e6
                obtain ⟨xA, xB, xC', xD, gX, hOX, kX⟩ := id hvX2
                obtain ⟨aS, bS, aC, bC, aK, bK, aF, bF, rfl, rfl, rfl, rfl⟩ := own_shapes hOX
                obtain ⟨k0, k1, k2, k3, k4⟩ := five_cells kX
                obtain ⟨yA, yB, yC', yD, gY, hOY, kY⟩ := id hvY
                obtain ⟨cS, dS, cC, dC, cK, dK, cF, dF, rfl, rfl, rfl, rfl⟩ := own_shapes hOY
                obtain ⟨m0, m1, m2, m3, m4⟩ := five_cells kY
                have hmn : MayD DN := by rw [← hDN.out]; exact may_deed hmd _
                have hsn : Small DN 1099511627776 := by rw [← hDN.out]; exact deed_small hmd hsd
                have hss : (SN.toList == SN.toList) = true := by simp
                have hsame := refSame_yes _ _ DN y2 hOX.dev hOY.dev hsn.k hsn.f
                go_wp2_with fail
                refine hsame.mono ?_
                rintro e y3 ⟨rfl, hb3⟩
                have kX3 := kX.below hb3 kX.lt
                have kY3 := kY.below hb3 kY.lt
                have hOX3 := hOX.up hb3
                have hOY3 := hOY.up hb3
                have hvA3 := hvA2.up hb3
                have hvB3 := hvB2.up hb3
                have hbr3 := hbr2.trans (hb3.mono hbr2.size)
                have hchk := devCheck_any _ DN true y3 hOX3.dev hsn.s ((sMay_iff _).2 ⟨hmn.s1, hmn.ss⟩) (fun _ => hmn)
                rw [if_pos rfl] at hchk
                clear hsame k0 k1 k2 k3 k4 m0 m1 m2 m3 m4 kX kY hOX hOY hvA2 hvB2 hvX2 hvY hbr2 hb3
                obtain ⟨k0, k1, k2, k3, k4⟩ := five_cells kX3
                obtain ⟨m0, m1, m2, m3, m4⟩ := five_cells kY3
                go_wp2_with fail
                refine hchk.mono ?_
                rintro e y4 ⟨rfl, hb4⟩
                have kX4 := kX3.below hb4 kX3.lt
                have kY4 := kY3.below hb4 kY3.lt
                have hOX4 := hOX3.up hb4
                have hOY4 := hOY3.up hb4
                have hvA4 := hvA3.up hb4
                have hvB4 := hvB3.up hb4
                have hbr4 := hbr3.trans (hb4.mono hbr3.size)
                clear hchk k0 k1 k2 k3 k4 m0 m1 m2 m3 m4 kX3 kY3 hOX3 hOY3 hvA3 hvB3 hbr3 hb4
                obtain ⟨k0, k1, k2, k3, k4⟩ := five_cells kX4
                obtain ⟨m0, m1, m2, m3, m4⟩ := five_cells kY4
                obtain ⟨_, _, _, _, _, _, kA4⟩ := hvA4
                obtain ⟨_, _, _, _, _, _, kB4⟩ := hvB4
                have hab : qb ≠ qa := fun e => hne e.symm
                have hxa : qx ≠ qa := fun e => hnx.1 e.symm
                have hxb : qx ≠ qb := fun e => hnx.2 e.symm
                have hya : qy ≠ qa := fun e => hny.1 e.symm
                have hyb : qy ≠ qb := fun e => hny.2 e.symm
                obtain ⟨hax, hbx⟩ := hnx
                obtain ⟨hay, hby⟩ := hny
                have kB5 := into5_blk kB4 hab (.slice aS DN.S.length bS) (.slice aC DN.C.length bC) (.slice aK DN.K.length bK) (DN.n) (.slice aF DN.F.length bF)
                have hvAf := (VarAt.put kA4 rfl hOX4).into kB5 hne (.slice cS DN.S.length dS) (.slice cC DN.C.length dC) (.slice cK DN.K.length dK) (DN.n) (.slice cF DN.F.length dF)
                have hvBf := VarAt.put kB5 rfl (into5_other hOY4 kA4 (by decide) (by decide) (by decide) (by decide) (.slice aS DN.S.length bS) (.slice aC DN.C.length bC) (.slice aK DN.K.length bK) (DN.n) (.slice aF DN.F.length bF))
                have hbf := into5_below (into5_below hbr4 HQA.out.1 (.slice aS DN.S.length bS) (.slice aC DN.C.length bC) (.slice aK DN.K.length bK) (DN.n) (.slice aF DN.F.length bF)) HQA.out.2 (.slice cS DN.S.length dS) (.slice cC DN.C.length dC) (.slice cK DN.K.length dK) (DN.n) (.slice cF DN.F.length dF)
                have HF := Lib.hid (And.intro hvAf (And.intro hvBf hbf))
                have HM2 : Hid ((0 : Int) = 0 → MayD DN ∧ DN.S.length ≤ 1099511627776) := fun _ => ⟨hmn, hsn.s⟩
                have HK1 := Lib.hid (show k + 1 ≤ n2 by omega)
                obtain ⟨za0, za1, za2, za3, za4⟩ := five_cells kA4
                obtain ⟨zb0, zb1, zb2, zb3, zb4⟩ := five_cells kB4
                obtain ⟨fa0, fa1, fa2, fa3, fa4⟩ := five_free kA4
                obtain ⟨fb0, fb1, fb2, fb3, fb4⟩ := five_free kB4
                unfold into5 at HF
                clear hvAf hvBf hbf kA4 kB4 kB5 kX4 kY4 hOX4 hOY4 hbr4
                go_wp2_with fail
                go_region_held3 (fun w' => w'.cell? ⟨qx, 0, none⟩ = some (.slice aS DN.S.length bS) ∧ w'.cell? ⟨qx, 1, none⟩ = some (.slice aC DN.C.length bC) ∧ w'.cell? ⟨qx, 2, none⟩ = some (.slice aK DN.K.length bK) ∧ w'.cell? ⟨qx, 3, none⟩ = some (.int .i64 DN.n) ∧ w'.cell? ⟨qx, 4, none⟩ = some (.slice aF DN.F.length bF) ∧ w'.cell? ⟨qy, 0, none⟩ = some (.slice cS DN.S.length dS) ∧ w'.cell? ⟨qy, 1, none⟩ = some (.slice cC DN.C.length dC) ∧ w'.cell? ⟨qy, 2, none⟩ = some (.slice cK DN.K.length dK) ∧ w'.cell? ⟨qy, 3, none⟩ = some (.int .i64 DN.n) ∧ w'.cell? ⟨qy, 4, none⟩ = some (.slice cF DN.F.length dF)) (go_keep) (fail)
                go_wp2_with fail
                go_roundw
                case rel => exact ⟨k + 1, DN, HK1.out, by go_num, HF.out.1.drew, HF.out.2.1.drew, HF.out.2.2.drew, HM2⟩
                case measure => have := HK1.out; simp [intOf]; omega
              · go_simp
                refine hK.out _ _ ?_ (fun hHeld => ?_)
                focus (exact HZ0.out)
                clear hK K
                try simp only [Act.put, List.setIfInBounds_toArray, List.set_cons_zero, List.set_cons_succ]
                rw [← hv5']
                clear hv5' HZ0
                refine wpAnyH_ready (rs := [5]) (by kernel_rfl) (by simp) ?_
                refine AllReadyH.cons (o := ⟨some 73, _, _, _, _, _⟩) rfl (fun K hK => ?_) AllReadyH.nil
                go_simp
                refine (hhis v5' hx3).mono ?_
                rintro e v5 ⟨uS5, uC5, uK5, uF5, g5, rfl, hO5, hb5⟩
                obtain ⟨xS5, yS5, xC5, yC5, xK5, yK5, xF5, yF5, rfl, rfl, rfl, rfl⟩ := own_shapes hO5
                have hx4 : Below y1.heap.size y1 v5 := hx3.trans (hb5.mono hx3.size)
                have HS4 := Lib.hid (hkeep2 v5 hx4)
                have z4 := zb.below hb5 zb.lt
                have hvY := VarAt.put z4 rfl hO5
                have hne4 : qa ≠ y1.heap.size := by have := hvA1.lt; omega
                have hne5 : qb ≠ y1.heap.size := by have := hvB1.lt; omega
                have hne6 : qx ≠ y1.heap.size := by have := hvX.lt; omega
                have hvA2 := (hvA1.up hx4).into z4 hne4 (.slice xS5 DN.S.length yS5) (.slice xC5 DN.C.length yC5) (.slice xK5 DN.K.length yK5) DN.n (.slice xF5 DN.F.length yF5)
                have hvB2 := (hvB1.up hx4).into z4 hne5 (.slice xS5 DN.S.length yS5) (.slice xC5 DN.C.length yC5) (.slice xK5 DN.K.length yK5) DN.n (.slice xF5 DN.F.length yF5)
                have hvX2 := (hvX.up hx4).into z4 hne6 (.slice xS5 DN.S.length yS5) (.slice xC5 DN.C.length yC5) (.slice xK5 DN.K.length yK5) DN.n (.slice xF5 DN.F.length yF5)
                obtain ⟨zc0, zc1, zc2, zc3, zc4⟩ := five_cells z4
                obtain ⟨zf0, zf1, zf2, zf3, zf4⟩ := five_free z4
                have hx5 := into5_below hx4 (Nat.le_refl _) (.slice xS5 DN.S.length yS5) (.slice xC5 DN.C.length yC5) (.slice xK5 DN.K.length yK5) DN.n (.slice xF5 DN.F.length yF5)
                have HS6 := Lib.hid (hkeep2 _ hx5)
                unfold into5 at HS6
                have hbr2 := hbr1.trans (hx5.mono hbr1.size)
                clear hhis hb5
                go_wp2_with fail
                refine hK.out _ _ ?_ (fun hHeld => ?_)
                focus (exact HS4.out)
                clear hK K
                try simp only [Act.put, List.setIfInBounds_toArray, List.set_cons_zero, List.set_cons_succ]
                refine wpAnyH_take (i := 6) (oi := ⟨some 67, _, _, _, _, _⟩) (v := ?_) rfl (by kernel_rfl) (by kernel_rfl) (by kernel_rfl) (fun _ _ _ h => h) (Or.inl ⟨by rfl, ?_⟩) (by assumption) ?_
                rotate_left
                focus (intro wq hSq; (try dsimp only at hSq); go_simp; try with_reducible rfl)
                try simp only [Act.put, List.setIfInBounds_toArray, List.set_cons_zero, List.set_cons_succ]
                refine wpAnyH_take (i := 7) (oi := ⟨some 74, _, _, _, _, _⟩) (v := ?_) rfl (by kernel_rfl) (by kernel_rfl) (by kernel_rfl) (fun _ _ _ h => h) (Or.inl ⟨by rfl, ?_⟩) (by assumption) ?_
                rotate_left
                focus (intro wq hSq; (try dsimp only at hSq); go_simp; try with_reducible rfl)
                try simp only [Act.put, List.setIfInBounds_toArray, List.set_cons_zero, List.set_cons_succ]
                refine wpAnyH_take (i := 8) (oi := ⟨some 75, _, _, _, _, _⟩) (v := ?_) rfl (by kernel_rfl) (by kernel_rfl) (by kernel_rfl) (fun _ _ _ h => h) (Or.inl ⟨by rfl, ?_⟩) (by assumption) ?_
                rotate_left
                focus (intro wq hSq; (try dsimp only at hSq); go_simp; try with_reducible rfl)
                try simp only [Act.put, List.setIfInBounds_toArray, List.set_cons_zero, List.set_cons_succ]
                refine wpAnyH_take (i := 9) (oi := ⟨some 76, _, _, _, _, _⟩) (v := ?_) rfl (by kernel_rfl) (by kernel_rfl) (by kernel_rfl) (fun _ _ _ h => h) (Or.inl ⟨by rfl, ?_⟩) (by assumption) ?_
                rotate_left
                focus (intro wq hSq; (try dsimp only at hSq); go_simp; try with_reducible rfl)
                try simp only [Act.put, List.setIfInBounds_toArray, List.set_cons_zero, List.set_cons_succ]
                refine wpAnyH_ready (rs := [11]) (by kernel_rfl) (by simp) ?_
                refine AllReadyH.cons (o := ⟨none, _, _, _, _, _⟩) rfl (fun K hK => ?_) AllReadyH.nil
                go_simp
                refine hK.out _ _ ?_ (fun hHeld => ?_)
                focus (exact HS6.out)
                clear hK K
                try simp only [Act.put, List.setIfInBounds_toArray, List.set_cons_zero, List.set_cons_succ]
                refine wpAnyH_take (i := 12) (oi := ⟨some 16, _, _, _, _, _⟩) (v := ?_) rfl (by kernel_rfl) (by kernel_rfl) (by kernel_rfl) (fun _ _ _ h => h) (Or.inl ⟨by rfl, ?_⟩) (by assumption) ?_
                rotate_left
                focus (intro wq hSq; (try dsimp only at hSq); go_simp; try with_reducible rfl)
                try simp only [Act.put, List.setIfInBounds_toArray, List.set_cons_zero, List.set_cons_succ]
                refine wpAnyH_take (i := 13) (oi := ⟨some 17, _, _, _, _, _⟩) (v := ?_) rfl (by kernel_rfl) (by kernel_rfl) (by kernel_rfl) (fun _ _ _ h => h) (Or.inl ⟨by rfl, ?_⟩) (by assumption) ?_
                rotate_left
                focus (intro wq hSq; (try dsimp only at hSq); go_simp; try with_reducible rfl)
                try simp only [Act.put, List.setIfInBounds_toArray, List.set_cons_zero, List.set_cons_succ]
                refine wpAnyH_done (by kernel_rfl) ?_ _
                obtain ⟨y2, hy2⟩ : ∃ W, W = into5 v5 y1.heap.size (.slice xS5 DN.S.length yS5) (.slice xC5 DN.C.length yC5) (.slice xK5 DN.K.length yK5) DN.n (.slice xF5 DN.F.length yF5) := ⟨_, rfl⟩
                rw [← hy2] at hvY hvA2 hvB2 hvX2 hx5 hbr2
                unfold into5 at hy2
                rw [← hy2]
                have hny : qa ≠ y1.heap.size ∧ qb ≠ y1.heap.size := ⟨hne4, hne5⟩
                obtain ⟨qy, hqy⟩ : ∃ q, Hid (y1.heap.size = q) := ⟨_, rfl⟩
                rw [hqy.out] at hvY hny
                rw [hqy.out]
                clear hy2 HS4 HS6 hO5 hx4 hx3 zb z4 zc0 zc1 zc2 zc3 zc4 zf0 zf1 zf2 zf3 zf4 hx5 hne4 hne5 hne6 hvA1 hvB1 hvX
                clear hkeep2 hOB kB k0 k1 k2 k3 k4 e0 e1 e2 e3 e4 e5 e6
                obtain ⟨xA, xB, xC', xD, gX, hOX, kX⟩ := id hvX2
                obtain ⟨aS, bS, aC, bC, aK, bK, aF, bF, rfl, rfl, rfl, rfl⟩ := own_shapes hOX
                obtain ⟨k0, k1, k2, k3, k4⟩ := five_cells kX
                obtain ⟨yA, yB, yC', yD, gY, hOY, kY⟩ := id hvY
                obtain ⟨cS, dS, cC, dC, cK, dK, cF, dF, rfl, rfl, rfl, rfl⟩ := own_shapes hOY
                obtain ⟨m0, m1, m2, m3, m4⟩ := five_cells kY
                have hmn : MayD DN := by rw [← hDN.out]; exact may_deed hmd _
                have hsn : Small DN 1099511627776 := by rw [← hDN.out]; exact deed_small hmd hsd
                have hss : (SN.toList == SN.toList) = true := by simp
                have hsame := refSame_yes _ _ DN y2 hOX.dev hOY.dev hsn.k hsn.f
                go_wp2_with fail
                refine hsame.mono ?_
                rintro e y3 ⟨rfl, hb3⟩
                have kX3 := kX.below hb3 kX.lt
                have kY3 := kY.below hb3 kY.lt
                have hOX3 := hOX.up hb3
                have hOY3 := hOY.up hb3
                have hvA3 := hvA2.up hb3
                have hvB3 := hvB2.up hb3
                have hbr3 := hbr2.trans (hb3.mono hbr2.size)
                have hchk := devCheck_any _ DN true y3 hOX3.dev hsn.s ((sMay_iff _).2 ⟨hmn.s1, hmn.ss⟩) (fun _ => hmn)
                rw [if_pos rfl] at hchk
                clear hsame k0 k1 k2 k3 k4 m0 m1 m2 m3 m4 kX kY hOX hOY hvA2 hvB2 hvX2 hvY hbr2 hb3
                obtain ⟨k0, k1, k2, k3, k4⟩ := five_cells kX3
                obtain ⟨m0, m1, m2, m3, m4⟩ := five_cells kY3
                go_wp2_with fail
                refine hchk.mono ?_
                rintro e y4 ⟨rfl, hb4⟩
                have kX4 := kX3.below hb4 kX3.lt
                have kY4 := kY3.below hb4 kY3.lt
                have hOX4 := hOX3.up hb4
                have hOY4 := hOY3.up hb4
                have hvA4 := hvA3.up hb4
                have hvB4 := hvB3.up hb4
                have hbr4 := hbr3.trans (hb4.mono hbr3.size)
                clear hchk k0 k1 k2 k3 k4 m0 m1 m2 m3 m4 kX3 kY3 hOX3 hOY3 hvA3 hvB3 hbr3 hb4
                obtain ⟨k0, k1, k2, k3, k4⟩ := five_cells kX4
                obtain ⟨m0, m1, m2, m3, m4⟩ := five_cells kY4
                obtain ⟨_, _, _, _, _, _, kA4⟩ := hvA4
                obtain ⟨_, _, _, _, _, _, kB4⟩ := hvB4
                have hab : qb ≠ qa := fun e => hne e.symm
                have hxa : qx ≠ qa := fun e => hnx.1 e.symm
                have hxb : qx ≠ qb := fun e => hnx.2 e.symm
                have hya : qy ≠ qa := fun e => hny.1 e.symm
                have hyb : qy ≠ qb := fun e => hny.2 e.symm
                obtain ⟨hax, hbx⟩ := hnx
                obtain ⟨hay, hby⟩ := hny
                have kB5 := into5_blk kB4 hab (.slice aS DN.S.length bS) (.slice aC DN.C.length bC) (.slice aK DN.K.length bK) (DN.n) (.slice aF DN.F.length bF)
                have hvAf := (VarAt.put kA4 rfl hOX4).into kB5 hne (.slice cS DN.S.length dS) (.slice cC DN.C.length dC) (.slice cK DN.K.length dK) (DN.n) (.slice cF DN.F.length dF)
                have hvBf := VarAt.put kB5 rfl (into5_other hOY4 kA4 (by decide) (by decide) (by decide) (by decide) (.slice aS DN.S.length bS) (.slice aC DN.C.length bC) (.slice aK DN.K.length bK) (DN.n) (.slice aF DN.F.length bF))
                have hbf := into5_below (into5_below hbr4 HQA.out.1 (.slice aS DN.S.length bS) (.slice aC DN.C.length bC) (.slice aK DN.K.length bK) (DN.n) (.slice aF DN.F.length bF)) HQA.out.2 (.slice cS DN.S.length dS) (.slice cC DN.C.length dC) (.slice cK DN.K.length dK) (DN.n) (.slice cF DN.F.length dF)
                have HF := Lib.hid (And.intro hvAf (And.intro hvBf hbf))
                have HM2 : Hid ((0 : Int) = 0 → MayD DN ∧ DN.S.length ≤ 1099511627776) := fun _ => ⟨hmn, hsn.s⟩
                have HK1 := Lib.hid (show k + 1 ≤ n2 by omega)
                obtain ⟨za0, za1, za2, za3, za4⟩ := five_cells kA4
                obtain ⟨zb0, zb1, zb2, zb3, zb4⟩ := five_cells kB4
                obtain ⟨fa0, fa1, fa2, fa3, fa4⟩ := five_free kA4
                obtain ⟨fb0, fb1, fb2, fb3, fb4⟩ := five_free kB4
                unfold into5 at HF
                clear hvAf hvBf hbf kA4 kB4 kB5 kX4 kY4 hOX4 hOY4 hbr4
                go_wp2_with fail
                go_region_held3 (fun w' => w'.cell? ⟨qx, 0, none⟩ = some (.slice aS DN.S.length bS) ∧ w'.cell? ⟨qx, 1, none⟩ = some (.slice aC DN.C.length bC) ∧ w'.cell? ⟨qx, 2, none⟩ = some (.slice aK DN.K.length bK) ∧ w'.cell? ⟨qx, 3, none⟩ = some (.int .i64 DN.n) ∧ w'.cell? ⟨qx, 4, none⟩ = some (.slice aF DN.F.length bF) ∧ w'.cell? ⟨qy, 0, none⟩ = some (.slice cS DN.S.length dS) ∧ w'.cell? ⟨qy, 1, none⟩ = some (.slice cC DN.C.length dC) ∧ w'.cell? ⟨qy, 2, none⟩ = some (.slice cK DN.K.length dK) ∧ w'.cell? ⟨qy, 3, none⟩ = some (.int .i64 DN.n) ∧ w'.cell? ⟨qy, 4, none⟩ = some (.slice cF DN.F.length dF)) (go_keep) (fail)
                go_wp2_with fail
                go_roundw
                case rel => exact ⟨k + 1, DN, HK1.out, by go_num, HF.out.1.drew, HF.out.2.1.drew, HF.out.2.2.drew, HM2⟩
                case measure => have := HK1.out; simp [intOf]; omega
            · go_simp
              refine hK.out _ _ ?_ (fun hHeld => ?_)
              focus (exact HZ0.out)
              clear hK K
              try simp only [Act.put, List.setIfInBounds_toArray, List.set_cons_zero, List.set_cons_succ]
              rw [← hv3']
              clear hv3' HZ0
              refine wpAnyH_ready (rs := [5]) (by kernel_rfl) (by simp) ?_
              refine AllReadyH.cons (o := ⟨some 63, _, _, _, _, _⟩) rfl (fun K hK => ?_) AllReadyH.nil
              go_simp
              refine (hdoes v3' hx3).mono ?_
              rintro e v4 ⟨uS, uC, uK, uF, g4, rfl, hO4, hb4⟩
              obtain ⟨xS4, yS4, xC4, yC4, xK4, yK4, xF4, yF4, rfl, rfl, rfl, rfl⟩ := own_shapes hO4
              have hx4 : Below wr.heap.size wr v4 := hx3.trans (hb4.mono hx3.size)
              have HS4 := Lib.hid (hkeep v4 hx4)
              have z4 := zb.below hb4 zb.lt
              have hvX := VarAt.put z4 rfl hO4
              have hne4 : qa ≠ wr.heap.size := by have := hvA.lt; omega
              have hne5 : qb ≠ wr.heap.size := by have := hvB.lt; omega
              have hvA1 := (hvA.up hx4).into z4 hne4 (.slice xS4 DN.S.length yS4) (.slice xC4 DN.C.length yC4) (.slice xK4 DN.K.length yK4) DN.n (.slice xF4 DN.F.length yF4)
              have hvB1 := (hvB.up hx4).into z4 hne5 (.slice xS4 DN.S.length yS4) (.slice xC4 DN.C.length yC4) (.slice xK4 DN.K.length yK4) DN.n (.slice xF4 DN.F.length yF4)
              obtain ⟨zc0, zc1, zc2, zc3, zc4⟩ := five_cells z4
              obtain ⟨zf0, zf1, zf2, zf3, zf4⟩ := five_free z4
              have hx5 := into5_below hx4 (Nat.le_refl _) (.slice xS4 DN.S.length yS4) (.slice xC4 DN.C.length yC4) (.slice xK4 DN.K.length yK4) DN.n (.slice xF4 DN.F.length yF4)
              have HS6 := Lib.hid (hkeep _ hx5)
              unfold into5 at HS6
              have hbr1 := hbr.trans (hx5.mono hbr.size)
              clear hdoes hb4
              go_wp2_with fail
              refine hK.out _ _ ?_ (fun hHeld => ?_)
              focus (exact HS4.out)
              clear hK K
              try simp only [Act.put, List.setIfInBounds_toArray, List.set_cons_zero, List.set_cons_succ]
              refine wpAnyH_take (i := 6) (oi := ⟨some 57, _, _, _, _, _⟩) (v := ?_) rfl (by kernel_rfl) (by kernel_rfl) (by kernel_rfl) (fun _ _ _ h => h) (Or.inl ⟨by rfl, ?_⟩) (by assumption) ?_
              rotate_left
              focus (intro wq hSq; (try dsimp only at hSq); go_simp; try with_reducible rfl)
              try simp only [Act.put, List.setIfInBounds_toArray, List.set_cons_zero, List.set_cons_succ]
              refine wpAnyH_take (i := 7) (oi := ⟨some 64, _, _, _, _, _⟩) (v := ?_) rfl (by kernel_rfl) (by kernel_rfl) (by kernel_rfl) (fun _ _ _ h => h) (Or.inl ⟨by rfl, ?_⟩) (by assumption) ?_
              rotate_left
              focus (intro wq hSq; (try dsimp only at hSq); go_simp; try with_reducible rfl)
              try simp only [Act.put, List.setIfInBounds_toArray, List.set_cons_zero, List.set_cons_succ]
              refine wpAnyH_take (i := 8) (oi := ⟨some 65, _, _, _, _, _⟩) (v := ?_) rfl (by kernel_rfl) (by kernel_rfl) (by kernel_rfl) (fun _ _ _ h => h) (Or.inl ⟨by rfl, ?_⟩) (by assumption) ?_
              rotate_left
              focus (intro wq hSq; (try dsimp only at hSq); go_simp; try with_reducible rfl)
              try simp only [Act.put, List.setIfInBounds_toArray, List.set_cons_zero, List.set_cons_succ]
              refine wpAnyH_take (i := 9) (oi := ⟨some 66, _, _, _, _, _⟩) (v := ?_) rfl (by kernel_rfl) (by kernel_rfl) (by kernel_rfl) (fun _ _ _ h => h) (Or.inl ⟨by rfl, ?_⟩) (by assumption) ?_
              rotate_left
              focus (intro wq hSq; (try dsimp only at hSq); go_simp; try with_reducible rfl)
              try simp only [Act.put, List.setIfInBounds_toArray, List.set_cons_zero, List.set_cons_succ]
              refine wpAnyH_ready (rs := [11]) (by kernel_rfl) (by simp) ?_
              refine AllReadyH.cons (o := ⟨none, _, _, _, _, _⟩) rfl (fun K hK => ?_) AllReadyH.nil
              go_simp
              refine hK.out _ _ ?_ (fun hHeld => ?_)
              focus (exact HS6.out)
              clear hK K
              try simp only [Act.put, List.setIfInBounds_toArray, List.set_cons_zero, List.set_cons_succ]
              refine wpAnyH_take (i := 12) (oi := ⟨some 13, _, _, _, _, _⟩) (v := ?_) rfl (by kernel_rfl) (by kernel_rfl) (by kernel_rfl) (fun _ _ _ h => h) (Or.inl ⟨by rfl, ?_⟩) (by assumption) ?_
              rotate_left
              focus (intro wq hSq; (try dsimp only at hSq); go_simp; try with_reducible rfl)
              try simp only [Act.put, List.setIfInBounds_toArray, List.set_cons_zero, List.set_cons_succ]
              refine wpAnyH_take (i := 13) (oi := ⟨some 14, _, _, _, _, _⟩) (v := ?_) rfl (by kernel_rfl) (by kernel_rfl) (by kernel_rfl) (fun _ _ _ h => h) (Or.inl ⟨by rfl, ?_⟩) (by assumption) ?_
              rotate_left
              focus (intro wq hSq; (try dsimp only at hSq); go_simp; try with_reducible rfl)
              try simp only [Act.put, List.setIfInBounds_toArray, List.set_cons_zero, List.set_cons_succ]
              refine wpAnyH_done (by kernel_rfl) ?_ _
              obtain ⟨y1, hy1⟩ : ∃ W, W = into5 v4 wr.heap.size (.slice xS4 DN.S.length yS4) (.slice xC4 DN.C.length yC4) (.slice xK4 DN.K.length yK4) DN.n (.slice xF4 DN.F.length yF4) := ⟨_, rfl⟩
              rw [← hy1] at hvX hvA1 hvB1 hx5 hbr1
              unfold into5 at hy1
              rw [← hy1]
              have hxy := hx5
              have hnx : qa ≠ wr.heap.size ∧ qb ≠ wr.heap.size := ⟨hne4, hne5⟩
              obtain ⟨qx, hqx⟩ : ∃ q, Hid (wr.heap.size = q) := ⟨_, rfl⟩
              rw [hqx.out] at hvX hnx
              rw [hqx.out]
              clear hy1 HS4 HS6 hO4 hx4 hx3 zb z4 zc0 zc1 zc2 zc3 zc4 zf0 zf1 zf2 zf3 zf4 hx5 hne4 hne5
              clear k0 k1 k2 k3 k4 e0 e1 e2 e3 e4 e5 e6 hkeep hOA kA hvA hvB
              obtain ⟨vS', vC', vK', vF', gB, hOB, kB⟩ := id hvB1
              obtain ⟨rS, pS, rC, pC, rK, pK, rF, pF, rfl, rfl, rfl, rfl⟩ := own_shapes hOB
              obtain ⟨k0, k1, k2, k3, k4⟩ := five_cells kB
              obtain ⟨e0, e1, e2, e3, e4, e5, e6⟩ := deed_cells hdk hbr1
              have hkeep2 : ∀ wx : World, Below y1.heap.size y1 wx → (wx.cell? ⟨qb, 0, none⟩ = some (.slice rS Dk.S.length pS) ∧ wx.cell? ⟨qb, 1, none⟩ = some (.slice rC Dk.C.length pC) ∧ wx.cell? ⟨qb, 2, none⟩ = some (.slice rK Dk.K.length pK) ∧ wx.cell? ⟨qb, 3, none⟩ = some (.int .i64 Dk.n) ∧ wx.cell? ⟨qb, 4, none⟩ = some (.slice rF Dk.F.length pF) ∧ wx.cell? (p.add (k * 7)) = some (.int .i64 (X k).dk) ∧ wx.cell? ⟨(p.add (k * 7)).block, (p.add (k * 7)).off + 1, none⟩ = some (.int .i64 (X k).node) ∧ wx.cell? ⟨(p.add (k * 7)).block, (p.add (k * 7)).off + 2, none⟩ = some (.int .i8 (X k).a.k) ∧ wx.cell? ⟨(p.add (k * 7)).block, (p.add (k * 7)).off + 3, none⟩ = some (.int .i64 (X k).a.s) ∧ wx.cell? ⟨(p.add (k * 7)).block, (p.add (k * 7)).off + 4, none⟩ = some (.string (X k).a.b) ∧ wx.cell? ⟨(p.add (k * 7)).block, (p.add (k * 7)).off + 5, none⟩ = some (.int .i64 (X k).a.key) ∧ wx.cell? ⟨(p.add (k * 7)).block, (p.add (k * 7)).off + 6, none⟩ = some (.int .u64 ((X k).kept : Int))) := fun wx hx => by
                obtain ⟨j0, j1, j2, j3, j4⟩ := five_cells (kB.below hx kB.lt)
                obtain ⟨f0, f1, f2, f3, f4, f5, f6⟩ := deed_cells hdk (hbr1.trans (hx.mono hbr1.size))
                exact ⟨j0, j1, j2, j3, j4, f0, f1, f2, f3, f4, f5, f6⟩
              have hhis := fun (wx : World) (hx : Below y1.heap.size y1 wx) => his_any w.heap.size _ _ _ _ gB Dk (X k).dk (X k).node (X k).a (X k).kept wx (hOB.up hx) (Nat.le_trans hbr1.size hx.size) hmd hsm hbd.a hbd.b hbd.kept
              rw [show deedD Dk ⟨(X k).dk, (X k).node, (X k).a, (X k).kept⟩ = DN from hDN.out, show deedS Dk ⟨(X k).dk, (X k).node, (X k).a, (X k).kept⟩ = SN from hSN.out, show deedE Dk ⟨(X k).dk, (X k).node, (X k).a, (X k).kept⟩ = EN from hEN.out] at hhis
              obtain ⟨v5', hv5'⟩ : ∃ W, W = (y1.alloc (.cells #[.slice none 0 0, .slice none 0 0, .slice none 0 0, .int .i64 0, .slice none 0 0] 29)).drew := ⟨_, rfl⟩
              have hx3 : Below y1.heap.size y1 v5' := by rw [hv5']; exact (below_alloc y1 _).drew
              have zb : Blk v5' y1.heap.size #[.slice none 0 0, .slice none 0 0, .slice none 0 0, .int .i64 0, .slice none 0 0] 29 := by rw [hv5']; exact (Blk.new y1 _ _).drew
              have HZ0 : Hid (((y1.alloc (.cells #[.slice none 0 0, .slice none 0 0, .slice none 0 0, .int .i64 0, .slice none 0 0] 29)).drew).cell? ⟨qb, 0, none⟩ = some (.slice rS Dk.S.length pS) ∧ ((y1.alloc (.cells #[.slice none 0 0, .slice none 0 0, .slice none 0 0, .int .i64 0, .slice none 0 0] 29)).drew).cell? ⟨qb, 1, none⟩ = some (.slice rC Dk.C.length pC) ∧ ((y1.alloc (.cells #[.slice none 0 0, .slice none 0 0, .slice none 0 0, .int .i64 0, .slice none 0 0] 29)).drew).cell? ⟨qb, 2, none⟩ = some (.slice rK Dk.K.length pK) ∧ ((y1.alloc (.cells #[.slice none 0 0, .slice none 0 0, .slice none 0 0, .int .i64 0, .slice none 0 0] 29)).drew).cell? ⟨qb, 3, none⟩ = some (.int .i64 Dk.n) ∧ ((y1.alloc (.cells #[.slice none 0 0, .slice none 0 0, .slice none 0 0, .int .i64 0, .slice none 0 0] 29)).drew).cell? ⟨qb, 4, none⟩ = some (.slice rF Dk.F.length pF) ∧ ((y1.alloc (.cells #[.slice none 0 0, .slice none 0 0, .slice none 0 0, .int .i64 0, .slice none 0 0] 29)).drew).cell? (p.add (k * 7)) = some (.int .i64 (X k).dk) ∧ ((y1.alloc (.cells #[.slice none 0 0, .slice none 0 0, .slice none 0 0, .int .i64 0, .slice none 0 0] 29)).drew).cell? ⟨(p.add (k * 7)).block, (p.add (k * 7)).off + 1, none⟩ = some (.int .i64 (X k).node) ∧ ((y1.alloc (.cells #[.slice none 0 0, .slice none 0 0, .slice none 0 0, .int .i64 0, .slice none 0 0] 29)).drew).cell? ⟨(p.add (k * 7)).block, (p.add (k * 7)).off + 2, none⟩ = some (.int .i8 (X k).a.k) ∧ ((y1.alloc (.cells #[.slice none 0 0, .slice none 0 0, .slice none 0 0, .int .i64 0, .slice none 0 0] 29)).drew).cell? ⟨(p.add (k * 7)).block, (p.add (k * 7)).off + 3, none⟩ = some (.int .i64 (X k).a.s) ∧ ((y1.alloc (.cells #[.slice none 0 0, .slice none 0 0, .slice none 0 0, .int .i64 0, .slice none 0 0] 29)).drew).cell? ⟨(p.add (k * 7)).block, (p.add (k * 7)).off + 4, none⟩ = some (.string (X k).a.b) ∧ ((y1.alloc (.cells #[.slice none 0 0, .slice none 0 0, .slice none 0 0, .int .i64 0, .slice none 0 0] 29)).drew).cell? ⟨(p.add (k * 7)).block, (p.add (k * 7)).off + 5, none⟩ = some (.int .i64 (X k).a.key) ∧ ((y1.alloc (.cells #[.slice none 0 0, .slice none 0 0, .slice none 0 0, .int .i64 0, .slice none 0 0] 29)).drew).cell? ⟨(p.add (k * 7)).block, (p.add (k * 7)).off + 6, none⟩ = some (.int .u64 ((X k).kept : Int))) := hkeep2 _ ((below_alloc y1 _).drew)
              go_wp2_with fail
              refine wp_region_held_drew (S := (fun w' => w'.cell? ⟨qb, 0, none⟩ = some (.slice rS Dk.S.length pS) ∧ w'.cell? ⟨qb, 1, none⟩ = some (.slice rC Dk.C.length pC) ∧ w'.cell? ⟨qb, 2, none⟩ = some (.slice rK Dk.K.length pK) ∧ w'.cell? ⟨qb, 3, none⟩ = some (.int .i64 Dk.n) ∧ w'.cell? ⟨qb, 4, none⟩ = some (.slice rF Dk.F.length pF) ∧ w'.cell? (p.add (k * 7)) = some (.int .i64 (X k).dk) ∧ w'.cell? ⟨(p.add (k * 7)).block, (p.add (k * 7)).off + 1, none⟩ = some (.int .i64 (X k).node) ∧ w'.cell? ⟨(p.add (k * 7)).block, (p.add (k * 7)).off + 2, none⟩ = some (.int .i8 (X k).a.k) ∧ w'.cell? ⟨(p.add (k * 7)).block, (p.add (k * 7)).off + 3, none⟩ = some (.int .i64 (X k).a.s) ∧ w'.cell? ⟨(p.add (k * 7)).block, (p.add (k * 7)).off + 4, none⟩ = some (.string (X k).a.b) ∧ w'.cell? ⟨(p.add (k * 7)).block, (p.add (k * 7)).off + 5, none⟩ = some (.int .i64 (X k).a.key) ∧ w'.cell? ⟨(p.add (k * 7)).block, (p.add (k * 7)).off + 6, none⟩ = some (.int .u64 ((X k).kept : Int)))) (by kernel_rfl) ?_ (fun hHeld => ?_)
              focus (exact ⟨k0, k1, k2, k3, k4, e0, e1, e2, e3, e4, e5, e6⟩)
              refine wpAnyH_take (i := 0) (oi := ⟨some 68, _, _, _, _, _⟩) (v := ?_) rfl (by kernel_rfl) (by kernel_rfl) (by kernel_rfl) (fun _ _ _ h => h) (Or.inl ⟨by rfl, ?_⟩) (by assumption) ?_
              rotate_left
              focus (intro wq hSq; (try dsimp only at hSq); go_simp; try with_reducible rfl)
              try simp only [Act.put, List.setIfInBounds_toArray, List.set_cons_zero, List.set_cons_succ]
              refine wpAnyH_take (i := 1) (oi := ⟨some 69, _, _, _, _, _⟩) (v := ?_) rfl (by kernel_rfl) (by kernel_rfl) (by kernel_rfl) (fun _ _ _ h => h) (Or.inl ⟨by rfl, ?_⟩) (by assumption) ?_
              rotate_left
              focus (intro wq hSq; (try dsimp only at hSq); go_simp; try with_reducible rfl)
              try simp only [Act.put, List.setIfInBounds_toArray, List.set_cons_zero, List.set_cons_succ]
              refine wpAnyH_take (i := 2) (oi := ⟨some 70, _, _, _, _, _⟩) (v := ?_) rfl (by kernel_rfl) (by kernel_rfl) (by kernel_rfl) (fun _ _ _ h => h) (Or.inl ⟨by rfl, ?_⟩) (by assumption) ?_
              rotate_left
              focus (intro wq hSq; (try dsimp only at hSq); go_simp; try with_reducible rfl)
              try simp only [Act.put, List.setIfInBounds_toArray, List.set_cons_zero, List.set_cons_succ]
              refine wpAnyH_take (i := 3) (oi := ⟨some 71, _, _, _, _, _⟩) (v := ?_) rfl (by kernel_rfl) (by kernel_rfl) (by kernel_rfl) (fun _ _ _ h => h) (Or.inl ⟨by rfl, ?_⟩) (by assumption) ?_
              rotate_left
              focus (intro wq hSq; (try dsimp only at hSq); go_simp; try with_reducible rfl)
              try simp only [Act.put, List.setIfInBounds_toArray, List.set_cons_zero, List.set_cons_succ]
              refine wpAnyH_take (i := 4) (oi := ⟨some 72, _, _, _, _, _⟩) (v := ?_) rfl (by kernel_rfl) (by kernel_rfl) (by kernel_rfl) (fun _ _ _ h => h) (Or.inl ⟨by rfl, ?_⟩) (by assumption) ?_
              rotate_left
              focus (intro wq hSq; (try dsimp only at hSq); go_simp; try with_reducible rfl)
              try simp only [Act.put, List.setIfInBounds_toArray, List.set_cons_zero, List.set_cons_succ]
              refine wpAnyH_ready (rs := [5, 10]) (by kernel_rfl) (by simp) ?_
              refine AllReadyH.cons (o := ⟨some 73, _, _, _, _, _⟩) rfl (fun K hK => ?_) (AllReadyH.cons (o := ⟨some 15, _, _, _, _, _⟩) rfl (fun K hK => ?_) AllReadyH.nil)
              · go_simp
                refine (hhis y1.drew ((Below.refl _ _).drew)).mono ?_
                rintro e v5 ⟨uS5, uC5, uK5, uF5, g5, rfl, hO5, hb5⟩
                obtain ⟨xS5, yS5, xC5, yC5, xK5, yK5, xF5, yF5, rfl, rfl, rfl, rfl⟩ := own_shapes hO5
                have hx4 : Below y1.heap.size y1 v5 := ((Below.refl _ _).drew).trans hb5
                have HS4 := Lib.hid (hkeep2 v5 hx4)
                have HS5 := Lib.hid (hkeep2 _ (hx4.trans ((below_alloc v5 (.cells #[.slice none 0 0, .slice none 0 0, .slice none 0 0, .int .i64 0, .slice none 0 0] 29)).mono hx4.size)))
                have HS6 := Lib.hid (hkeep2 _ (hx4.trans ((below_alloc v5 (.cells #[.slice xS5 DN.S.length yS5, .slice xC5 DN.C.length yC5, .slice xK5 DN.K.length yK5, .int .i64 DN.n, .slice xF5 DN.F.length yF5] 29)).mono hx4.size)))
                clear hhis hb5
                go_wp2_with fail
                refine hK.out _ _ ?_ (fun hHeld => ?_)
                focus (exact HS4.out)
                clear hK K
                try simp only [Act.put, List.setIfInBounds_toArray, List.set_cons_zero, List.set_cons_succ]
                refine wpAnyH_take (i := 6) (oi := ⟨some 67, _, _, _, _, _⟩) (v := ?_) rfl (by kernel_rfl) (by kernel_rfl) (by kernel_rfl) (fun _ _ _ h => h) (Or.inl ⟨by rfl, ?_⟩) (by assumption) ?_
                rotate_left
                focus (intro wq hSq; (try dsimp only at hSq); go_simp; try with_reducible rfl)
                try simp only [Act.put, List.setIfInBounds_toArray, List.set_cons_zero, List.set_cons_succ]
                refine wpAnyH_take (i := 7) (oi := ⟨some 74, _, _, _, _, _⟩) (v := ?_) rfl (by kernel_rfl) (by kernel_rfl) (by kernel_rfl) (fun _ _ _ h => h) (Or.inl ⟨by rfl, ?_⟩) (by assumption) ?_
                rotate_left
                focus (intro wq hSq; (try dsimp only at hSq); go_simp; try with_reducible rfl)
                try simp only [Act.put, List.setIfInBounds_toArray, List.set_cons_zero, List.set_cons_succ]
                refine wpAnyH_take (i := 8) (oi := ⟨some 75, _, _, _, _, _⟩) (v := ?_) rfl (by kernel_rfl) (by kernel_rfl) (by kernel_rfl) (fun _ _ _ h => h) (Or.inl ⟨by rfl, ?_⟩) (by assumption) ?_
                rotate_left
                focus (intro wq hSq; (try dsimp only at hSq); go_simp; try with_reducible rfl)
                try simp only [Act.put, List.setIfInBounds_toArray, List.set_cons_zero, List.set_cons_succ]
                refine wpAnyH_take (i := 9) (oi := ⟨some 76, _, _, _, _, _⟩) (v := ?_) rfl (by kernel_rfl) (by kernel_rfl) (by kernel_rfl) (fun _ _ _ h => h) (Or.inl ⟨by rfl, ?_⟩) (by assumption) ?_
                rotate_left
                focus (intro wq hSq; (try dsimp only at hSq); go_simp; try with_reducible rfl)
                try simp only [Act.put, List.setIfInBounds_toArray, List.set_cons_zero, List.set_cons_succ]
                refine wpAnyH_ready (rs := [10]) (by kernel_rfl) (by simp) ?_
                refine AllReadyH.cons (o := ⟨some 15, _, _, _, _, _⟩) rfl (fun K hK => ?_) AllReadyH.nil
                go_simp
                refine hK.out _ _ ?_ (fun hHeld => ?_)
                focus (exact HS5.out)
                clear hK K
                try simp only [Act.put, List.setIfInBounds_toArray, List.set_cons_zero, List.set_cons_succ]
                refine wpAnyH_ready (rs := [11]) (by kernel_rfl) (by simp) ?_
                refine AllReadyH.cons (o := ⟨none, _, _, _, _, _⟩) rfl (fun K hK => ?_) AllReadyH.nil
                go_simp
                refine hK.out _ _ ?_ (fun hHeld => ?_)
                focus (exact HS6.out)
                clear hK K
                try simp only [Act.put, List.setIfInBounds_toArray, List.set_cons_zero, List.set_cons_succ]
                refine wpAnyH_take (i := 12) (oi := ⟨some 16, _, _, _, _, _⟩) (v := ?_) rfl (by kernel_rfl) (by kernel_rfl) (by kernel_rfl) (fun _ _ _ h => h) (Or.inl ⟨by rfl, ?_⟩) (by assumption) ?_
                rotate_left
                focus (intro wq hSq; (try dsimp only at hSq); go_simp; try with_reducible rfl)
                try simp only [Act.put, List.setIfInBounds_toArray, List.set_cons_zero, List.set_cons_succ]
                refine wpAnyH_take (i := 13) (oi := ⟨some 17, _, _, _, _, _⟩) (v := ?_) rfl (by kernel_rfl) (by kernel_rfl) (by kernel_rfl) (fun _ _ _ h => h) (Or.inl ⟨by rfl, ?_⟩) (by assumption) ?_
                rotate_left
                focus (intro wq hSq; (try dsimp only at hSq); go_simp; try with_reducible rfl)
                try simp only [Act.put, List.setIfInBounds_toArray, List.set_cons_zero, List.set_cons_succ]
                refine wpAnyH_done (by kernel_rfl) ?_ _
                obtain ⟨y2, hy2⟩ : ∃ W, W = v5.alloc (.cells #[.slice xS5 DN.S.length yS5, .slice xC5 DN.C.length yC5, .slice xK5 DN.K.length yK5, .int .i64 DN.n, .slice xF5 DN.F.length yF5] 29) := ⟨_, rfl⟩
                have hq1 : Below v5.heap.size v5 y2 := hy2 ▸ below_alloc v5 _
                have hvY : VarAt y2 w.heap.size v5.heap.size DN := hy2 ▸ var_new hO5
                have hxy := hx4.trans (hq1.mono hx4.size)
                have hvA2 := hvA1.up hxy
                have hvB2 := hvB1.up hxy
                have hvX2 := hvX.up hxy
                have hbr2 := hbr1.trans (hxy.mono hbr1.size)
                have hny : qa ≠ v5.heap.size ∧ qb ≠ v5.heap.size := by have := hvA1.lt; have := hvB1.lt; have := hx4.size; exact ⟨by omega, by omega⟩
                rw [← hy2]
                obtain ⟨qy, hqy⟩ : ∃ q, Hid (v5.heap.size = q) := ⟨_, rfl⟩
                rw [hqy.out] at hvY hny
                rw [hqy.out]
                clear hy2 HS4 HS5 HS6 hO5 hq1 hx4 hx3 zb hv5' HZ0 hvA1 hvB1 hvX
                clear hkeep2 hOB kB k0 k1 k2 k3 k4 e0 e1 e2 e3 e4 e5 e6
                obtain ⟨xA, xB, xC', xD, gX, hOX, kX⟩ := id hvX2
                obtain ⟨aS, bS, aC, bC, aK, bK, aF, bF, rfl, rfl, rfl, rfl⟩ := own_shapes hOX
                obtain ⟨k0, k1, k2, k3, k4⟩ := five_cells kX
                obtain ⟨yA, yB, yC', yD, gY, hOY, kY⟩ := id hvY
                obtain ⟨cS, dS, cC, dC, cK, dK, cF, dF, rfl, rfl, rfl, rfl⟩ := own_shapes hOY
                obtain ⟨m0, m1, m2, m3, m4⟩ := five_cells kY
                have hmn : MayD DN := by rw [← hDN.out]; exact may_deed hmd _
                have hsn : Small DN 1099511627776 := by rw [← hDN.out]; exact deed_small hmd hsd
                have hss : (SN.toList == SN.toList) = true := by simp
                have hsame := refSame_yes _ _ DN y2 hOX.dev hOY.dev hsn.k hsn.f
                go_wp2_with fail
                refine hsame.mono ?_
                rintro e y3 ⟨rfl, hb3⟩
                have kX3 := kX.below hb3 kX.lt
                have kY3 := kY.below hb3 kY.lt
                have hOX3 := hOX.up hb3
                have hOY3 := hOY.up hb3
                have hvA3 := hvA2.up hb3
                have hvB3 := hvB2.up hb3
                have hbr3 := hbr2.trans (hb3.mono hbr2.size)
                have hchk := devCheck_any _ DN true y3 hOX3.dev hsn.s ((sMay_iff _).2 ⟨hmn.s1, hmn.ss⟩) (fun _ => hmn)
                rw [if_pos rfl] at hchk
                clear hsame k0 k1 k2 k3 k4 m0 m1 m2 m3 m4 kX kY hOX hOY hvA2 hvB2 hvX2 hvY hbr2 hb3
                obtain ⟨k0, k1, k2, k3, k4⟩ := five_cells kX3
                obtain ⟨m0, m1, m2, m3, m4⟩ := five_cells kY3
                go_wp2_with fail
                refine hchk.mono ?_
                rintro e y4 ⟨rfl, hb4⟩
                have kX4 := kX3.below hb4 kX3.lt
                have kY4 := kY3.below hb4 kY3.lt
                have hOX4 := hOX3.up hb4
                have hOY4 := hOY3.up hb4
                have hvA4 := hvA3.up hb4
                have hvB4 := hvB3.up hb4
                have hbr4 := hbr3.trans (hb4.mono hbr3.size)
                clear hchk k0 k1 k2 k3 k4 m0 m1 m2 m3 m4 kX3 kY3 hOX3 hOY3 hvA3 hvB3 hbr3 hb4
                obtain ⟨k0, k1, k2, k3, k4⟩ := five_cells kX4
                obtain ⟨m0, m1, m2, m3, m4⟩ := five_cells kY4
                obtain ⟨_, _, _, _, _, _, kA4⟩ := hvA4
                obtain ⟨_, _, _, _, _, _, kB4⟩ := hvB4
                have hab : qb ≠ qa := fun e => hne e.symm
                have hxa : qx ≠ qa := fun e => hnx.1 e.symm
                have hxb : qx ≠ qb := fun e => hnx.2 e.symm
                have hya : qy ≠ qa := fun e => hny.1 e.symm
                have hyb : qy ≠ qb := fun e => hny.2 e.symm
                obtain ⟨hax, hbx⟩ := hnx
                obtain ⟨hay, hby⟩ := hny
                have kB5 := into5_blk kB4 hab (.slice aS DN.S.length bS) (.slice aC DN.C.length bC) (.slice aK DN.K.length bK) (DN.n) (.slice aF DN.F.length bF)
                have hvAf := (VarAt.put kA4 rfl hOX4).into kB5 hne (.slice cS DN.S.length dS) (.slice cC DN.C.length dC) (.slice cK DN.K.length dK) (DN.n) (.slice cF DN.F.length dF)
                have hvBf := VarAt.put kB5 rfl (into5_other hOY4 kA4 (by decide) (by decide) (by decide) (by decide) (.slice aS DN.S.length bS) (.slice aC DN.C.length bC) (.slice aK DN.K.length bK) (DN.n) (.slice aF DN.F.length bF))
                have hbf := into5_below (into5_below hbr4 HQA.out.1 (.slice aS DN.S.length bS) (.slice aC DN.C.length bC) (.slice aK DN.K.length bK) (DN.n) (.slice aF DN.F.length bF)) HQA.out.2 (.slice cS DN.S.length dS) (.slice cC DN.C.length dC) (.slice cK DN.K.length dK) (DN.n) (.slice cF DN.F.length dF)
                have HF := Lib.hid (And.intro hvAf (And.intro hvBf hbf))
                have HM2 : Hid ((0 : Int) = 0 → MayD DN ∧ DN.S.length ≤ 1099511627776) := fun _ => ⟨hmn, hsn.s⟩
                have HK1 := Lib.hid (show k + 1 ≤ n2 by omega)
                obtain ⟨za0, za1, za2, za3, za4⟩ := five_cells kA4
                obtain ⟨zb0, zb1, zb2, zb3, zb4⟩ := five_cells kB4
                obtain ⟨fa0, fa1, fa2, fa3, fa4⟩ := five_free kA4
                obtain ⟨fb0, fb1, fb2, fb3, fb4⟩ := five_free kB4
                unfold into5 at HF
                clear hvAf hvBf hbf kA4 kB4 kB5 kX4 kY4 hOX4 hOY4 hbr4
                go_wp2_with fail
                go_region_held3 (fun w' => w'.cell? ⟨qx, 0, none⟩ = some (.slice aS DN.S.length bS) ∧ w'.cell? ⟨qx, 1, none⟩ = some (.slice aC DN.C.length bC) ∧ w'.cell? ⟨qx, 2, none⟩ = some (.slice aK DN.K.length bK) ∧ w'.cell? ⟨qx, 3, none⟩ = some (.int .i64 DN.n) ∧ w'.cell? ⟨qx, 4, none⟩ = some (.slice aF DN.F.length bF) ∧ w'.cell? ⟨qy, 0, none⟩ = some (.slice cS DN.S.length dS) ∧ w'.cell? ⟨qy, 1, none⟩ = some (.slice cC DN.C.length dC) ∧ w'.cell? ⟨qy, 2, none⟩ = some (.slice cK DN.K.length dK) ∧ w'.cell? ⟨qy, 3, none⟩ = some (.int .i64 DN.n) ∧ w'.cell? ⟨qy, 4, none⟩ = some (.slice cF DN.F.length dF)) (go_keep) (fail)
                go_wp2_with fail
                go_roundw
                case rel => exact ⟨k + 1, DN, HK1.out, by go_num, HF.out.1.drew, HF.out.2.1.drew, HF.out.2.2.drew, HM2⟩
                case measure => have := HK1.out; simp [intOf]; omega
              · go_simp
                refine hK.out _ _ ?_ (fun hHeld => ?_)
                focus (exact HZ0.out)
                clear hK K
                try simp only [Act.put, List.setIfInBounds_toArray, List.set_cons_zero, List.set_cons_succ]
                rw [← hv5']
                clear hv5' HZ0
                refine wpAnyH_ready (rs := [5]) (by kernel_rfl) (by simp) ?_
                refine AllReadyH.cons (o := ⟨some 73, _, _, _, _, _⟩) rfl (fun K hK => ?_) AllReadyH.nil
                go_simp
                refine (hhis v5' hx3).mono ?_
                rintro e v5 ⟨uS5, uC5, uK5, uF5, g5, rfl, hO5, hb5⟩
                obtain ⟨xS5, yS5, xC5, yC5, xK5, yK5, xF5, yF5, rfl, rfl, rfl, rfl⟩ := own_shapes hO5
                have hx4 : Below y1.heap.size y1 v5 := hx3.trans (hb5.mono hx3.size)
                have HS4 := Lib.hid (hkeep2 v5 hx4)
                have z4 := zb.below hb5 zb.lt
                have hvY := VarAt.put z4 rfl hO5
                have hne4 : qa ≠ y1.heap.size := by have := hvA1.lt; omega
                have hne5 : qb ≠ y1.heap.size := by have := hvB1.lt; omega
                have hne6 : qx ≠ y1.heap.size := by have := hvX.lt; omega
                have hvA2 := (hvA1.up hx4).into z4 hne4 (.slice xS5 DN.S.length yS5) (.slice xC5 DN.C.length yC5) (.slice xK5 DN.K.length yK5) DN.n (.slice xF5 DN.F.length yF5)
                have hvB2 := (hvB1.up hx4).into z4 hne5 (.slice xS5 DN.S.length yS5) (.slice xC5 DN.C.length yC5) (.slice xK5 DN.K.length yK5) DN.n (.slice xF5 DN.F.length yF5)
                have hvX2 := (hvX.up hx4).into z4 hne6 (.slice xS5 DN.S.length yS5) (.slice xC5 DN.C.length yC5) (.slice xK5 DN.K.length yK5) DN.n (.slice xF5 DN.F.length yF5)
                obtain ⟨zc0, zc1, zc2, zc3, zc4⟩ := five_cells z4
                obtain ⟨zf0, zf1, zf2, zf3, zf4⟩ := five_free z4
                have hx5 := into5_below hx4 (Nat.le_refl _) (.slice xS5 DN.S.length yS5) (.slice xC5 DN.C.length yC5) (.slice xK5 DN.K.length yK5) DN.n (.slice xF5 DN.F.length yF5)
                have HS6 := Lib.hid (hkeep2 _ hx5)
                unfold into5 at HS6
                have hbr2 := hbr1.trans (hx5.mono hbr1.size)
                clear hhis hb5
                go_wp2_with fail
                refine hK.out _ _ ?_ (fun hHeld => ?_)
                focus (exact HS4.out)
                clear hK K
                try simp only [Act.put, List.setIfInBounds_toArray, List.set_cons_zero, List.set_cons_succ]
                refine wpAnyH_take (i := 6) (oi := ⟨some 67, _, _, _, _, _⟩) (v := ?_) rfl (by kernel_rfl) (by kernel_rfl) (by kernel_rfl) (fun _ _ _ h => h) (Or.inl ⟨by rfl, ?_⟩) (by assumption) ?_
                rotate_left
                focus (intro wq hSq; (try dsimp only at hSq); go_simp; try with_reducible rfl)
                try simp only [Act.put, List.setIfInBounds_toArray, List.set_cons_zero, List.set_cons_succ]
                refine wpAnyH_take (i := 7) (oi := ⟨some 74, _, _, _, _, _⟩) (v := ?_) rfl (by kernel_rfl) (by kernel_rfl) (by kernel_rfl) (fun _ _ _ h => h) (Or.inl ⟨by rfl, ?_⟩) (by assumption) ?_
                rotate_left
                focus (intro wq hSq; (try dsimp only at hSq); go_simp; try with_reducible rfl)
                try simp only [Act.put, List.setIfInBounds_toArray, List.set_cons_zero, List.set_cons_succ]
                refine wpAnyH_take (i := 8) (oi := ⟨some 75, _, _, _, _, _⟩) (v := ?_) rfl (by kernel_rfl) (by kernel_rfl) (by kernel_rfl) (fun _ _ _ h => h) (Or.inl ⟨by rfl, ?_⟩) (by assumption) ?_
                rotate_left
                focus (intro wq hSq; (try dsimp only at hSq); go_simp; try with_reducible rfl)
                try simp only [Act.put, List.setIfInBounds_toArray, List.set_cons_zero, List.set_cons_succ]
                refine wpAnyH_take (i := 9) (oi := ⟨some 76, _, _, _, _, _⟩) (v := ?_) rfl (by kernel_rfl) (by kernel_rfl) (by kernel_rfl) (fun _ _ _ h => h) (Or.inl ⟨by rfl, ?_⟩) (by assumption) ?_
                rotate_left
                focus (intro wq hSq; (try dsimp only at hSq); go_simp; try with_reducible rfl)
                try simp only [Act.put, List.setIfInBounds_toArray, List.set_cons_zero, List.set_cons_succ]
                refine wpAnyH_ready (rs := [11]) (by kernel_rfl) (by simp) ?_
                refine AllReadyH.cons (o := ⟨none, _, _, _, _, _⟩) rfl (fun K hK => ?_) AllReadyH.nil
                go_simp
                refine hK.out _ _ ?_ (fun hHeld => ?_)
                focus (exact HS6.out)
                clear hK K
                try simp only [Act.put, List.setIfInBounds_toArray, List.set_cons_zero, List.set_cons_succ]
                refine wpAnyH_take (i := 12) (oi := ⟨some 16, _, _, _, _, _⟩) (v := ?_) rfl (by kernel_rfl) (by kernel_rfl) (by kernel_rfl) (fun _ _ _ h => h) (Or.inl ⟨by rfl, ?_⟩) (by assumption) ?_
                rotate_left
                focus (intro wq hSq; (try dsimp only at hSq); go_simp; try with_reducible rfl)
                try simp only [Act.put, List.setIfInBounds_toArray, List.set_cons_zero, List.set_cons_succ]
                refine wpAnyH_take (i := 13) (oi := ⟨some 17, _, _, _, _, _⟩) (v := ?_) rfl (by kernel_rfl) (by kernel_rfl) (by kernel_rfl) (fun _ _ _ h => h) (Or.inl ⟨by rfl, ?_⟩) (by assumption) ?_
                rotate_left
                focus (intro wq hSq; (try dsimp only at hSq); go_simp; try with_reducible rfl)
                try simp only [Act.put, List.setIfInBounds_toArray, List.set_cons_zero, List.set_cons_succ]
                refine wpAnyH_done (by kernel_rfl) ?_ _
                obtain ⟨y2, hy2⟩ : ∃ W, W = into5 v5 y1.heap.size (.slice xS5 DN.S.length yS5) (.slice xC5 DN.C.length yC5) (.slice xK5 DN.K.length yK5) DN.n (.slice xF5 DN.F.length yF5) := ⟨_, rfl⟩
                rw [← hy2] at hvY hvA2 hvB2 hvX2 hx5 hbr2
                unfold into5 at hy2
                rw [← hy2]
                have hny : qa ≠ y1.heap.size ∧ qb ≠ y1.heap.size := ⟨hne4, hne5⟩
                obtain ⟨qy, hqy⟩ : ∃ q, Hid (y1.heap.size = q) := ⟨_, rfl⟩
                rw [hqy.out] at hvY hny
                rw [hqy.out]
                clear hy2 HS4 HS6 hO5 hx4 hx3 zb z4 zc0 zc1 zc2 zc3 zc4 zf0 zf1 zf2 zf3 zf4 hx5 hne4 hne5 hne6 hvA1 hvB1 hvX
                clear hkeep2 hOB kB k0 k1 k2 k3 k4 e0 e1 e2 e3 e4 e5 e6
                obtain ⟨xA, xB, xC', xD, gX, hOX, kX⟩ := id hvX2
                obtain ⟨aS, bS, aC, bC, aK, bK, aF, bF, rfl, rfl, rfl, rfl⟩ := own_shapes hOX
                obtain ⟨k0, k1, k2, k3, k4⟩ := five_cells kX
                obtain ⟨yA, yB, yC', yD, gY, hOY, kY⟩ := id hvY
                obtain ⟨cS, dS, cC, dC, cK, dK, cF, dF, rfl, rfl, rfl, rfl⟩ := own_shapes hOY
                obtain ⟨m0, m1, m2, m3, m4⟩ := five_cells kY
                have hmn : MayD DN := by rw [← hDN.out]; exact may_deed hmd _
                have hsn : Small DN 1099511627776 := by rw [← hDN.out]; exact deed_small hmd hsd
                have hss : (SN.toList == SN.toList) = true := by simp
                have hsame := refSame_yes _ _ DN y2 hOX.dev hOY.dev hsn.k hsn.f
                go_wp2_with fail
                refine hsame.mono ?_
                rintro e y3 ⟨rfl, hb3⟩
                have kX3 := kX.below hb3 kX.lt
                have kY3 := kY.below hb3 kY.lt
                have hOX3 := hOX.up hb3
                have hOY3 := hOY.up hb3
                have hvA3 := hvA2.up hb3
                have hvB3 := hvB2.up hb3
                have hbr3 := hbr2.trans (hb3.mono hbr2.size)
                have hchk := devCheck_any _ DN true y3 hOX3.dev hsn.s ((sMay_iff _).2 ⟨hmn.s1, hmn.ss⟩) (fun _ => hmn)
                rw [if_pos rfl] at hchk
                clear hsame k0 k1 k2 k3 k4 m0 m1 m2 m3 m4 kX kY hOX hOY hvA2 hvB2 hvX2 hvY hbr2 hb3
                obtain ⟨k0, k1, k2, k3, k4⟩ := five_cells kX3
                obtain ⟨m0, m1, m2, m3, m4⟩ := five_cells kY3
                go_wp2_with fail
                refine hchk.mono ?_
                rintro e y4 ⟨rfl, hb4⟩
                have kX4 := kX3.below hb4 kX3.lt
                have kY4 := kY3.below hb4 kY3.lt
                have hOX4 := hOX3.up hb4
                have hOY4 := hOY3.up hb4
                have hvA4 := hvA3.up hb4
                have hvB4 := hvB3.up hb4
                have hbr4 := hbr3.trans (hb4.mono hbr3.size)
                clear hchk k0 k1 k2 k3 k4 m0 m1 m2 m3 m4 kX3 kY3 hOX3 hOY3 hvA3 hvB3 hbr3 hb4
                obtain ⟨k0, k1, k2, k3, k4⟩ := five_cells kX4
                obtain ⟨m0, m1, m2, m3, m4⟩ := five_cells kY4
                obtain ⟨_, _, _, _, _, _, kA4⟩ := hvA4
                obtain ⟨_, _, _, _, _, _, kB4⟩ := hvB4
                have hab : qb ≠ qa := fun e => hne e.symm
                have hxa : qx ≠ qa := fun e => hnx.1 e.symm
                have hxb : qx ≠ qb := fun e => hnx.2 e.symm
                have hya : qy ≠ qa := fun e => hny.1 e.symm
                have hyb : qy ≠ qb := fun e => hny.2 e.symm
                obtain ⟨hax, hbx⟩ := hnx
                obtain ⟨hay, hby⟩ := hny
                have kB5 := into5_blk kB4 hab (.slice aS DN.S.length bS) (.slice aC DN.C.length bC) (.slice aK DN.K.length bK) (DN.n) (.slice aF DN.F.length bF)
                have hvAf := (VarAt.put kA4 rfl hOX4).into kB5 hne (.slice cS DN.S.length dS) (.slice cC DN.C.length dC) (.slice cK DN.K.length dK) (DN.n) (.slice cF DN.F.length dF)
                have hvBf := VarAt.put kB5 rfl (into5_other hOY4 kA4 (by decide) (by decide) (by decide) (by decide) (.slice aS DN.S.length bS) (.slice aC DN.C.length bC) (.slice aK DN.K.length bK) (DN.n) (.slice aF DN.F.length bF))
                have hbf := into5_below (into5_below hbr4 HQA.out.1 (.slice aS DN.S.length bS) (.slice aC DN.C.length bC) (.slice aK DN.K.length bK) (DN.n) (.slice aF DN.F.length bF)) HQA.out.2 (.slice cS DN.S.length dS) (.slice cC DN.C.length dC) (.slice cK DN.K.length dK) (DN.n) (.slice cF DN.F.length dF)
                have HF := Lib.hid (And.intro hvAf (And.intro hvBf hbf))
                have HM2 : Hid ((0 : Int) = 0 → MayD DN ∧ DN.S.length ≤ 1099511627776) := fun _ => ⟨hmn, hsn.s⟩
                have HK1 := Lib.hid (show k + 1 ≤ n2 by omega)
                obtain ⟨za0, za1, za2, za3, za4⟩ := five_cells kA4
                obtain ⟨zb0, zb1, zb2, zb3, zb4⟩ := five_cells kB4
                obtain ⟨fa0, fa1, fa2, fa3, fa4⟩ := five_free kA4
                obtain ⟨fb0, fb1, fb2, fb3, fb4⟩ := five_free kB4
                unfold into5 at HF
                clear hvAf hvBf hbf kA4 kB4 kB5 kX4 kY4 hOX4 hOY4 hbr4
                go_wp2_with fail
                go_region_held3 (fun w' => w'.cell? ⟨qx, 0, none⟩ = some (.slice aS DN.S.length bS) ∧ w'.cell? ⟨qx, 1, none⟩ = some (.slice aC DN.C.length bC) ∧ w'.cell? ⟨qx, 2, none⟩ = some (.slice aK DN.K.length bK) ∧ w'.cell? ⟨qx, 3, none⟩ = some (.int .i64 DN.n) ∧ w'.cell? ⟨qx, 4, none⟩ = some (.slice aF DN.F.length bF) ∧ w'.cell? ⟨qy, 0, none⟩ = some (.slice cS DN.S.length dS) ∧ w'.cell? ⟨qy, 1, none⟩ = some (.slice cC DN.C.length dC) ∧ w'.cell? ⟨qy, 2, none⟩ = some (.slice cK DN.K.length dK) ∧ w'.cell? ⟨qy, 3, none⟩ = some (.int .i64 DN.n) ∧ w'.cell? ⟨qy, 4, none⟩ = some (.slice cF DN.F.length dF)) (go_keep) (fail)
                go_wp2_with fail
                go_roundw
                case rel => exact ⟨k + 1, DN, HK1.out, by go_num, HF.out.1.drew, HF.out.2.1.drew, HF.out.2.2.drew, HM2⟩
                case measure => have := HK1.out; simp [intOf]; omega
          · have hEb : (E == 0) = false := by simpa using hE
            go_wp2_with fail
            refine (wakes_any wr).mono ?_
            rintro e v9 ⟨rfl, hb9⟩
            have hb10 := hbr.trans (hb9.mono hbr.size)
            go_wp2_with fail
            go_ret
            exact ⟨rfl, hb10⟩
        · have hkn : k = n2 := by omega
          go_wp2_with fail
          refine (wakes_any wr).mono ?_
          rintro e v9 ⟨rfl, hb9⟩
          have hb10 := hbr.trans (hb9.mono hbr.size)
          go_wp2_with fail
          go_ret
          exact ⟨rfl, hb10⟩

/-! ### THE ROW's STEP -/
set_option maxRecDepth 100000 in
theorem lifted (os : Os) (started : os.Started) (H : Type) (enc : TypeId × Value → H) :
    ReturnsInHanded {} Try.checked os 3 .any (Rows.devicePlaysSpec.pre6 enc Try.prog Try.f3 Rows.devicePlaysRow.domain false) (Rows.devicePlaysSpec.post enc Try.prog Try.f3 false true false false) := by
  refine returnsInHanded_of_change (C := Try.checked) own started (by kernel_rfl) Try.func3
    (ChangeSpec.witness6 (enc := enc) (C := Try.checked) false ⟨#[], #[.int .i64 0, .slice none 0 0, .slice none 0 0], []⟩ 8 (by kernel_rfl) (by kernel_rfl) (by kernel_rfl) (by kernel_rfl)) ?_
  intro W base args ds gs before hval0 hW hcnd _
  have hval : ∀ (j : Nat) t v, Try.f3.params[j]? = some t → args[j]? = some v → Value.okWide Try.prog W .any base t v := hval0
  have hW' := hW
  obtain ⟨p, q, hA0, hV, rfl, hfz, hnd⟩ := hW
  have hA : DataW.TrodAll enc Try.prog W 0 (fun _ => true) true Try.f3.params.toList args.toList ds p := hA0
  rw [Try.params3] at hA hval
  obtain ⟨v0, vs0, d0, ds0, p0, q0, hargs, rfl, rfl, h0, r0⟩ := trodAll_cons hA
  obtain ⟨v1, vs1, d1, ds1, p1, q1, rfl, rfl, rfl, h1, r1⟩ := trodAll_cons r0
  obtain ⟨v2, vs2, d2, ds2, p2, q2, rfl, rfl, rfl, h2, r2⟩ := trodAll_cons r1
  obtain ⟨rfl, rfl, rfl⟩ := trodAll_nil r2
  obtain rfl : args = #[v0, v1, v2] := by cases args; simp_all
  obtain ⟨rfl, rfl⟩ := trodVars_none hV
  obtain ⟨a0, rfl, rfl, rfl, w0⟩ := open_int Try.underlying3 (hval 0 3 v0 rfl rfl) h0
  have k1 := h1
  have lt1 : ∀ x ∈ p1, x.block < W.heap.size := by obtain ⟨m, hm⟩ := k1; exact DataW.trod_lt m _ _ _ hm
  obtain ⟨a1, len1, cap1, rfl⟩ := okWide_slice Try.underlying22 (hval 1 22 v1 rfl rfl)
  obtain ⟨z1, w1⟩ : ∃ zs, IsStrs W a1 len1 cap1 zs := by
    obtain ⟨fuel, hf⟩ := h1
    rcases open_strings Try.underlying22 Try.underlying9 (by kernel_rfl) hf with ⟨hcs, _⟩ | ⟨x, l, c, zs, hcs, _, hl, hm, hz, _, hcell, hwz⟩
    · simp [Value.cells] at hcs
      obtain ⟨rfl, rfl, rfl⟩ := hcs
      exact ⟨[], .inl ⟨rfl, rfl, rfl, rfl⟩⟩
    · simp [Value.cells] at hcs
      obtain ⟨rfl, rfl, rfl⟩ := hcs
      exact ⟨zs, .inr ⟨_, rfl, hl, hm, by simpa using hz, hcell, hwz⟩⟩
  have k2 := h2
  have lt2 : ∀ x ∈ p2, x.block < W.heap.size := by obtain ⟨m, hm⟩ := k2; exact DataW.trod_lt m _ _ _ hm
  obtain ⟨a2, len2, cap2, X2, rfl, w2⟩ := open_deeds (hval 2 23 v2 rfl rfl) h2
  clear hA0 hval0
  refine (walk a0 a1 len1 cap1 z1 a2 len2 cap2 X2 W w0 w1 w2).mono fun e W' ⟨he, bel⟩ => ?_
  subst he
  exact ⟨_, rfl, _, _, _, [], _, [], hW', trodAll_mk1 (shut_bool Try.underlying4 _), (trodAll_cons_mk (shut_int Try.underlying3 w0) (trodAll_cons_mk (Below.trod laidOut (by kernel_rfl) (of_decide_eq_true (by kernel_rfl)) k1 bel lt1) (trodAll_cons_mk (Below.trod laidOut (by kernel_rfl) (of_decide_eq_true (by kernel_rfl)) k2 bel lt2) trodAll_mk0))), rfl, bel.frame _, fun h => by cases h⟩

theorem over : Rows.devicePlaysRow.holds Try.pinned (OpenSpec.ofChange Rows.devicePlaysSpec) :=
  OpenClaim.holds_of_wide 3 Try.f3 rfl rfl rfl rfl rfl rfl rfl ⟨rfl, rfl, rfl, rfl, rfl⟩ rfl rfl rfl rfl rfl (by kernel_rfl) Try.func3 (by kernel_rfl)
    (of_decide_eq_true (by kernel_rfl)) (by unfold Func.isWrapper; first | (rw [if_pos (by decide +kernel)]; kernel_rfl) | (rw [if_neg (by decide +kernel)]; exact ⟨rfl, rfl⟩))
    (fun os started H enc _ => lifted os started H enc)

/-- The statement. -/
theorem proved : Rows.DevicePlaysSaid := over
#print axioms proved
end Go.Proofs.Ytleemgjbihdbgaa.devicePlays
