/-
  The program's rows of decided sectors: what a row takes, Row: by contract.
-/
import Derived.Test.YtjdacpnfgpdjhaaDoorDecPrA
import Derived.Test.YtjdacpnfgpdjhaaDoorDecLasts
import Derived.Test.YtjdacpnfgpdjhaaDoorOwnRows
import Derived.Test.YtjdacpnfgpdjhaaDoorOwnFresh
import Derived.Test.YtjdacpnfgpdjhaaDoorHeldTo
import Derived.Maps.AppendAt
namespace Go.Proofs.YtjdacpnfgpdjhaaDoor
open Go.RowKit
set_option linter.unusedVariables false
set_option linter.unusedSimpArgs false

theorem Only.grown {w w1 w2 : World} {b : Nat} {row : Option Nat} (h : Only b w w1) (hg : w1.grownBy w2 row) (hr : ∀ k, row = some k → w.heap.size ≤ k) : Only b w w2 :=
  ⟨hg.os.trans h.os, hg.tape.trans h.tape, hg.output.trans h.output, Nat.le_trans h.size hg.size, fun i hi hne => (hg.block i (Nat.lt_of_lt_of_le hi h.size) (by intro e; have := hr i e.symm; omega)).trans (h.block i hi hne)⟩
theorem rdr_held {w : World} {b k c4 : Nat} {T : TypeId} {A4 : Option Addr} {ck cb cs cd ca cl ch cm : Int} {tx : ByteArray} {yx : Bool} {R : List Value} (h : RdrAt w b T ⟨ck, cb, cs, cd, ca, cl, ch, cm⟩ tx yx (.slice A4 k c4 :: R)) :
    w.cell? ⟨b, 10, none⟩ = some (.slice A4 k c4) ∧ w.cell? ⟨b, 0, none⟩ = some (.int .i8 ck) ∧ w.cell? ⟨b, 1, none⟩ = some (.int .i64 cb) ∧ w.cell? ⟨b, 2, none⟩ = some (.int .i64 cs) ∧ w.cell? ⟨b, 3, none⟩ = some (.int .i64 cd) ∧ w.cell? ⟨b, 4, none⟩ = some (.int .i64 ca) ∧ w.cell? ⟨b, 5, none⟩ = some (.int .i64 cl) ∧ w.cell? ⟨b, 6, none⟩ = some (.int .i64 ch) ∧ w.cell? ⟨b, 7, none⟩ = some (.int .i8 cm) := by
  obtain ⟨c0, c1, c2, c3, c4, c5, c6, c7, _⟩ := h.cells
  exact ⟨h.next, c0, c1, c2, c3, c4, c5, c6, c7⟩
theorem rdr_grown {w w' : World} {b B n size : Nat} {T e : TypeId} {c : CmdM} {s : ByteArray} {y : Bool} {R xs : List Value} {v : Value} (h : RdrAt w b T c s y R) (hg : w.grownBy w' v.ownBlock) (ho : w.ownsRow B e size v n xs) (hb : b < B) : RdrAt w' b T c s y R :=
  (hg.block b h.lt (by intro e; have := (ho.lt b e.symm).1; omega)).trans h
/-- What a row comes to, told by the row's own block. -/
def TakePost (l : List ByteArray) (b B : Nat) (T : TypeId) (R : List Value) (e : Ending) (w' : World) : Prop :=
  (rowO l = none ∧ e = .returned (.int .i64 50) ∧ ∃ c t y, RdrAt w' b T c t y (.slice none 0 0 :: R)) ∨
    (∃ m v, rowO l = some m ∧ e = .returned (.int .i64 0) ∧ (∃ c t y, RdrAt w' b T c t y (v :: R)) ∧ w'.ownsRow B 32 8 v m.length (cmdV m))

set_option maxRecDepth 100000 in
set_option maxHeartbeats 2000000 in
theorem dtake_any (b : Nat) (T : TypeId) (R : List Value) (cc : CmdM) (tt : ByteArray) (yy : Bool) (A : Option Addr) (n c : Nat) (l : List ByteArray) (w : World) (hP : RdrAt w b T cc tt yy (.slice none 0 0 :: R)) (h0 : 0 < b) (hA : Lies w b A n (l.map Value.string)) (hn : n ≤ 1099511627776) (hsz : ∀ s ∈ l, s.size ≤ maxLen) (ht : TabOk w) :
    Calls Tryd.prog 29 #[.pointer (some ⟨b, 0, none⟩), .slice A n c] w fun e w' => TakePost l b w.heap.size T R e w' ∧ Only b w w' := by
  have HL : Hid (l.length = n) := by show _ = _; have := hA.1; simpa using this
  have hbw := hP.lt
  have HA : Hid (∀ W, Only b w W → Lies W b A n (l.map Value.string)) := fun W h => hA.below (h.below (Nat.le_of_lt hbw) (Nat.le_refl _))
  have HT : Hid (∀ W, Only b w W → TabOk W) := fun W h => ht.only h h0
  have HZ := Lib.hid hsz
  obtain ⟨i0, hi0, hz0, hz1, hz2⟩ := info_parts tinfoCmd
  clear hA hsz ht
  go_enter Tryd.func29, Tryd.ntmps29
  go_wp2_with fail
  go_loopw [10] (fun i wr => ∃ k : Nat, k ≤ n ∧ i = .int .i64 k ∧ (∃ c t y v, RdrAt wr b T c t y (v :: R) ∧ wr.ownsRow w.heap.size 32 8 v k (cmdV (rowK l k))) ∧ Hid (∀ (j : Nat) (hj : j < l.length), j < k → dRd l[j] = true) ∧ Only b w wr) (fun i _ => n - (intOf i).toNat)
  case atStart => exact ⟨0, Nat.zero_le _, rfl, ⟨_, _, _, _, hP, World.ownsRow_nil _ _ _ _⟩, fun j _ hj => by omega, Only.refl _ _⟩
  case round =>
    clear hP
    obtain ⟨k, hk, rfl, ⟨c1, t1, y1, v1, P1, own⟩, HD, O1⟩ := hrel
    have hsz := O1.size
    obtain ⟨A4, c4, e4, _, _⟩ := ow_shape own
    subst e4
    by_cases hlt : k < n
    · have hkl : k < l.length := by rw [HL.out]; exact hlt
      obtain ⟨ad, u1, e1, had, hu1, hcell⟩ := (HA.out _ O1).at_ hlt
      subst e1
      obtain ⟨s, hs⟩ : ∃ s, l[k] = s := ⟨_, rfl⟩
      have HX : Hid (∃ h : k < l.length, l[k] = s) := ⟨hkl, hs⟩
      have hu2 : u1 = .string s := by
        rw [List.getElem?_map, List.getElem?_eq_getElem hkl, hs] at hu1
        simpa using hu1.symm
      subst hu2
      have hsM : s.size ≤ maxLen := HZ.out s (hs ▸ List.getElem_mem hkl)
      have hlr : ad.block < wr.heap.size := by omega
      have ht1 := HT.out _ O1
      clear hu1 hs hkl had
      go_wp2_with fail
      refine (rread_any b T c1 t1 y1 (.slice A4 k c4 :: R) s _ P1 h0 hsM ht1).mono ?_
      rintro e w2 ⟨rfl, P2, hO2⟩
      have own2 := ow_only own hO2 hbw
      have O2 := O1.trans hO2
      clear own hO2 O1 P1 hcell hsM hlr ht1 hsz
      obtain ⟨⟨ck, cb, cs, cd, ca, cl, ch, cm⟩, hc⟩ : ∃ c, Hid (drC s = c) := ⟨_, rfl⟩
      obtain ⟨tx, htx⟩ : ∃ t, Hid (drS s = t) := ⟨_, rfl⟩
      obtain ⟨yx, hyx⟩ : ∃ t, Hid (dRd s = t) := ⟨_, rfl⟩
      rw [hc.out, htx.out, hyx.out] at P2
      have hw2 := O2.size
      by_cases he : s = ⟨#[]⟩
      · have HV : Hid (rowO l = some (rowK l k)) := rowO_stop HX.out.1 (fun j hj hjk => HD.out j hj hjk) (HX.out.2.trans he)
        have HV2 := Lib.hid (dr_none he)
        obtain rfl : yx = false := by rw [← hyx.out]; exact HV2.out.2.2.1
        have HO : Hid (TakePost l b w.heap.size T R (.returned (.int .i64 0)) w2) := .inr ⟨_, _, HV.out, rfl, ⟨_, _, _, P2⟩, by rw [rowK_length (by have := HX.out.1; omega)]; exact own2⟩
        have c9 := P2.cells.2.2.2.2.2.2.2.2.2
        have hl2 := P2.lt
        rw [HV2.out.2.2.2]
        clear he own2 P2
        go_wp2_with fail
        go_ret
        exact ⟨HO.out, O2⟩
      · cases hd : dRd s with
        | false =>
          have HV : Hid (rowO l = none) := rowO_bad HX.out.1 (fun j hj hjk => HD.out j hj hjk) (by rw [HX.out.2]; exact he) (by rw [HX.out.2]; exact hd)
          have HV2 := Lib.hid (dr_bad hd he)
          have P3 := P2.setNext (.slice none 0 0)
          have O3 := O2.setAt 10 (.slice none 0 0)
          have HO : Hid (TakePost l b w.heap.size T R (.returned (.int .i64 50)) (w2.setCell ⟨b, 10, none⟩ (.slice none 0 0))) := .inl ⟨HV.out, rfl, ⟨_, _, _, P3⟩⟩
          have c10 := P2.next
          have f10 := P2.free 10
          have hl2 := P2.lt
          rw [HV2.out.2.2]
          clear he hd own2 P2 P3 O2
          go_wp2_with fail
          go_ret
          exact ⟨HO.out, O3⟩
        | true =>
          have HV2 := Lib.hid (dr_yes hd)
          have HD' : Hid (∀ (j : Nat) (hj : j < l.length), j < k + 1 → dRd l[j] = true) := fun j hj hjk => by
            by_cases e : j = k
            · subst e
              rw [HX.out.2]; exact hd
            · exact HD.out j hj (by omega)
          have HK : Hid (rowK l (k + 1) = rowK l k ++ [⟨ck, cb, cs, cd, ca, cl, ch, cm⟩]) := by
            show _ = _
            rw [rowK_succ HX.out.1, HX.out.2, ← HV2.out.1, hc.out]
          obtain rfl : yx = true := by rw [← hyx.out]; exact hd
          have c9 := P2.cells.2.2.2.2.2.2.2.2.2
          have hl2 := P2.lt
          rw [HV2.out.2.2]
          clear he hd
          go_upto_region 9 with fail
          clear c9
          have hS2 : Hid (∀ X, Below w2.heap.size w2 X → X.cell? ⟨b, 10, none⟩ = some (.slice A4 k c4) ∧ X.cell? ⟨b, 0, none⟩ = some (.int .i8 ck) ∧ X.cell? ⟨b, 1, none⟩ = some (.int .i64 cb) ∧ X.cell? ⟨b, 2, none⟩ = some (.int .i64 cs) ∧ X.cell? ⟨b, 3, none⟩ = some (.int .i64 cd) ∧ X.cell? ⟨b, 4, none⟩ = some (.int .i64 ca) ∧ X.cell? ⟨b, 5, none⟩ = some (.int .i64 cl) ∧ X.cell? ⟨b, 6, none⟩ = some (.int .i64 ch) ∧ X.cell? ⟨b, 7, none⟩ = some (.int .i8 cm)) := fun X h => rdr_held (P2.below h P2.lt)
          obtain ⟨V0, zV0⟩ : ∃ V, V = w2.drew := ⟨_, rfl⟩
          have up0 : Below w2.heap.size w2 V0 := zV0 ▸ (Below.refl _ _).drew
          have hHeld := hS2.out _ up0
          refine wp_region_to (S := (fun X => X.cell? ⟨b, 10, none⟩ = some (.slice A4 k c4) ∧ X.cell? ⟨b, 0, none⟩ = some (.int .i8 ck) ∧ X.cell? ⟨b, 1, none⟩ = some (.int .i64 cb) ∧ X.cell? ⟨b, 2, none⟩ = some (.int .i64 cs) ∧ X.cell? ⟨b, 3, none⟩ = some (.int .i64 cd) ∧ X.cell? ⟨b, 4, none⟩ = some (.int .i64 ca) ∧ X.cell? ⟨b, 5, none⟩ = some (.int .i64 cl) ∧ X.cell? ⟨b, 6, none⟩ = some (.int .i64 ch) ∧ X.cell? ⟨b, 7, none⟩ = some (.int .i8 cm))) 14 (by kernel_rfl) (by rw [← zV0]; exact hHeld) (fun _ => ?_)
          rw [← zV0]
          clear zV0
          refine wpAnyM_take (i := 0) (oi := ⟨some 31, _, _, _, _, _⟩) (v := ?_) rfl (by kernel_rfl) (by kernel_rfl) (by kernel_rfl) (fun _ _ _ h => h) (by decide) (by kernel_rfl) (by kernel_rfl) (Or.inl ⟨by rfl, ?_⟩) (fun _ => hHeld) ?_
          rotate_left
          focus (intro wq hSq; (try dsimp only at hSq); go_simp; try with_reducible rfl)
          try simp only [Act.put, List.setIfInBounds_toArray, List.set_cons_zero, List.set_cons_succ]
          refine wpAnyM_take (i := 1) (oi := ⟨some 32, _, _, _, _, _⟩) (v := ?_) rfl (by kernel_rfl) (by kernel_rfl) (by kernel_rfl) (fun _ _ _ h => h) (by decide) (by kernel_rfl) (by kernel_rfl) (Or.inl ⟨by rfl, ?_⟩) (fun _ => hHeld) ?_
          rotate_left
          focus (intro wq hSq; (try dsimp only at hSq); go_simp; try with_reducible rfl)
          try simp only [Act.put, List.setIfInBounds_toArray, List.set_cons_zero, List.set_cons_succ]
          refine wpAnyM_take (i := 2) (oi := ⟨some 33, _, _, _, _, _⟩) (v := ?_) rfl (by kernel_rfl) (by kernel_rfl) (by kernel_rfl) (fun _ _ _ h => h) (by decide) (by kernel_rfl) (by kernel_rfl) (Or.inl ⟨by rfl, ?_⟩) (fun _ => hHeld) ?_
          rotate_left
          focus (intro wq hSq; (try dsimp only at hSq); go_simp; try with_reducible rfl)
          try simp only [Act.put, List.setIfInBounds_toArray, List.set_cons_zero, List.set_cons_succ]
          refine wpAnyM_take (i := 3) (oi := ⟨some 34, _, _, _, _, _⟩) (v := ?_) rfl (by kernel_rfl) (by kernel_rfl) (by kernel_rfl) (fun _ _ _ h => h) (by decide) (by kernel_rfl) (by kernel_rfl) (Or.inl ⟨by rfl, ?_⟩) (fun _ => hHeld) ?_
          rotate_left
          focus (intro wq hSq; (try dsimp only at hSq); go_simp; try with_reducible rfl)
          try simp only [Act.put, List.setIfInBounds_toArray, List.set_cons_zero, List.set_cons_succ]
          refine wpAnyM_take (i := 4) (oi := ⟨some 35, _, _, _, _, _⟩) (v := ?_) rfl (by kernel_rfl) (by kernel_rfl) (by kernel_rfl) (fun _ _ _ h => h) (by decide) (by kernel_rfl) (by kernel_rfl) (Or.inl ⟨by rfl, ?_⟩) (fun _ => hHeld) ?_
          rotate_left
          focus (intro wq hSq; (try dsimp only at hSq); go_simp; try with_reducible rfl)
          try simp only [Act.put, List.setIfInBounds_toArray, List.set_cons_zero, List.set_cons_succ]
          refine wpAnyM_take (i := 5) (oi := ⟨some 36, _, _, _, _, _⟩) (v := ?_) rfl (by kernel_rfl) (by kernel_rfl) (by kernel_rfl) (fun _ _ _ h => h) (by decide) (by kernel_rfl) (by kernel_rfl) (Or.inl ⟨by rfl, ?_⟩) (fun _ => hHeld) ?_
          rotate_left
          focus (intro wq hSq; (try dsimp only at hSq); go_simp; try with_reducible rfl)
          try simp only [Act.put, List.setIfInBounds_toArray, List.set_cons_zero, List.set_cons_succ]
          refine wpAnyM_take (i := 6) (oi := ⟨some 37, _, _, _, _, _⟩) (v := ?_) rfl (by kernel_rfl) (by kernel_rfl) (by kernel_rfl) (fun _ _ _ h => h) (by decide) (by kernel_rfl) (by kernel_rfl) (Or.inl ⟨by rfl, ?_⟩) (fun _ => hHeld) ?_
          rotate_left
          focus (intro wq hSq; (try dsimp only at hSq); go_simp; try with_reducible rfl)
          try simp only [Act.put, List.setIfInBounds_toArray, List.set_cons_zero, List.set_cons_succ]
          refine wpAnyM_take (i := 7) (oi := ⟨some 38, _, _, _, _, _⟩) (v := ?_) rfl (by kernel_rfl) (by kernel_rfl) (by kernel_rfl) (fun _ _ _ h => h) (by decide) (by kernel_rfl) (by kernel_rfl) (Or.inl ⟨by rfl, ?_⟩) (fun _ => hHeld) ?_
          rotate_left
          focus (intro wq hSq; (try dsimp only at hSq); go_simp; try with_reducible rfl)
          try simp only [Act.put, List.setIfInBounds_toArray, List.set_cons_zero, List.set_cons_succ]
          refine wpAnyM_take (i := 8) (oi := ⟨some 39, _, _, _, _, _⟩) (v := ?_) rfl (by kernel_rfl) (by kernel_rfl) (by kernel_rfl) (fun _ _ _ h => h) (by decide) (by kernel_rfl) (by kernel_rfl) (Or.inl ⟨by rfl, ?_⟩) (fun _ => hHeld) ?_
          rotate_left
          focus (intro wq hSq; (try dsimp only at hSq); go_simp; try with_reducible rfl)
          try simp only [Act.put, List.setIfInBounds_toArray, List.set_cons_zero, List.set_cons_succ]
          refine wpAnyM_take (i := 9) (oi := ⟨some 40, _, _, _, _, _⟩) (v := ?_) rfl (by kernel_rfl) (by kernel_rfl) (by kernel_rfl) (fun _ _ _ h => h) (by decide) (by kernel_rfl) (by kernel_rfl) (Or.inl ⟨by rfl, ?_⟩) (fun _ => hHeld) ?_
          rotate_left
          focus (intro wq hSq; (try dsimp only at hSq); go_simp; try with_reducible rfl)
          try simp only [Act.put, List.setIfInBounds_toArray, List.set_cons_zero, List.set_cons_succ]
          have bV1 := new_alloc V0 (.cells #[.int .i8 ck, .int .i64 cb, .int .i64 cs, .int .i64 cd, .int .i64 ca, .int .i64 cl, .int .i64 ch, .int .i8 cm] 32)
          refine wpAnyM_ready (rs := [10]) (by kernel_rfl) (by simp) ?_
          refine AllReadyM.cons (o := ⟨some 41, _, _, _, _, _⟩) rfl (fun K hK => ?_) AllReadyM.nil
          go_simp
          refine hK.out _ _ (fun _ => hS2.out _ (below_then up0 bV1)) (fun _ => ?_)
          clear hK K
          try simp only [Act.put, List.setIfInBounds_toArray, List.set_cons_zero, List.set_cons_succ]
          have hcz := cmd_cell_new V0 ⟨ck, cb, cs, cd, ca, cl, ch, cm⟩ 32
          rw [show cmdA ⟨ck, cb, cs, cd, ca, cl, ch, cm⟩ = #[.int .i8 ck, .int .i64 cb, .int .i64 cs, .int .i64 cd, .int .i64 ca, .int .i64 cl, .int .i64 ch, .int .i8 cm] from rfl] at hcz
          obtain ⟨V1, zV1⟩ : ∃ V, V = V0.alloc (.cells #[.int .i8 ck, .int .i64 cb, .int .i64 cs, .int .i64 cd, .int .i64 ca, .int .i64 cl, .int .i64 ch, .int .i8 cm] 32) := ⟨_, rfl⟩
          rw [← zV1] at bV1 hcz ⊢
          clear zV1
          have up1 := below_then up0 bV1
          have hOwn1 := ow_up own2 up1
          obtain ⟨v5, V2, hrun, hown5, hg5, _, hat⟩ := run_append_own_at (P := Tryd.prog) V1 w.heap.size 23 23 32 i0 _ 8 64 Tryd.underlying23 hi0 hz0 hz1 hz2 rfl (by omega) _ k _ hOwn1 ⟨V0.heap.size, 0, none⟩ 1 1 (cmdV [⟨ck, cb, cs, cd, ca, cl, ch, cm⟩]) rfl hcz (cmdV_one _) (by unfold maxLen; omega) (by omega) (by have := O2.size; have := up1.size; omega)
          have P3 : RdrAt V2 b T ⟨ck, cb, cs, cd, ca, cl, ch, cm⟩ tx true (.slice A4 k c4 :: R) := rdr_grown (P2.below up1 P2.lt) hg5 hOwn1 hbw
          have hHeld2 := rdr_held P3
          refine wpAnyM_ready (rs := [11]) (by kernel_rfl) (by simp) ?_
          refine AllReadyM.cons (o := ⟨some 42, _, _, _, _, _⟩) rfl (fun K hK => ?_) AllReadyM.nil
          refine step_append rfl (.tmp 35) (.tmp 41) 23 rfl (by simp [Act.eval, Act.put]) (by simp [Act.eval, Act.put]) hrun ?_
          refine hK.out _ _ (fun _ => hHeld2) (fun _ => ?_)
          clear hK K
          try simp only [Act.put, List.setIfInBounds_toArray, List.set_cons_zero, List.set_cons_succ]
          refine wpAnyM_takeA (i := 12) (oi := ⟨some 43, _, _, _, _, _⟩) (v := ?_) rfl (by kernel_rfl) (by kernel_rfl) (by kernel_rfl) (fun _ _ _ h => h) (by decide) (Or.inl ⟨by rfl, ?_⟩) (fun _ => hHeld2) ?_
          rotate_left
          focus (intro wq hSq; go_simp; try with_reducible rfl)
          try simp only [Act.put, List.setIfInBounds_toArray, List.set_cons_zero, List.set_cons_succ]
          refine wpAnyM_takeA (i := 13) (oi := ⟨some 44, _, _, _, _, _⟩) (v := ?_) rfl (by kernel_rfl) (by kernel_rfl) (by kernel_rfl) (fun _ _ _ h => h) (by decide) (Or.inl ⟨by rfl, ?_⟩) (fun _ => hHeld2) ?_
          rotate_left
          focus (intro wq hSq; go_simp; try with_reducible rfl)
          try simp only [Act.put, List.setIfInBounds_toArray, List.set_cons_zero, List.set_cons_succ]
          obtain ⟨A5, c5, e5, _, _⟩ := ow_shape hown5
          subst e5
          have f2 := P3.free 10
          have lp2 := P3.lt
          have cp2 := hHeld2.1
          refine wpAnyM_ready (rs := [14]) (by kernel_rfl) (by simp) ?_
          refine AllReadyM.cons (o := ⟨none, _, _, _, _, _⟩) rfl (fun K hK => ?_) AllReadyM.nil
          go_simp
          refine hK.out _ _ (fun h => dnot_yet (by kernel_rfl) h) (fun _ => ?_)
          clear hK K
          try simp only [Act.put, List.setIfInBounds_toArray, List.set_cons_zero, List.set_cons_succ]
          refine wpAnyM_done (by kernel_rfl) ?_ _
          have P5 := P3.setNext (.slice A5 (k + 1) c5)
          have O5 := ((O2.trans (Only.of_below up1 b)).grown hg5 (fun j hj => (hOwn1.lt j hj).1)).setAt 10 (.slice A5 (k + 1) c5)
          have hown6 : (V2.setCell ⟨b, 10, none⟩ (.slice A5 (k + 1) c5)).ownsRow w.heap.size 32 8 (.slice A5 (k + 1) c5) (k + 1) (cmdV (rowK l (k + 1))) := by
            rw [HK.out, cmdV_append]
            exact ow_only hown5 ((Only.refl b V2).setAt 10 _) hbw
          obtain ⟨W5, hW5⟩ : ∃ W, W = V2.setCell ⟨b, 10, none⟩ (.slice A5 (k + 1) c5) := ⟨_, rfl⟩
          rw [← hW5] at P5 O5 hown6 ⊢
          clear hW5 hown5 hg5 hat hcz P2 P3 hOwn1 hrun hS2 hHeld hHeld2 up0 up1 bV1 f2 lp2 cp2 O2 own2
          go_wp2_with fail
          go_roundw
          case rel => exact ⟨k + 1, by omega, by go_num, ⟨_, _, _, _, P5, hown6⟩, HD', O5⟩
          case measure => simp [intOf]; omega
    · have hkn : k = n := by omega
      have HV : Hid (rowO l = some (rowK l l.length)) := rowO_all fun j hj => HD.out j hj (by have := HL.out; omega)
      have HO : Hid (TakePost l b w.heap.size T R (.returned (.int .i64 0)) wr) := .inr ⟨_, _, HV.out, rfl, ⟨_, _, _, P1⟩, by rw [rowK_length (Nat.le_refl _), HL.out, ← hkn]; exact own⟩
      clear hlt own P1
      go_wp2_with fail
      go_ret
      exact ⟨HO.out, O1⟩

set_option maxRecDepth 100000 in
set_option maxHeartbeats 1000000 in
theorem dRow_any (A : Option Addr) (n c : Nat) (l : List ByteArray) (w : World) (hA : Lies w w.heap.size A n (l.map Value.string)) (hn : n ≤ 1099511627776) (hsz : ∀ s ∈ l, s.size ≤ maxLen) (ht : TabOk w) :
    Calls Tryd.prog 12 #[.slice A n c] w fun e w' => RowDPost l w.heap.size e w' ∧ Below w.heap.size w w' := by
  obtain ⟨W0, hW⟩ : ∃ W0, W0 = w.alloc (.cells #[.int .i8 0, .int .i64 0, .int .i64 0, .int .i64 0, .int .i64 0, .int .i64 0, .int .i64 0, .int .i8 0, .string ⟨#[]⟩, .bool false, .slice none 0 0] 63) := ⟨_, rfl⟩
  have hb0 : Below w.heap.size w W0 := hW ▸ new_alloc w _
  have hsz0 : W0.heap.size = w.heap.size + 1 := by rw [hW]; simp
  have P0 : RdrAt W0 w.heap.size 63 zeroC ⟨#[]⟩ false (.slice none 0 0 :: []) := hW ▸ Blk.new w _ _
  have HT := Lib.hid (dtake_any w.heap.size 63 [] zeroC ⟨#[]⟩ false A n c l W0 P0 ht.1 (hA.below hb0) hn hsz (ht.below hb0))
  clear hA hsz ht P0
  go_enter Tryd.func12, Tryd.ntmps12
  go_upto_region 2 with fail
  rw [← hW]
  clear hW
  go_wp2_with fail
  refine HT.out.mono ?_
  rintro e w2 ⟨h2, hO2⟩
  have b2 : Below w.heap.size w w2 := hb0.trans (hO2.below (by omega) (Nat.le_refl _))
  rcases h2 with ⟨h2, rfl, c2, t2, y2, P2⟩ | ⟨m, v, h2, rfl, ⟨c2, t2, y2, P2⟩, own2⟩
  · have HV := Lib.hid h2
    have c10 := P2.next
    have hl2 := P2.lt
    clear HT P2 hO2 h2
    go_wp2_with fail
    go_ret2
    exact ⟨.inl ⟨HV.out, rfl⟩, b2⟩
  · obtain ⟨A5, c5, e5, _, _⟩ := ow_shape own2
    subst e5
    have HO : Hid (RowDPost l w.heap.size (.returned (.tuple #[.slice A5 m.length c5, .int .i64 0])) w2) := .inr ⟨m, _, h2, rfl, ow_less own2 (by omega)⟩
    have c10 := P2.next
    have hl2 := P2.lt
    clear HT P2 hO2 h2 own2
    go_wp2_with fail
    go_ret2
    exact ⟨HO.out, b2⟩

end Go.Proofs.YtjdacpnfgpdjhaaDoor
