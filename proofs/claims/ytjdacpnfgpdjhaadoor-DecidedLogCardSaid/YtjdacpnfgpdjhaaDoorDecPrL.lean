/-
  The program's log of a device, whole: by contract.
-/
import Derived.Test.YtjdacpnfgpdjhaaDoorDecPrLB
namespace Go.Proofs.YtjdacpnfgpdjhaaDoor
open Go.RowKit
set_option linter.unusedVariables false
set_option linter.unusedSimpArgs false

set_option maxRecDepth 100000 in
set_option maxHeartbeats 4000000 in
theorem dLog_core (g : G) (D : Dev) (b : Bool) (w : World) (aS : Option Addr) (nS cS : Nat) (aC : Option Addr) (nC cC : Nat) (aK : Option Addr) (nK cK : Nat) (aF : Option Addr) (nF cF : Nat) (dn : Int) (hn : D.S.length = nS) (C1 : ∀ W, Below w.heap.size w W → Calls Tryd.prog 69 #[.agg #[.slice aS nS cS, .slice aC nC cC, .slice aK nK cK, .int .i64 dn, .slice aF nF cF]] W fun e w' => e = .returned (.int .i64 (if b then 0 else 2)) ∧ Below W.heap.size W w') (hSl : Lies w w.heap.size aS nS (strV D.S)) (hSc : nS ≤ cS) (hSm : cS ≤ maxLen) (hS : nS ≤ 1099511627776) (hsz : ∀ s ∈ D.S, s.size ≤ maxLen) (ht : TabOk w) :
    Calls Tryd.prog 18 #[.agg #[.int .i64 g.N, .int .i64 g.S, .int .i64 g.B, .int .i64 g.P, .int .i64 g.J, .int .i64 g.L, .int .i64 g.E, .int .i64 g.T], .agg #[.slice aS nS cS, .slice aC nC cC, .slice aK nK cK, .int .i64 dn, .slice aF nF cF]] w fun e w' => LogPost g D b w.heap.size e w' ∧ Below w.heap.size w w' := by
  obtain ⟨W0, hW⟩ : ∃ W0, W0 = (w.alloc (.cells #[.int .i64 g.N, .int .i64 g.S, .int .i64 g.B, .int .i64 g.P, .int .i64 g.J, .int .i64 g.L, .int .i64 g.E, .int .i64 g.T] 43)).alloc (.cells #[.slice aS nS cS, .slice aC nC cC, .slice aK nK cK, .int .i64 dn, .slice aF nF cF] 46) := ⟨_, rfl⟩
  have hb0 : Below w.heap.size w W0 := by rw [hW]; exact ((Below.refl _ _).alloc (Nat.le_refl _) _).alloc (by simp) _
  have hlt : W0.heap.size = w.heap.size + 2 := by rw [hW]; simp
  have pg : Blk W0 w.heap.size #[.int .i64 g.N, .int .i64 g.S, .int .i64 g.B, .int .i64 g.P, .int .i64 g.J, .int .i64 g.L, .int .i64 g.E, .int .i64 g.T] 43 := by rw [hW]; exact (Blk.new w _ _).alloc _
  have pd : Blk W0 (w.heap.size + 1) #[.slice aS nS cS, .slice aC nC cC, .slice aK nK cK, .int .i64 dn, .slice aF nF cF] 46 := by
    have h := Blk.new (w.alloc (.cells #[.int .i64 g.N, .int .i64 g.S, .int .i64 g.B, .int .i64 g.P, .int .i64 g.J, .int .i64 g.L, .int .i64 g.E, .int .i64 g.T] 43)) #[.slice aS nS cS, .slice aC nC cC, .slice aK nK cK, .int .i64 dn, .slice aF nF cF] 46
    have e : (w.alloc (.cells #[.int .i64 g.N, .int .i64 g.S, .int .i64 g.B, .int .i64 g.P, .int .i64 g.J, .int .i64 g.L, .int .i64 g.E, .int .i64 g.T] 43)).heap.size = w.heap.size + 1 := by simp
    rw [e] at h
    rw [hW]
    exact h
  have bz : Below W0.heap.size W0 (W0.alloc (.cells #[.int .i8 0, .int .i64 0, .int .i64 0, .int .i64 0, .int .i64 0, .int .i64 0, .int .i64 0, .int .i8 0, .string ⟨#[]⟩, .bool false, .slice none 0 0, .int .i64 0, .int .i64 0, .int .i64 0, .int .i64 0, .int .i64 0, .int .i64 0, .int .i64 0, .int .i64 0, .slice none 0 0, .slice none 0 0, .slice none 0 0, .int .i64 0, .slice none 0 0] 67)) := new_alloc W0 _
  have pz := Blk.new W0 #[.int .i8 0, .int .i64 0, .int .i64 0, .int .i64 0, .int .i64 0, .int .i64 0, .int .i64 0, .int .i8 0, .string ⟨#[]⟩, .bool false, .slice none 0 0, .int .i64 0, .int .i64 0, .int .i64 0, .int .i64 0, .int .i64 0, .int .i64 0, .int .i64 0, .int .i64 0, .slice none 0 0, .slice none 0 0, .slice none 0 0, .int .i64 0, .slice none 0 0] 67
  have hth := pz.there
  have ep : putA #[.int .i8 0, .int .i64 0, .int .i64 0, .int .i64 0, .int .i64 0, .int .i64 0, .int .i64 0, .int .i8 0, .string ⟨#[]⟩, .bool false, .slice none 0 0, .int .i64 0, .int .i64 0, .int .i64 0, .int .i64 0, .int .i64 0, .int .i64 0, .int .i64 0, .int .i64 0, .slice none 0 0, .slice none 0 0, .slice none 0 0, .int .i64 0, .slice none 0 0] 0 (#[.int .i8 0, .int .i64 0, .int .i64 0, .int .i64 0, .int .i64 0, .int .i64 0, .int .i64 0, .int .i8 0, .string ⟨#[]⟩, .bool false, .slice none 0 0, .int .i64 g.N, .int .i64 g.S, .int .i64 g.B, .int .i64 g.P, .int .i64 g.J, .int .i64 g.L, .int .i64 g.E, .int .i64 g.T, .slice aS nS cS, .slice aC nC cC, .slice aK nK cK, .int .i64 dn, .slice aF nF cF]).toList = (rdL zeroC ⟨#[]⟩ false ++ (Value.slice none 0 0 :: ([.int .i64 g.N, .int .i64 g.S, .int .i64 g.B, .int .i64 g.P, .int .i64 g.J, .int .i64 g.L, .int .i64 g.E, .int .i64 g.T, .slice aS nS cS, .slice aC nC cC, .slice aK nK cK, .int .i64 dn, .slice aF nF cF] : List Value))).toArray := by simp [putA, rdL, zeroC]
  have pq := Blk.puts (o := 0) (#[.int .i8 0, .int .i64 0, .int .i64 0, .int .i64 0, .int .i64 0, .int .i64 0, .int .i64 0, .int .i8 0, .string ⟨#[]⟩, .bool false, .slice none 0 0, .int .i64 g.N, .int .i64 g.S, .int .i64 g.B, .int .i64 g.P, .int .i64 g.J, .int .i64 g.L, .int .i64 g.E, .int .i64 g.T, .slice aS nS cS, .slice aC nC cC, .slice aK nK cK, .int .i64 dn, .slice aF nF cF]).toList pz
  rw [ep] at pq
  have b1 : Below W0.heap.size W0 ((W0.alloc (.cells #[.int .i8 0, .int .i64 0, .int .i64 0, .int .i64 0, .int .i64 0, .int .i64 0, .int .i64 0, .int .i8 0, .string ⟨#[]⟩, .bool false, .slice none 0 0, .int .i64 0, .int .i64 0, .int .i64 0, .int .i64 0, .int .i64 0, .int .i64 0, .int .i64 0, .int .i64 0, .slice none 0 0, .slice none 0 0, .slice none 0 0, .int .i64 0, .slice none 0 0] 67)).setCells W0.heap.size 0 (#[.int .i8 0, .int .i64 0, .int .i64 0, .int .i64 0, .int .i64 0, .int .i64 0, .int .i64 0, .int .i8 0, .string ⟨#[]⟩, .bool false, .slice none 0 0, .int .i64 g.N, .int .i64 g.S, .int .i64 g.B, .int .i64 g.P, .int .i64 g.J, .int .i64 g.L, .int .i64 g.E, .int .i64 g.T, .slice aS nS cS, .slice aC nC cC, .slice aK nK cK, .int .i64 dn, .slice aF nF cF]).toList) := setCells_below _ 0 bz (Nat.le_refl _)
  obtain ⟨W1, hW1⟩ : ∃ W, W = (W0.alloc (.cells #[.int .i8 0, .int .i64 0, .int .i64 0, .int .i64 0, .int .i64 0, .int .i64 0, .int .i64 0, .int .i8 0, .string ⟨#[]⟩, .bool false, .slice none 0 0, .int .i64 0, .int .i64 0, .int .i64 0, .int .i64 0, .int .i64 0, .int .i64 0, .int .i64 0, .int .i64 0, .slice none 0 0, .slice none 0 0, .slice none 0 0, .int .i64 0, .slice none 0 0] 67)).setCells W0.heap.size 0 (#[.int .i8 0, .int .i64 0, .int .i64 0, .int .i64 0, .int .i64 0, .int .i64 0, .int .i64 0, .int .i8 0, .string ⟨#[]⟩, .bool false, .slice none 0 0, .int .i64 g.N, .int .i64 g.S, .int .i64 g.B, .int .i64 g.P, .int .i64 g.J, .int .i64 g.L, .int .i64 g.E, .int .i64 g.T, .slice aS nS cS, .slice aC nC cC, .slice aK nK cK, .int .i64 dn, .slice aF nF cF]).toList := ⟨_, rfl⟩
  rw [← hW1] at pq b1
  have p1 : RdrAt W1 W0.heap.size 67 zeroC ⟨#[]⟩ false (.slice none 0 0 :: [.int .i64 g.N, .int .i64 g.S, .int .i64 g.B, .int .i64 g.P, .int .i64 g.J, .int .i64 g.L, .int .i64 g.E, .int .i64 g.T, .slice aS nS cS, .slice aC nC cC, .slice aK nK cK, .int .i64 dn, .slice aF nF cF]) := pq
  have hz1 := b1.size
  have b01 := hb0.trans (b1.mono (by omega))
  have HA := Lib.hid (dtakeAll_any g D b W0.heap.size zeroC ⟨#[]⟩ false aS nS cS (.slice aC nC cC) (.slice aK nK cK) (.slice aF nF cF) dn W1 p1 hn (Lib.hid fun W h => C1 W (b01.trans (h.mono (by omega)))) (by omega) ((hSl.up hb0 (Nat.le_refl _)).below b1) hSc hSm hS hsz (ht.below b01))
  clear pq ep
  obtain ⟨g0, g1, g2, g3, g4, g5, g6, g7⟩ : W0.cell? ⟨w.heap.size, 0, none⟩ = some (.int .i64 g.N) ∧ W0.cell? ⟨w.heap.size, 1, none⟩ = some (.int .i64 g.S) ∧ W0.cell? ⟨w.heap.size, 2, none⟩ = some (.int .i64 g.B) ∧ W0.cell? ⟨w.heap.size, 3, none⟩ = some (.int .i64 g.P) ∧ W0.cell? ⟨w.heap.size, 4, none⟩ = some (.int .i64 g.J) ∧ W0.cell? ⟨w.heap.size, 5, none⟩ = some (.int .i64 g.L) ∧ W0.cell? ⟨w.heap.size, 6, none⟩ = some (.int .i64 g.E) ∧ W0.cell? ⟨w.heap.size, 7, none⟩ = some (.int .i64 g.T) := ⟨pg.cell 0 _ rfl, pg.cell 1 _ rfl, pg.cell 2 _ rfl, pg.cell 3 _ rfl, pg.cell 4 _ rfl, pg.cell 5 _ rfl, pg.cell 6 _ rfl, pg.cell 7 _ rfl⟩
  obtain ⟨d0, d1, d2, d3, d4⟩ : W0.cell? ⟨w.heap.size + 1, 0, none⟩ = some (.slice aS nS cS) ∧ W0.cell? ⟨w.heap.size + 1, 1, none⟩ = some (.slice aC nC cC) ∧ W0.cell? ⟨w.heap.size + 1, 2, none⟩ = some (.slice aK nK cK) ∧ W0.cell? ⟨w.heap.size + 1, 3, none⟩ = some (.int .i64 dn) ∧ W0.cell? ⟨w.heap.size + 1, 4, none⟩ = some (.slice aF nF cF) := ⟨pd.cell 0 _ rfl, pd.cell 1 _ rfl, pd.cell 2 _ rfl, pd.cell 3 _ rfl, pd.cell 4 _ rfl⟩
  have hlg := pg.lt
  have hld := pd.lt
  have HLT := Lib.hid hlt
  clear hsz hSl C1 pg pd pz bz b1 ht hn hb0 hSm hSc hS hlt p1
  go_enter Tryd.func18, Tryd.ntmps18
  go_upto_region 1 with fail
  rw [← hW]
  clear hW
  go_wp2_with (refine wpList_store_mid (op := ⟨none, .store 67 _ _, _, _, _, none⟩) rfl 67 _ _ (by rfl) W0.heap.size 0 #[.int .i8 0, .int .i64 0, .int .i64 0, .int .i64 0, .int .i64 0, .int .i64 0, .int .i64 0, .int .i8 0, .string ⟨#[]⟩, .bool false, .slice none 0 0, .int .i64 g.N, .int .i64 g.S, .int .i64 g.B, .int .i64 g.P, .int .i64 g.J, .int .i64 g.L, .int .i64 g.E, .int .i64 g.T, .slice aS nS cS, .slice aC nC cC, .slice aK nK cK, .int .i64 dn, .slice aF nF cF] (by rfl) (by rfl) (by assumption) (by kernel_rfl) (by kernel_rfl) ?_)
  subst hW1
  refine HA.out.mono ?_
  rintro e w2 ⟨h2, O2⟩
  have b2 : Below w.heap.size w w2 := b01.trans (O2.below (by have := HLT.out; omega) (by have := HLT.out; omega))
  rcases h2 with ⟨h2, rfl, c2, t2, y2, P2⟩ | ⟨h2, ⟨h3, rfl, c2, t2, y2, P2⟩ | ⟨ms, v5, h3, rfl, ⟨c2, t2, y2, P2⟩, own2⟩⟩
  · have HF : Hid (LogPost g D b w.heap.size (.returned (.tuple #[.slice none 0 0, .int .i64 2])) w2) := .inl ⟨h2, rfl⟩
    have c10 := P2.next
    have hl2 := P2.lt
    clear HA P2 O2 h2
    go_wp2_with fail
    go_ret2
    exact ⟨HF.out, b2⟩
  · have HF : Hid (LogPost g D b w.heap.size (.returned (.tuple #[.slice none 0 0, .int .i64 50])) w2) := .inr ⟨h2, .inl ⟨h3, rfl⟩⟩
    have c10 := P2.next
    have hl2 := P2.lt
    clear HA P2 O2 h2 h3
    go_wp2_with fail
    go_ret2
    exact ⟨HF.out, b2⟩
  · obtain ⟨A5, c5, e5, _, _⟩ := ow_shape own2
    subst e5
    have HF : Hid (LogPost g D b w.heap.size (.returned (.tuple #[.slice A5 ms.length c5, .int .i64 0])) w2) := .inr ⟨h2, .inr ⟨ms, _, h3, rfl, ow_less own2 (by have := HLT.out; omega)⟩⟩
    have c10 := P2.next
    have hl2 := P2.lt
    clear HA P2 O2 h2 h3 own2
    go_wp2_with fail
    go_ret2
    exact ⟨HF.out, b2⟩

theorem dLog_any (g : G) (v : Value) (D : Dev) (b : Bool) (w : World) (hD : DevAt w w.heap.size v D) (hS : D.S.length ≤ 1099511627776) (hBd : DevBd D) (hsz : ∀ s ∈ D.S, s.size ≤ maxLen) (hP : b = true ↔ MayD D) (ht : TabOk w) :
    Calls Tryd.prog 18 #[.agg #[.int .i64 g.N, .int .i64 g.S, .int .i64 g.B, .int .i64 g.P, .int .i64 g.J, .int .i64 g.L, .int .i64 g.E, .int .i64 g.T], v] w fun e w' => LogPost g D b w.heap.size e w' ∧ Below w.heap.size w w' := by
  obtain ⟨vS, vC, vK, vF, e1, ⟨aS, cS, eS, hSc, hSm, hSl⟩, ⟨aC, cC, eC, _⟩, ⟨aK, cK, eK, _⟩, ⟨aF, cF, eF, _⟩⟩ := id hD
  subst eS eC eK eF
  subst e1
  exact dLog_core g D b w aS _ cS aC _ cC aK _ cK aF _ cF D.n rfl (fun W h => devCheck_all _ D b W (hD.up h) hS hBd hP) hSl hSc hSm hS hsz ht

end Go.Proofs.YtjdacpnfgpdjhaaDoor
