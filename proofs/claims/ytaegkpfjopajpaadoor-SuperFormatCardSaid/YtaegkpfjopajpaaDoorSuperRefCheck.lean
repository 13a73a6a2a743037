/-
  super: the document's own test whether sectors are a device's: by contract.
-/
import Derived.Test.YtaegkpfjopajpaaDoorSuperPlace
import Derived.Test.YtaegkpfjopajpaaDoorSuperCheckLoop
namespace Go.Proofs.YtaegkpfjopajpaaDoor
open Go.RowKit
set_option linter.unusedVariables false
set_option linter.unusedSimpArgs false

/-- What lies in the call's own blocks. -/
def RchS (w : World) (g : G) (bt : Nat) (W : World) : Prop := Blk W w.heap.size #[.int .i64 0, .int .i64 0, .int .i64 0, .int .i64 0, .int .i64 0, .int .i64 0, .int .i64 0, .int .i64 0] 23 ∧ Blk W bt #[.int .i64 g.N, .int .i64 g.S, .int .i64 g.B, .int .i64 g.P, .int .i64 g.J, .int .i64 g.L, .int .i64 g.E, .int .i64 g.T] 23 ∧ Below w.heap.size w W
theorem RchS.call {w : World} {g : G} {bt : Nat} {W W' : World} (h : RchS w g bt W) (hb : Below W.heap.size W W') : RchS w g bt W' :=
  ⟨h.1.below hb h.1.lt, h.2.1.below hb h.2.1.lt, below_then h.2.2 hb⟩
theorem rch_begin {w w1 : World} (g : G) (hb : Below (w.alloc (.cells #[.int .i64 0, .int .i64 0, .int .i64 0, .int .i64 0, .int .i64 0, .int .i64 0, .int .i64 0, .int .i64 0] 23)).heap.size (w.alloc (.cells #[.int .i64 0, .int .i64 0, .int .i64 0, .int .i64 0, .int .i64 0, .int .i64 0, .int .i64 0, .int .i64 0] 23)) w1) : RchS w g w1.heap.size (w1.alloc (.cells #[.int .i64 g.N, .int .i64 g.S, .int .i64 g.B, .int .i64 g.P, .int .i64 g.J, .int .i64 g.L, .int .i64 g.E, .int .i64 g.T] 23)) := by
  have k0 := Blk.new w #[.int .i64 0, .int .i64 0, .int .i64 0, .int .i64 0, .int .i64 0, .int .i64 0, .int .i64 0, .int .i64 0] 23
  have hbw := boxed hb
  exact ⟨(k0.below hb k0.lt).alloc _, Blk.new _ _ _, hbw.alloc hbw.size _⟩

set_option maxRecDepth 100000 in
set_option maxHeartbeats 1000000 in
theorem refCheck_any (A : Option Addr) (n c : Nat) (l : List ByteArray) (w : World) (hA : Lies w w.heap.size A n (strV l)) (hs : ∀ s ∈ l, s.size ≤ maxLen) (hn : n ≤ maxLen) :
    Calls Tryd.prog 20 #[.slice A n c] w fun e w' => e = .returned (.tuple #[.agg #[.int .i64 (checkG l).N, .int .i64 (checkG l).S, .int .i64 (checkG l).B, .int .i64 (checkG l).P, .int .i64 (checkG l).J, .int .i64 (checkG l).L, .int .i64 (checkG l).E, .int .i64 (checkG l).T], .int .i64 (checkE l)]) ∧ Below w.heap.size w w' := by
  have hl : l.length = n := by simpa [strV] using hA.1
  have hno : checkB l = false → ∀ e w', NoPost w e w' → e = .returned (.tuple #[.agg #[.int .i64 (checkG l).N, .int .i64 (checkG l).S, .int .i64 (checkG l).B, .int .i64 (checkG l).P, .int .i64 (checkG l).J, .int .i64 (checkG l).L, .int .i64 (checkG l).E, .int .i64 (checkG l).T], .int .i64 (checkE l)]) ∧ Below w.heap.size w w' := fun h e w' hp => by
    rw [(check_no h).1, (check_no h).2]
    exact hp
  unfold maxLen at hn
  by_cases h0 : n = 0
  · subst h0
    have HN := Lib.hid (hno (check_first (by unfold firstOk; rw [hl]; rfl)))
    clear hno hs
    have z0 := (Blk.new w #[.int .i64 0, .int .i64 0, .int .i64 0, .int .i64 0, .int .i64 0, .int .i64 0, .int .i64 0, .int .i64 0] 23)
    go_enter Tryd.func20, Tryd.ntmps20
    go_wp2_with fail
    refine bodyPost_ret (results_cell_tmp (cs := [.int .i64 0, .int .i64 0, .int .i64 0, .int .i64 0, .int .i64 0, .int .i64 0, .int .i64 0, .int .i64 0]) Tryd.results20 (by rfl) (by rfl) z0.range Tryd.underlying23 rfl (by kernel_rfl)) rfl ?_
    exact HN.out _ _ ⟨rfl, (Below.refl _ _).alloc (Nat.le_refl _) _⟩
  have hn0 : 0 < n := by omega
  obtain ⟨ad, rfl, hc0⟩ := str_at hA hn0 (by omega)
  have hlt : ad.block < w.heap.size := by
    obtain ⟨ad', h1, h2, _⟩ := hA.2 hn0
    cases h1
    exact h2
  have hc : (w.alloc (.cells #[.int .i64 0, .int .i64 0, .int .i64 0, .int .i64 0, .int .i64 0, .int .i64 0, .int .i64 0, .int .i64 0] 23)).cell? ad = some (.string (l.getD 0 ⟨#[]⟩)) := by
    have h := (((Below.refl _ _).alloc (Nat.le_refl _) (.cells #[.int .i64 0, .int .i64 0, .int .i64 0, .int .i64 0, .int .i64 0, .int .i64 0, .int .i64 0, .int .i64 0] 23)).cell (p := ad) hlt).trans (show w.cell? ad = _ by simpa [Addr.add] using hc0)
    rw [h, List.getD, List.getElem?_eq_getElem (by omega)]
    rfl
  have HSZ : Hid (∀ i, (l.getD i ⟨#[]⟩).size ≤ maxLen) := by
    intro i
    by_cases h : i < l.length
    · rw [List.getD, List.getElem?_eq_getElem h]
      exact hs _ (List.getElem_mem _)
    · rw [List.getD, List.getElem?_eq_none (by omega)]
      exact Nat.zero_le _
  have HA := Lib.hid hA
  have hs0 := HSZ.out 0
  clear hs hA hc0
  rcases hr : readB (l.getD 0 ⟨#[]⟩) with _ | _
  · have HN := Lib.hid (hno (check_first (by unfold firstOk; rw [hr, Bool.and_false, Bool.false_and])))
    have HR := Lib.hid (readG_no hr)
    clear hno hr HSZ HA
    generalize l.getD 0 ⟨#[]⟩ = s0 at *
    go_enter Tryd.func20, Tryd.ntmps20
    go_wp2_with fail
    refine (refRead_any s0 _ hs0).mono ?_
    rintro e w1 ⟨rfl, hb1⟩
    rw [HR.out.1, HR.out.2]
    have hS := rch_begin gNil hb1
    go_upto_region 5 with fail
    generalize w1.alloc (.cells #[.int .i64 gNil.N, .int .i64 gNil.S, .int .i64 gNil.B, .int .i64 gNil.P, .int .i64 gNil.J, .int .i64 gNil.L, .int .i64 gNil.E, .int .i64 gNil.T] 23) = W2 at *
    clear hb1 hc hs0
    have hth := hS.1.there
    have hP := geo_put hS.1 (.int .i64 0) (.int .i64 0) (.int .i64 0) (.int .i64 0) (.int .i64 0) (.int .i64 0) (.int .i64 0) (.int .i64 0)
    have hBW : Below w.heap.size w (W2.setCells w.heap.size 0 [.int .i64 0, .int .i64 0, .int .i64 0, .int .i64 0, .int .i64 0, .int .i64 0, .int .i64 0, .int .i64 0]) := setCells_below _ _ hS.2.2 (Nat.le_refl _)
    have hP := Lib.hid hP
    clear hS
    go_wp2_with (refine wpList_store_mid (op := ⟨none, .store 23 _ _, _, _, _, none⟩) rfl 23 _ _ (by rfl) w.heap.size 0 #[.int .i64 0, .int .i64 0, .int .i64 0, .int .i64 0, .int .i64 0, .int .i64 0, .int .i64 0, .int .i64 0] (by rfl) (by rfl) hth (by kernel_rfl) (by kernel_rfl) ?_; show wpList _ _ _ _ _ (W2.setCells w.heap.size 0 [.int .i64 0, .int .i64 0, .int .i64 0, .int .i64 0, .int .i64 0, .int .i64 0, .int .i64 0, .int .i64 0]); generalize W2.setCells w.heap.size 0 [.int .i64 0, .int .i64 0, .int .i64 0, .int .i64 0, .int .i64 0, .int .i64 0, .int .i64 0, .int .i64 0] = W9 at *)
    refine bodyPost_ret (results_cell_tmp (cs := [.int .i64 0, .int .i64 0, .int .i64 0, .int .i64 0, .int .i64 0, .int .i64 0, .int .i64 0, .int .i64 0]) Tryd.results20 (by rfl) (by rfl) hP.out.range Tryd.underlying23 rfl (by kernel_rfl)) rfl ?_
    exact HN.out _ _ ⟨rfl, hBW⟩
  have HR := Lib.hid (readG_yes hr).2
  have hmay := Lib.hid (sup_read hr).1
  have HSUP := Lib.hid (readB_size hr)
  by_cases hcount : l.length = totN (readG (l.getD 0 ⟨#[]⟩))
  rotate_left
  · have HN := Lib.hid (hno (check_first (by unfold firstOk; rw [decide_eq_false hcount, Bool.and_false])))
    have hne : ((n : Int) != ((totN (readG (l.getD 0 ⟨#[]⟩)) : Nat) : Int)) = true := by rw [bne_iff_ne]; omega
    clear hno hr HSZ HA hcount hmay HSUP
    generalize l.getD 0 ⟨#[]⟩ = s0 at *
    have HT := Lib.hid (total_bd (readG s0)).1
    go_enter Tryd.func20, Tryd.ntmps20
    go_wp2_with fail
    refine (refRead_any s0 _ hs0).mono ?_
    rintro e w1 ⟨rfl, hb1⟩
    rw [HR.out]
    have hS := rch_begin (readG s0) hb1
    generalize readG s0 = g at *
    clear hb1 hc hs0
    go_wp2_with fail
    refine (total_r g _).mono ?_
    rintro e w3 ⟨rfl, hb3⟩
    rw [HT.out]
    have hS3 := hS.call hb3
    clear hb3 hS
    go_upto_region 5 with fail
    have hth := hS3.1.there
    have hP := geo_put hS3.1 (.int .i64 0) (.int .i64 0) (.int .i64 0) (.int .i64 0) (.int .i64 0) (.int .i64 0) (.int .i64 0) (.int .i64 0)
    have hBW : Below w.heap.size w (w3.setCells w.heap.size 0 [.int .i64 0, .int .i64 0, .int .i64 0, .int .i64 0, .int .i64 0, .int .i64 0, .int .i64 0, .int .i64 0]) := setCells_below _ _ hS3.2.2 (Nat.le_refl _)
    have hP := Lib.hid hP
    clear hS3
    go_wp2_with (refine wpList_store_mid (op := ⟨none, .store 23 _ _, _, _, _, none⟩) rfl 23 _ _ (by rfl) w.heap.size 0 #[.int .i64 0, .int .i64 0, .int .i64 0, .int .i64 0, .int .i64 0, .int .i64 0, .int .i64 0, .int .i64 0] (by rfl) (by rfl) hth (by kernel_rfl) (by kernel_rfl) ?_; show wpList _ _ _ _ _ (w3.setCells w.heap.size 0 [.int .i64 0, .int .i64 0, .int .i64 0, .int .i64 0, .int .i64 0, .int .i64 0, .int .i64 0, .int .i64 0]); generalize w3.setCells w.heap.size 0 [.int .i64 0, .int .i64 0, .int .i64 0, .int .i64 0, .int .i64 0, .int .i64 0, .int .i64 0, .int .i64 0] = W9 at *)
    refine bodyPost_ret (results_cell_tmp (cs := [.int .i64 0, .int .i64 0, .int .i64 0, .int .i64 0, .int .i64 0, .int .i64 0, .int .i64 0, .int .i64 0]) Tryd.results20 (by rfl) (by rfl) hP.out.range Tryd.underlying23 rfl (by kernel_rfl)) rfl ?_
    exact HN.out _ _ ⟨rfl, hBW⟩
  have HCNT := Lib.hid hcount
  have HFST := Lib.hid (first_yes (l := l) (by omega) hr hcount)
  have HBS : Hid (∀ i, i < n → smallB (readG (l.getD 0 ⟨#[]⟩)) l i = false → checkB l = false) := fun i hi h => check_bad (by omega) (bad_of_small hmay.out hcount (by omega) h)
  have HBT : Hid (∀ j : Nat, (j : Int) < (readG (l.getD 0 ⟨#[]⟩)).S → tailB (l.getD (headV (readG (l.getD 0 ⟨#[]⟩)) (j : Int)).toNat ⟨#[]⟩) = false → checkB l = false) := fun j hj h => by
    have hh := head_at hmay.out (i := (j : Int)) (by omega) hj
    exact check_bad (i := (headV (readG (l.getD 0 ⟨#[]⟩)) (j : Int)).toNat) (by rw [hcount]; unfold totN; have := of_may hmay.out; omega) (bad_of_tail hmay.out hj h)
  have HYES : Hid ((∀ i, i < n → smallB (readG (l.getD 0 ⟨#[]⟩)) l i = true) → (∀ j : Nat, (j : Int) < (readG (l.getD 0 ⟨#[]⟩)).S → tailB (l.getD (headV (readG (l.getD 0 ⟨#[]⟩)) (j : Int)).toNat ⟨#[]⟩) = true) → checkG l = readG (l.getD 0 ⟨#[]⟩) ∧ checkE l = 0) := fun h1 h2 =>
    check_yes (check_all HFST.out (fit_of_tests hmay.out hcount (fun i hi => h1 i (by omega)) h2))
  have hne : ((n : Int) != ((totN (readG (l.getD 0 ⟨#[]⟩)) : Nat) : Int)) = false := by rw [bne_eq_false_iff_eq]; omega
  have HNO := Lib.hid hno
  have hS0 := of_may hmay.out
  have HT := Lib.hid (total_bd (readG (l.getD 0 ⟨#[]⟩))).1
  have hTb := (total_bd (readG (l.getD 0 ⟨#[]⟩))).2
  clear hno hr hcount HFST HSUP
  generalize hs0e : l.getD 0 ⟨#[]⟩ = s0 at *
  go_enter Tryd.func20, Tryd.ntmps20
  go_wp2_with fail
  refine (refRead_any s0 _ hs0).mono ?_
  rintro e w1 ⟨rfl, hb1⟩
  rw [HR.out]
  have hS := rch_begin (readG s0) hb1
  generalize readG s0 = g at *
  generalize hbt0 : w1.heap.size = bt at *
  clear hb1 hc hs0
  go_wp2_with fail
  refine (total_r g _).mono ?_
  rintro e w3 ⟨rfl, hb3⟩
  rw [HT.out]
  have hS3 := hS.call hb3
  clear hb3 hS
  have e0 := hS3.2.1.cell 0 _ rfl
  have e1 := hS3.2.1.cell 1 _ rfl
  have e2 := hS3.2.1.cell 2 _ rfl
  have e3 := hS3.2.1.cell 3 _ rfl
  have e4 := hS3.2.1.cell 4 _ rfl
  have e5 := hS3.2.1.cell 5 _ rfl
  have e6 := hS3.2.1.cell 6 _ rfl
  have e7 := hS3.2.1.cell 7 _ rfl
  go_wp2_with fail
  refine (data_r g 0 0 _ (by omega) (by omega) (by omega) (by omega)).mono ?_
  rintro e w4 ⟨rfl, hb4⟩
  have hS4 := hS3.call hb4
  have hdb : 0 ≤ dataV g 0 0 ∧ dataV g 0 0 ≤ 16004000 := by
    have h1 := data_first hmay.out
    have h2 := slots_bd hmay.out
    omega
  clear hb4 hS3 e0 e1 e2 e3 e4 e5 e6 e7
  have HD : Hid (∀ i, smallB g l i = smallB g l i) := fun _ => rfl
  obtain ⟨D, hD⟩ : ∃ D, D = dataV g 0 0 := ⟨_, rfl⟩
  rw [← hD] at hdb ⊢
  have HDD := Lib.hid hD
  clear hD HT
  go_wp2_with fail
  go_loopw [7] (fun i wr => ∃ k : Nat, k ≤ n ∧ i = .int .i64 (k : Int) ∧ (∀ j, j < k → smallB g l j = true) ∧ RchS w g bt wr) (fun i _ => n - (intOf i).toNat)
  case atStart => exact ⟨0, Nat.zero_le _, rfl, fun j hj => absurd hj (by omega), hS4⟩
  case round =>
    obtain ⟨k, hk, rfl, hall, hS5⟩ := hrel
    by_cases hlt2 : k < n
    · obtain ⟨ad', e1, hck⟩ := str_at (HA.out.below hS5.2.2) hlt2 (by omega)
      cases e1
      replace hck : wr.cell? (ad.add k) = some (.string (l.getD k ⟨#[]⟩)) := by
        rw [hck, List.getD, List.getElem?_eq_getElem (by omega)]
        rfl
      have hszk := HSZ.out k
      unfold maxLen at hszk
      have hbad : smallB g l k = false → checkB l = false := HBS.out k hlt2
      by_cases hg1 : (l.getD k ⟨#[]⟩).size ≤ 512
      · by_cases hg2 : (k : Int) < D
        · have hsm : smallB g l k = true := small_yes hg1 (.inl (by rw [← HDD.out]; exact hg2))
          have hall2 : Hid (∀ j, j < k + 1 → smallB g l j = true) := fun j hj => by
            by_cases h : j < k
            · exact hall j h
            · obtain rfl : j = k := by omega
              exact hsm
          clear hall hbad hsm
          generalize l.getD k ⟨#[]⟩ = s at *
          go_wp2_with fail
          go_roundw
          case rel => exact ⟨k + 1, by omega, by go_num, hall2.out, hS5⟩
          case measure => simp [intOf]; omega
        · by_cases hg3 : (l.getD k ⟨#[]⟩).size ≤ 256
          · have hsm : smallB g l k = true := small_yes hg1 (.inr hg3)
            have hg2' : D ≤ (k : Int) := by omega
            have hall2 : Hid (∀ j, j < k + 1 → smallB g l j = true) := fun j hj => by
              by_cases h : j < k
              · exact hall j h
              · obtain rfl : j = k := by omega
                exact hsm
            clear hall hbad hsm hg2
            generalize l.getD k ⟨#[]⟩ = s at *
            go_wp2_with fail
            go_roundw
            case rel => exact ⟨k + 1, by omega, by go_num, hall2.out, hS5⟩
            case measure => simp [intOf]; omega
          · have hg2' : D ≤ (k : Int) := by omega
            have hg3' : 256 < (l.getD k ⟨#[]⟩).size := by omega
            have HN := Lib.hid (HNO.out (hbad (small_no_data (by rw [← HDD.out]; exact hg2') hg3')))
            clear hall hbad hg2 hg3 HBS HBT HYES HNO
            generalize l.getD k ⟨#[]⟩ = s at *
            go_upto_region 11 with fail
            have hth := hS5.1.there
            have hP := geo_put hS5.1 (.int .i64 0) (.int .i64 0) (.int .i64 0) (.int .i64 0) (.int .i64 0) (.int .i64 0) (.int .i64 0) (.int .i64 0)
            have hBW : Below w.heap.size w (wr.setCells w.heap.size 0 [.int .i64 0, .int .i64 0, .int .i64 0, .int .i64 0, .int .i64 0, .int .i64 0, .int .i64 0, .int .i64 0]) := setCells_below _ _ hS5.2.2 (Nat.le_refl _)
            have hP := Lib.hid hP
            clear hS5
            go_wp2_with (refine wpList_store_mid (op := ⟨none, .store 23 _ _, _, _, _, none⟩) rfl 23 _ _ (by rfl) w.heap.size 0 #[.int .i64 0, .int .i64 0, .int .i64 0, .int .i64 0, .int .i64 0, .int .i64 0, .int .i64 0, .int .i64 0] (by rfl) (by rfl) hth (by kernel_rfl) (by kernel_rfl) ?_; show wpList _ _ _ _ _ (wr.setCells w.heap.size 0 [.int .i64 0, .int .i64 0, .int .i64 0, .int .i64 0, .int .i64 0, .int .i64 0, .int .i64 0, .int .i64 0]); generalize wr.setCells w.heap.size 0 [.int .i64 0, .int .i64 0, .int .i64 0, .int .i64 0, .int .i64 0, .int .i64 0, .int .i64 0, .int .i64 0] = W9 at *)
            refine bodyPost_ret (results_cell_tmp (cs := [.int .i64 0, .int .i64 0, .int .i64 0, .int .i64 0, .int .i64 0, .int .i64 0, .int .i64 0, .int .i64 0]) Tryd.results20 (by rfl) (by rfl) hP.out.range Tryd.underlying23 rfl (by kernel_rfl)) rfl ?_
            exact HN.out _ _ ⟨rfl, hBW⟩
      · have hg1' : 512 < (l.getD k ⟨#[]⟩).size := by omega
        have HN := Lib.hid (HNO.out (hbad (small_no_great hg1')))
        clear hall hbad hg1 HBS HBT HYES HNO
        generalize l.getD k ⟨#[]⟩ = s at *
        go_upto_region 11 with fail
        have hth := hS5.1.there
        have hP := geo_put hS5.1 (.int .i64 0) (.int .i64 0) (.int .i64 0) (.int .i64 0) (.int .i64 0) (.int .i64 0) (.int .i64 0) (.int .i64 0)
        have hBW : Below w.heap.size w (wr.setCells w.heap.size 0 [.int .i64 0, .int .i64 0, .int .i64 0, .int .i64 0, .int .i64 0, .int .i64 0, .int .i64 0, .int .i64 0]) := setCells_below _ _ hS5.2.2 (Nat.le_refl _)
        have hP := Lib.hid hP
        clear hS5
        go_wp2_with (refine wpList_store_mid (op := ⟨none, .store 23 _ _, _, _, _, none⟩) rfl 23 _ _ (by rfl) w.heap.size 0 #[.int .i64 0, .int .i64 0, .int .i64 0, .int .i64 0, .int .i64 0, .int .i64 0, .int .i64 0, .int .i64 0] (by rfl) (by rfl) hth (by kernel_rfl) (by kernel_rfl) ?_; show wpList _ _ _ _ _ (wr.setCells w.heap.size 0 [.int .i64 0, .int .i64 0, .int .i64 0, .int .i64 0, .int .i64 0, .int .i64 0, .int .i64 0, .int .i64 0]); generalize wr.setCells w.heap.size 0 [.int .i64 0, .int .i64 0, .int .i64 0, .int .i64 0, .int .i64 0, .int .i64 0, .int .i64 0, .int .i64 0] = W9 at *)
        refine bodyPost_ret (results_cell_tmp (cs := [.int .i64 0, .int .i64 0, .int .i64 0, .int .i64 0, .int .i64 0, .int .i64 0, .int .i64 0, .int .i64 0]) Tryd.results20 (by rfl) (by rfl) hP.out.range Tryd.underlying23 rfl (by kernel_rfl)) rfl ?_
        exact HN.out _ _ ⟨rfl, hBW⟩
    · obtain rfl : k = n := by omega
      have HALL := Lib.hid hall
      clear hall HBS
      go_wp2_with fail
      go_loopw [8] (fun i wr => ∃ j : Nat, (j : Int) ≤ g.S ∧ i = .int .i64 (j : Int) ∧ (∀ q : Nat, q < j → tailB (l.getD (headV g (q : Int)).toNat ⟨#[]⟩) = true) ∧ RchS w g bt wr) (fun i _ => g.S.toNat - (intOf i).toNat)
      case atStart => exact ⟨0, by omega, rfl, fun j hj => absurd hj (by omega), hS5⟩
      case round =>
        obtain ⟨j, hj, rfl, hall, hS6⟩ := hrel
        have hg6 := hS6.2.1
        have e0 := hg6.cell 0 _ rfl
        have e1 := hg6.cell 1 _ rfl
        have e2 := hg6.cell 2 _ rfl
        have e3 := hg6.cell 3 _ rfl
        have e4 := hg6.cell 4 _ rfl
        have e5 := hg6.cell 5 _ rfl
        have e6 := hg6.cell 6 _ rfl
        have e7 := hg6.cell 7 _ rfl
        by_cases hlt3 : (j : Int) < g.S
        · have hh := head_at hmay.out (i := (j : Int)) (by omega) hlt3
          obtain ⟨q, hq⟩ : ∃ q : Nat, headV g (j : Int) = (q : Int) := ⟨(headV g (j : Int)).toNat, by omega⟩
          have hqN : q < k := by rw [← hl, HCNT.out]; unfold totN; omega
          have HQ := Lib.hid hq
          have hbt : tailB (l.getD q ⟨#[]⟩) = false → checkB l = false := fun h => HBT.out j hlt3 (by rw [hq, Int.toNat_natCast]; exact h)
          have hallq : tailB (l.getD q ⟨#[]⟩) = true → ∀ p : Nat, p < j + 1 → tailB (l.getD (headV g (p : Int)).toNat ⟨#[]⟩) = true := fun h p hp => by
            by_cases h1 : p < j
            · exact hall p h1
            · obtain rfl : p = j := by omega
              rw [hq, Int.toNat_natCast]
              exact h
          have hbt := Lib.hid hbt
          have hallq := Lib.hid hallq
          clear hq hh hall hg6
          go_wp2_with fail
          refine (head_r g (j : Int) _ (by omega) (by omega)).mono ?_
          rintro e w7 ⟨rfl, hb7⟩
          rw [HQ.out]
          have hS7 := hS6.call hb7
          obtain ⟨ad', e9, hck⟩ := str_at (HA.out.below hS7.2.2) hqN (by omega)
          cases e9
          replace hck : w7.cell? (ad.add q) = some (.string (l.getD q ⟨#[]⟩)) := by
            rw [hck, List.getD, List.getElem?_eq_getElem (by omega)]
            rfl
          have hszq := HSZ.out q
          clear hb7 hS6 e0 e1 e2 e3 e4 e5 e6 e7
          generalize l.getD q ⟨#[]⟩ = s at *
          go_wp2_with fail
          refine (refTail_any s _ hszq).mono ?_
          rintro e w8 ⟨rfl, hb8⟩
          have hS8 := hS7.call hb8
          clear hS7 hb8 hck
          rcases hB : tailB s with _ | _
          · have HN := Lib.hid (HNO.out (hbt.out hB))
            rw [(tailV_no hB).1, (tailV_no hB).2]
            clear hbt hallq hB HBT HYES HNO
            go_upto_region 17 with fail
            have hth := hS8.1.there
            have hP := geo_put hS8.1 (.int .i64 0) (.int .i64 0) (.int .i64 0) (.int .i64 0) (.int .i64 0) (.int .i64 0) (.int .i64 0) (.int .i64 0)
            have hBW : Below w.heap.size w (w8.setCells w.heap.size 0 [.int .i64 0, .int .i64 0, .int .i64 0, .int .i64 0, .int .i64 0, .int .i64 0, .int .i64 0, .int .i64 0]) := setCells_below _ _ hS8.2.2 (Nat.le_refl _)
            have hP := Lib.hid hP
            clear hS8
            go_wp2_with (refine wpList_store_mid (op := ⟨none, .store 23 _ _, _, _, _, none⟩) rfl 23 _ _ (by rfl) w.heap.size 0 #[.int .i64 0, .int .i64 0, .int .i64 0, .int .i64 0, .int .i64 0, .int .i64 0, .int .i64 0, .int .i64 0] (by rfl) (by rfl) hth (by kernel_rfl) (by kernel_rfl) ?_; show wpList _ _ _ _ _ (w8.setCells w.heap.size 0 [.int .i64 0, .int .i64 0, .int .i64 0, .int .i64 0, .int .i64 0, .int .i64 0, .int .i64 0, .int .i64 0]); generalize w8.setCells w.heap.size 0 [.int .i64 0, .int .i64 0, .int .i64 0, .int .i64 0, .int .i64 0, .int .i64 0, .int .i64 0, .int .i64 0] = W9 at *)
            refine bodyPost_ret (results_cell_tmp (cs := [.int .i64 0, .int .i64 0, .int .i64 0, .int .i64 0, .int .i64 0, .int .i64 0, .int .i64 0, .int .i64 0]) Tryd.results20 (by rfl) (by rfl) hP.out.range Tryd.underlying23 rfl (by kernel_rfl)) rfl ?_
            exact HN.out _ _ ⟨rfl, hBW⟩
          · have hall2 := Lib.hid (hallq.out hB)
            rw [(tailV_yes hB).2]
            clear hbt hallq hB
            generalize tailV s = V at *
            go_wp2_with fail
            go_roundw
            case rel => exact ⟨j + 1, by omega, by go_num, hall2.out, hS8⟩
            case measure => simp [intOf]; omega
        · have hY := Lib.hid (HYES.out HALL.out (fun q hq => hall q (by omega)))
          have hth := hS6.1.there
          have hP := geo_put hS6.1 (.int .i64 g.N) (.int .i64 g.S) (.int .i64 g.B) (.int .i64 g.P) (.int .i64 g.J) (.int .i64 g.L) (.int .i64 g.E) (.int .i64 g.T)
          have hBW : Below w.heap.size w (wr.setCells w.heap.size 0 [.int .i64 g.N, .int .i64 g.S, .int .i64 g.B, .int .i64 g.P, .int .i64 g.J, .int .i64 g.L, .int .i64 g.E, .int .i64 g.T]) := setCells_below _ _ hS6.2.2 (Nat.le_refl _)
          have hP := Lib.hid hP
          have hle : g.S ≤ (j : Int) := by omega
          have hdec : decide ((j : Int) < g.S) = false := decide_eq_false hlt3
          clear hS6 hall hg6 hlt3 hj hle hne hS0 hdb HNO HYES HBT HALL HSZ HA HDD HD hmay HCNT HR hTb hS5 hS4
          go_upto_region 18 with fail
          go_wp2_with (refine wpList_store_mid (op := ⟨none, .store 23 _ _, _, _, _, none⟩) rfl 23 _ _ (by rfl) w.heap.size 0 #[.int .i64 g.N, .int .i64 g.S, .int .i64 g.B, .int .i64 g.P, .int .i64 g.J, .int .i64 g.L, .int .i64 g.E, .int .i64 g.T] (by rfl) (by rfl) hth (by kernel_rfl) (by kernel_rfl) ?_; show wpList _ _ _ _ _ (wr.setCells w.heap.size 0 [.int .i64 g.N, .int .i64 g.S, .int .i64 g.B, .int .i64 g.P, .int .i64 g.J, .int .i64 g.L, .int .i64 g.E, .int .i64 g.T]); generalize wr.setCells w.heap.size 0 [.int .i64 g.N, .int .i64 g.S, .int .i64 g.B, .int .i64 g.P, .int .i64 g.J, .int .i64 g.L, .int .i64 g.E, .int .i64 g.T] = W9 at *)
          refine bodyPost_ret (results_cell_tmp (cs := [.int .i64 g.N, .int .i64 g.S, .int .i64 g.B, .int .i64 g.P, .int .i64 g.J, .int .i64 g.L, .int .i64 g.E, .int .i64 g.T]) Tryd.results20 (by rfl) (by rfl) hP.out.range Tryd.underlying23 rfl (by kernel_rfl)) rfl ?_
          exact ⟨by rw [hY.out.1, hY.out.2]; rfl, hBW⟩

end Go.Proofs.YtaegkpfjopajpaaDoor
