/-
  super: superblocks and headers read: by contract.
-/
import Derived.Test.YtaegkpfjopajpaaDoorSuperForm
import Derived.Deep.RegionHeld3
import Derived.Deep.DeepCutAuto
namespace Go.Proofs.YtaegkpfjopajpaaDoor
open Go.RowKit
set_option linter.unusedVariables false
set_option linter.unusedSimpArgs false

set_option maxRecDepth 100000 in
set_option maxHeartbeats 1000000 in
theorem tail_f (s : ByteArray) (A : Option Addr) (w : World) (hs : s.size ≤ maxLen) (hA : Lies w w.heap.size A 1 (headW.map (Value.int .i64))) (ht : TabOk w) :
    Calls Tryd.prog 33 #[.agg #[.int .i8 2, .slice A 1 1], .string s] w fun e w' => e = .returned (.tuple #[.int .i64 (tailV s), .int .i64 (tailE s)]) ∧ Below w.heap.size w w' := by
  have p0 := Blk.new w #[.int .i8 2, .slice A 1 1] 56
  go_enter Tryd.func33, Tryd.ntmps33
  go_wp2_with fail
  refine (numbers_f 2 s A 1 1 headW _ hs (hA.alloc _) (by omega) (ht.alloc _)).mono ?_
  rintro e w1 ⟨hb, A1, n1, c1, rfl, HN, hl⟩
  have hb1 := boxed hb
  clear hb p0 hA ht
  rw [show (fldB 2 s headW && decide (fldRest 2 s headW = ⟨#[]⟩)) = tailB s from rfl]
  rcases hf : tailB s with _ | _
  · have HO := Lib.hid (tailV_no hf)
    clear hf hl
    go_wp2_with fail
    go_ret2
    exact ⟨by rw [HO.out.1, HO.out.2]; rfl, hb1⟩
  · have HO := Lib.hid (tailV_yes hf)
    have hlen : (fldVal 2 s headW).length = 1 := by
      have h := hf
      unfold tailB at h
      rw [Bool.and_eq_true, decide_eq_true_iff] at h
      exact (make_fields h.1 h.2).2.2.1
    obtain rfl : 1 = n1 := hlen.symm.trans HN.out
    obtain ⟨x, HX⟩ : ∃ x, Hid (fldVal 2 s headW = [x]) := by
      match hv : fldVal 2 s headW, hlen with
      | [a], _ => exact ⟨a, rfl⟩
    rw [HX.out] at hl
    obtain ⟨ad, u, rfl, hlt, hu, hc⟩ := hl.at_ (k := 0) (by omega)
    obtain rfl : .int .i64 x = u := by simpa using hu
    have hc : w1.cell? ad = some (.int .i64 x) := by simpa [Addr.add] using hc
    clear hf hl HN hlen hu
    go_wp2_with fail
    go_ret2
    exact ⟨by rw [HO.out.1, HO.out.2, HX.out]; rfl, hb1⟩

set_option maxRecDepth 100000 in
set_option maxHeartbeats 1000000 in
theorem Tail_any (s : ByteArray) (w : World) (hs : s.size ≤ maxLen) (ht : TabOk w) :
    Calls Tryd.prog 14 #[.string s] w fun e w' => e = .returned (.tuple #[.int .i64 (tailV s), .int .i64 (tailE s)]) ∧ Below w.heap.size w w' := by
  go_enter Tryd.func14, Tryd.ntmps14
  go_wp2_with fail
  refine (newHeader_any _).mono ?_
  rintro e w1 ⟨A1, rfl, hb1, hl1⟩
  have ht1 := ht.below hb1
  go_wp2_with fail
  refine (tail_f s A1 _ hs hl1 ht1).mono ?_
  rintro e w2 ⟨rfl, hb2⟩
  go_wp2_with fail
  go_ret2
  exact ⟨rfl, below_then hb1 hb2⟩

set_option maxRecDepth 100000 in
set_option maxHeartbeats 2000000 in
theorem read_f (s : ByteArray) (A : Option Addr) (w : World) (hs : s.size ≤ maxLen) (hA : Lies w w.heap.size A 8 (supW.map (Value.int .i64))) (ht : TabOk w) :
    Calls Tryd.prog 29 #[.agg #[.int .i8 1, .slice A 8 8], .string s] w fun e w' => e = .returned (.tuple #[.agg #[.int .i64 (readG s).N, .int .i64 (readG s).S, .int .i64 (readG s).B, .int .i64 (readG s).P, .int .i64 (readG s).J, .int .i64 (readG s).L, .int .i64 (readG s).E, .int .i64 (readG s).T], .int .i64 (readE s)]) ∧ Below w.heap.size w w' := by
  go_enter Tryd.func29, Tryd.ntmps29
  go_wp2_with fail
  have b0 : Below w.heap.size w ((w.alloc (.cells #[.int .i8 1, .slice A 8 8] 50)).alloc (.cells #[.int .i64 0, .int .i64 0, .int .i64 0, .int .i64 0, .int .i64 0, .int .i64 0, .int .i64 0, .int .i64 0] 23)) := ((Below.refl _ _).alloc (Nat.le_refl _) _).alloc (by simp) _
  have z0 := Blk.new (w.alloc (.cells #[.int .i8 1, .slice A 8 8] 50)) #[.int .i64 0, .int .i64 0, .int .i64 0, .int .i64 0, .int .i64 0, .int .i64 0, .int .i64 0, .int .i64 0] 23
  refine (numbers_f 1 s A 8 8 supW _ hs ((hA.alloc _).alloc _) (by omega) ((ht.alloc _).alloc _)).mono ?_
  rintro e w1 ⟨hb, A1, n1, c1, rfl, HN, hl⟩
  have hb1 := b0.trans (hb.mono (by simp; omega))
  have z1 := z0.below hb (by simp)
  simp only [World.size_alloc] at z1
  clear hb hA ht z0 b0
  rw [show (fldB 1 s supW && decide (fldRest 1 s supW = ⟨#[]⟩)) = supF s from rfl]
  rcases hf : supF s with _ | _
  · have HO := Lib.hid (readG_no (readB_not hf))
    have hth := z1.there
    clear hf hl
    go_wp2_with (refine wpList_store_mid (op := ⟨none, .store 23 _ _, _, _, _, none⟩) rfl 23 _ _ (by rfl) (w.heap.size + 1) 0 #[.int .i64 0, .int .i64 0, .int .i64 0, .int .i64 0, .int .i64 0, .int .i64 0, .int .i64 0, .int .i64 0] (by rfl) (by rfl) (by assumption) (by kernel_rfl) (by kernel_rfl) ?_)
    refine bodyPost_ret (results_cell_tmp (cs := [.int .i64 0, .int .i64 0, .int .i64 0, .int .i64 0, .int .i64 0, .int .i64 0, .int .i64 0, .int .i64 0]) Tryd.results29 (by rfl) (by rfl) (World.rangeAt_setCells_same _ _ _ _ hth) Tryd.underlying23 rfl (by kernel_rfl)) rfl ?_
    exact ⟨by rw [HO.out.1, HO.out.2]; rfl, setCells_below _ _ hb1 (by omega)⟩
  · have hlen : (fldVal 1 s supW).length = 8 := by
      have h := hf
      unfold supF at h
      rw [Bool.and_eq_true, decide_eq_true_iff] at h
      exact (make_fields h.1 h.2).2.2.1
    obtain rfl : 8 = n1 := hlen.symm.trans HN.out
    obtain ⟨x0, x1, x2, x3, x4, x5, x6, x7, HX⟩ : ∃ x0 x1 x2 x3 x4 x5 x6 x7, Hid (fldVal 1 s supW = [x0, x1, x2, x3, x4, x5, x6, x7]) := by
      match hv : fldVal 1 s supW, hlen with
      | [a, b, c, d, e, f, g, i], _ => exact ⟨a, b, c, d, e, f, g, i, rfl⟩
    rw [HX.out] at hl
    obtain ⟨ad, hA1, hlt, hcs⟩ := hl.2 (by omega)
    subst hA1
    have c0 : w1.cell? ad = some (.int .i64 x0) := by simpa [Addr.add] using hcs 0 _ rfl
    have c1 : w1.cell? ⟨ad.block, ad.off + 1, none⟩ = some (.int .i64 x1) := by simpa [Addr.add] using hcs 1 _ rfl
    have c2 : w1.cell? ⟨ad.block, ad.off + 2, none⟩ = some (.int .i64 x2) := by simpa [Addr.add] using hcs 2 _ rfl
    have c3 : w1.cell? ⟨ad.block, ad.off + 3, none⟩ = some (.int .i64 x3) := by simpa [Addr.add] using hcs 3 _ rfl
    have c4 : w1.cell? ⟨ad.block, ad.off + 4, none⟩ = some (.int .i64 x4) := by simpa [Addr.add] using hcs 4 _ rfl
    have c5 : w1.cell? ⟨ad.block, ad.off + 5, none⟩ = some (.int .i64 x5) := by simpa [Addr.add] using hcs 5 _ rfl
    have c6 : w1.cell? ⟨ad.block, ad.off + 6, none⟩ = some (.int .i64 x6) := by simpa [Addr.add] using hcs 6 _ rfl
    have c7 : w1.cell? ⟨ad.block, ad.off + 7, none⟩ = some (.int .i64 x7) := by simpa [Addr.add] using hcs 7 _ rfl
    have HB := Lib.hid (readB_of hf)
    clear hf hl HN hlen hcs
    go_upto_region 4 with fail
    go_region_held3 (fun W => W.cell? ad = some (.int .i64 x0) ∧ W.cell? ⟨ad.block, ad.off + 1, none⟩ = some (.int .i64 x1) ∧ W.cell? ⟨ad.block, ad.off + 2, none⟩ = some (.int .i64 x2) ∧ W.cell? ⟨ad.block, ad.off + 3, none⟩ = some (.int .i64 x3) ∧ W.cell? ⟨ad.block, ad.off + 4, none⟩ = some (.int .i64 x4) ∧ W.cell? ⟨ad.block, ad.off + 5, none⟩ = some (.int .i64 x5) ∧ W.cell? ⟨ad.block, ad.off + 6, none⟩ = some (.int .i64 x6) ∧ W.cell? ⟨ad.block, ad.off + 7, none⟩ = some (.int .i64 x7)) (first | go_keep) (first | fail)
    have y2 := (Blk.new w1 #[.int .i64 x0, .int .i64 x1, .int .i64 x2, .int .i64 x3, .int .i64 x4, .int .i64 x5, .int .i64 x6, .int .i64 x7] 23).drew
    have hb2 := (hb1.alloc hb1.size (.cells #[.int .i64 x0, .int .i64 x1, .int .i64 x2, .int .i64 x3, .int .i64 x4, .int .i64 x5, .int .i64 x6, .int .i64 x7] 23)).drew
    have z2 := (z1.alloc (.cells #[.int .i64 x0, .int .i64 x1, .int .i64 x2, .int .i64 x3, .int .i64 x4, .int .i64 x5, .int .i64 x6, .int .i64 x7] 23)).drew
    have hn2 : w.heap.size + 1 < w1.heap.size := z1.lt
    generalize (w1.alloc (.cells #[.int .i64 x0, .int .i64 x1, .int .i64 x2, .int .i64 x3, .int .i64 x4, .int .i64 x5, .int .i64 x6, .int .i64 x7] 23)).drew = w2 at *
    clear c0 c1 c2 c3 c4 c5 c6 c7 z1 hb1 hlt
    have e0 := y2.cell 0 _ rfl
    have e1 := y2.cell 1 _ rfl
    have e2 := y2.cell 2 _ rfl
    have e3 := y2.cell 3 _ rfl
    have e4 := y2.cell 4 _ rfl
    have e5 := y2.cell 5 _ rfl
    have e6 := y2.cell 6 _ rfl
    have e7 := y2.cell 7 _ rfl
    go_wp2_with fail
    refine (may_any ⟨x0, x1, x2, x3, x4, x5, x6, x7⟩ _).mono ?_
    rintro e w3 ⟨rfl, hb3⟩
    have y3 := y2.below hb3 y2.lt
    have z3 := z2.below hb3 z2.lt
    have hb03 := below_then hb2 hb3
    have hth := z3.there
    have HC : Hid (readB s = mayG ⟨x0, x1, x2, x3, x4, x5, x6, x7⟩) := by show _ = _; rw [HB.out, HX.out]; rfl
    clear e0 e1 e2 e3 e4 e5 e6 e7 y2 z2 hb2 hb3 HB z3
    rcases hm : mayG ⟨x0, x1, x2, x3, x4, x5, x6, x7⟩ with _ | _
    · have HO := Lib.hid (readG_no (HC.out.trans hm))
      clear hm HC
      go_wp2_with (refine wpList_store_mid (op := ⟨none, .store 23 _ _, _, _, _, none⟩) rfl 23 _ _ (by rfl) (w.heap.size + 1) 0 #[.int .i64 0, .int .i64 0, .int .i64 0, .int .i64 0, .int .i64 0, .int .i64 0, .int .i64 0, .int .i64 0] (by rfl) (by rfl) (by assumption) (by kernel_rfl) (by kernel_rfl) ?_)
      refine bodyPost_ret (results_cell_tmp (cs := [.int .i64 0, .int .i64 0, .int .i64 0, .int .i64 0, .int .i64 0, .int .i64 0, .int .i64 0, .int .i64 0]) Tryd.results29 (by rfl) (by rfl) (World.rangeAt_setCells_same _ _ _ _ hth) Tryd.underlying23 rfl (by kernel_rfl)) rfl ?_
      exact ⟨by rw [HO.out.1, HO.out.2]; rfl, setCells_below _ _ hb03 (by omega)⟩
    · have HO := Lib.hid (readG_yes (HC.out.trans hm))
      clear hm HC
      have e0 := y3.cell 0 _ rfl
      have e1 := y3.cell 1 _ rfl
      have e2 := y3.cell 2 _ rfl
      have e3 := y3.cell 3 _ rfl
      have e4 := y3.cell 4 _ rfl
      have e5 := y3.cell 5 _ rfl
      have e6 := y3.cell 6 _ rfl
      have e7 := y3.cell 7 _ rfl
      clear y3
      go_wp2_with (refine wpList_store_mid (op := ⟨none, .store 23 _ _, _, _, _, none⟩) rfl 23 _ _ (by rfl) (w.heap.size + 1) 0 #[.int .i64 x0, .int .i64 x1, .int .i64 x2, .int .i64 x3, .int .i64 x4, .int .i64 x5, .int .i64 x6, .int .i64 x7] (by rfl) (by rfl) (by assumption) (by kernel_rfl) (by kernel_rfl) ?_)
      refine bodyPost_ret (results_cell_tmp (cs := [.int .i64 x0, .int .i64 x1, .int .i64 x2, .int .i64 x3, .int .i64 x4, .int .i64 x5, .int .i64 x6, .int .i64 x7]) Tryd.results29 (by rfl) (by rfl) (World.rangeAt_setCells_same _ _ _ _ hth) Tryd.underlying23 rfl (by kernel_rfl)) rfl ?_
      exact ⟨by rw [HO.out.1, HO.out.2, HX.out]; rfl, setCells_below _ _ hb03 (by omega)⟩

set_option maxRecDepth 100000 in
set_option maxHeartbeats 1000000 in
theorem Read_any (s : ByteArray) (w : World) (hs : s.size ≤ maxLen) (ht : TabOk w) :
    Calls Tryd.prog 10 #[.string s] w fun e w' => e = .returned (.tuple #[.agg #[.int .i64 (readG s).N, .int .i64 (readG s).S, .int .i64 (readG s).B, .int .i64 (readG s).P, .int .i64 (readG s).J, .int .i64 (readG s).L, .int .i64 (readG s).E, .int .i64 (readG s).T], .int .i64 (readE s)]) ∧ Below w.heap.size w w' := by
  have z0 := Blk.new w #[.int .i64 0, .int .i64 0, .int .i64 0, .int .i64 0, .int .i64 0, .int .i64 0, .int .i64 0, .int .i64 0] 23
  go_enter Tryd.func10, Tryd.ntmps10
  go_wp2_with fail
  refine (newSuperblock_any _).mono ?_
  rintro e w1 ⟨A1, rfl, hb1, hl1⟩
  have hb01 := boxed hb1
  have ht1 := ht.below hb01
  have z1 := z0.below hb1 z0.lt
  clear hb1 z0
  go_wp2_with fail
  refine (read_f s A1 _ hs hl1 ht1).mono ?_
  rintro e w2 ⟨rfl, hb2⟩
  have hb02 := below_then hb01 hb2
  have z2 := z1.below hb2 z1.lt
  have hth := z2.there
  clear z1 z2 hl1 ht1 hb01 hb2
  go_wp2_with (refine wpList_store_mid (op := ⟨none, .store 23 _ _, _, _, _, none⟩) rfl 23 _ _ (by rfl) w.heap.size 0 #[.int .i64 (readG s).N, .int .i64 (readG s).S, .int .i64 (readG s).B, .int .i64 (readG s).P, .int .i64 (readG s).J, .int .i64 (readG s).L, .int .i64 (readG s).E, .int .i64 (readG s).T] (by rfl) (by rfl) (by assumption) (by kernel_rfl) (by kernel_rfl) ?_)
  refine bodyPost_ret (results_cell_tmp (cs := [.int .i64 (readG s).N, .int .i64 (readG s).S, .int .i64 (readG s).B, .int .i64 (readG s).P, .int .i64 (readG s).J, .int .i64 (readG s).L, .int .i64 (readG s).E, .int .i64 (readG s).T]) Tryd.results10 (by rfl) (by rfl) (World.rangeAt_setCells_same _ _ _ _ hth) Tryd.underlying23 rfl (by kernel_rfl)) rfl ?_
  exact ⟨rfl, setCells_below _ _ hb02 (Nat.le_refl _)⟩

end Go.Proofs.YtaegkpfjopajpaaDoor
