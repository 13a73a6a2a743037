/-
  super: the document's own superblocks and headers: by contract.
-/
import Derived.Test.YtaegkpfjopajpaaDoorSuperRead
import Derived.Test.YtaegkpfjopajpaaDoorGeoRefs
namespace Go.Proofs.YtaegkpfjopajpaaDoor
open Go.RowKit
set_option linter.unusedVariables false
set_option linter.unusedSimpArgs false

theorem RR.alloc {g : G} {w W : World} (h : RR g w W) (o : Obj) : RR g w (W.alloc o) := h.call ((Below.refl _ _).alloc (Nat.le_refl _) o)
theorem sheld_of {g : G} {w W : World} (h : RR g w W) : W.cell? ⟨w.heap.size, 0, none⟩ = some (.int .i64 g.N) ∧ W.cell? ⟨w.heap.size, 1, none⟩ = some (.int .i64 g.S) ∧ W.cell? ⟨w.heap.size, 2, none⟩ = some (.int .i64 g.B) ∧ W.cell? ⟨w.heap.size, 3, none⟩ = some (.int .i64 g.P) ∧ W.cell? ⟨w.heap.size, 4, none⟩ = some (.int .i64 g.J) ∧ W.cell? ⟨w.heap.size, 5, none⟩ = some (.int .i64 g.L) ∧ W.cell? ⟨w.heap.size, 6, none⟩ = some (.int .i64 g.E) ∧ W.cell? ⟨w.heap.size, 7, none⟩ = some (.int .i64 g.T) ∧ RR g w W := by
  have h2 := h.2.1
  unfold GAt at h2
  exact ⟨h2.1, h2.2.1, h2.2.2.1, h2.2.2.2.1, h2.2.2.2.2.1, h2.2.2.2.2.2.1, h2.2.2.2.2.2.2.1, h2.2.2.2.2.2.2.2, h⟩
theorem srr_of {g : G} {w W : World} (h : W.cell? ⟨w.heap.size, 0, none⟩ = some (.int .i64 g.N) ∧ W.cell? ⟨w.heap.size, 1, none⟩ = some (.int .i64 g.S) ∧ W.cell? ⟨w.heap.size, 2, none⟩ = some (.int .i64 g.B) ∧ W.cell? ⟨w.heap.size, 3, none⟩ = some (.int .i64 g.P) ∧ W.cell? ⟨w.heap.size, 4, none⟩ = some (.int .i64 g.J) ∧ W.cell? ⟨w.heap.size, 5, none⟩ = some (.int .i64 g.L) ∧ W.cell? ⟨w.heap.size, 6, none⟩ = some (.int .i64 g.E) ∧ W.cell? ⟨w.heap.size, 7, none⟩ = some (.int .i64 g.T) ∧ RR g w W) : RR g w W := h.2.2.2.2.2.2.2.2

set_option maxRecDepth 100000 in
theorem refWidths_any (w : World) : Calls Tryd.prog 28 #[] w fun e w' => ∃ A, e = .returned (.slice A 8 8) ∧ Below w.heap.size w w' ∧ Lies w' w'.heap.size A 8 (supW.map (Value.int .i64)) := by
  go_enter Tryd.func28, Tryd.ntmps28
  go_wp2_with fail
  go_ret
  refine ⟨_, rfl, (Below.refl _ _).alloc (Nat.le_refl _) _, ?_⟩
  have h := lies_new w #[.int .i64 2, .int .i64 2, .int .i64 2, .int .i64 2, .int .i64 2, .int .i64 2, .int .i64 4, .int .i64 4] 3 (0, 0)
  simpa [supW] using h
theorem hWidths (g : G) (w W : World) (h : W.cell? ⟨w.heap.size, 0, none⟩ = some (.int .i64 g.N) ∧ W.cell? ⟨w.heap.size, 1, none⟩ = some (.int .i64 g.S) ∧ W.cell? ⟨w.heap.size, 2, none⟩ = some (.int .i64 g.B) ∧ W.cell? ⟨w.heap.size, 3, none⟩ = some (.int .i64 g.P) ∧ W.cell? ⟨w.heap.size, 4, none⟩ = some (.int .i64 g.J) ∧ W.cell? ⟨w.heap.size, 5, none⟩ = some (.int .i64 g.L) ∧ W.cell? ⟨w.heap.size, 6, none⟩ = some (.int .i64 g.E) ∧ W.cell? ⟨w.heap.size, 7, none⟩ = some (.int .i64 g.T) ∧ RR g w W) : Calls Tryd.prog 28 #[] W fun e W' => ∃ A, e = .returned (.slice A 8 8) ∧ Below W.heap.size W W' ∧ Lies W' W'.heap.size A 8 (supW.map (Value.int .i64)) ∧ (W'.cell? ⟨w.heap.size, 0, none⟩ = some (.int .i64 g.N) ∧ W'.cell? ⟨w.heap.size, 1, none⟩ = some (.int .i64 g.S) ∧ W'.cell? ⟨w.heap.size, 2, none⟩ = some (.int .i64 g.B) ∧ W'.cell? ⟨w.heap.size, 3, none⟩ = some (.int .i64 g.P) ∧ W'.cell? ⟨w.heap.size, 4, none⟩ = some (.int .i64 g.J) ∧ W'.cell? ⟨w.heap.size, 5, none⟩ = some (.int .i64 g.L) ∧ W'.cell? ⟨w.heap.size, 6, none⟩ = some (.int .i64 g.E) ∧ W'.cell? ⟨w.heap.size, 7, none⟩ = some (.int .i64 g.T) ∧ RR g w W') :=
  (refWidths_any W).mono fun e W' ⟨A, he, hb, hl⟩ => ⟨A, he, hb, hl, sheld_of ((srr_of h).call hb)⟩
theorem Lies.drew1 {w : World} {B n : Nat} {A : Option Addr} {xs : List Value} (h : Lies w B A n xs) : Lies w.drew B A n xs := h
theorem lies_nums (g : G) (W : World) : Lies (W.alloc (.cells #[.int .i64 g.N, .int .i64 g.S, .int .i64 g.B, .int .i64 g.P, .int .i64 g.J, .int .i64 g.L, .int .i64 g.E, .int .i64 g.T] 3)) (W.alloc (.cells #[.int .i64 g.N, .int .i64 g.S, .int .i64 g.B, .int .i64 g.P, .int .i64 g.J, .int .i64 g.L, .int .i64 g.E, .int .i64 g.T] 3)).heap.size (some ⟨W.heap.size, 0, none⟩) 8 ((numsG g).map (Value.int .i64)) := lies_new W _ _ (0, 0)
theorem hMake (g : G) (w W : World) (A B : Option Addr) (HO : Hid (makeOut 1 ⟨#[]⟩ supW (numsG g) = .returned (.tuple #[.string (bytesV g), .int .i64 (bytesE g)]))) (h : W.cell? ⟨w.heap.size, 0, none⟩ = some (.int .i64 g.N) ∧ W.cell? ⟨w.heap.size, 1, none⟩ = some (.int .i64 g.S) ∧ W.cell? ⟨w.heap.size, 2, none⟩ = some (.int .i64 g.B) ∧ W.cell? ⟨w.heap.size, 3, none⟩ = some (.int .i64 g.P) ∧ W.cell? ⟨w.heap.size, 4, none⟩ = some (.int .i64 g.J) ∧ W.cell? ⟨w.heap.size, 5, none⟩ = some (.int .i64 g.L) ∧ W.cell? ⟨w.heap.size, 6, none⟩ = some (.int .i64 g.E) ∧ W.cell? ⟨w.heap.size, 7, none⟩ = some (.int .i64 g.T) ∧ RR g w W) (hA : Lies W W.heap.size A 8 (supW.map (Value.int .i64))) (hB : Lies W W.heap.size B 8 ((numsG g).map (Value.int .i64))) :
    Calls Tryd.prog 27 #[.int .i8 1, .string ⟨#[]⟩, .slice A 8 8, .slice B 8 8] W fun e W' => e = .returned (.tuple #[.string (bytesV g), .int .i64 (bytesE g)]) ∧ W'.cell? ⟨w.heap.size, 0, none⟩ = some (.int .i64 g.N) ∧ W'.cell? ⟨w.heap.size, 1, none⟩ = some (.int .i64 g.S) ∧ W'.cell? ⟨w.heap.size, 2, none⟩ = some (.int .i64 g.B) ∧ W'.cell? ⟨w.heap.size, 3, none⟩ = some (.int .i64 g.P) ∧ W'.cell? ⟨w.heap.size, 4, none⟩ = some (.int .i64 g.J) ∧ W'.cell? ⟨w.heap.size, 5, none⟩ = some (.int .i64 g.L) ∧ W'.cell? ⟨w.heap.size, 6, none⟩ = some (.int .i64 g.E) ∧ W'.cell? ⟨w.heap.size, 7, none⟩ = some (.int .i64 g.T) ∧ RR g w W' :=
  (refMake_any 1 ⟨#[]⟩ A B 8 8 8 8 supW (numsG g) W (by omega) (by decide) hA hB (by omega) (by omega)).mono fun e W' ⟨he, hb⟩ => ⟨he.trans HO.out, sheld_of ((srr_of h).call hb)⟩

set_option maxRecDepth 100000 in
set_option maxHeartbeats 2000000 in
theorem refBytes_any (g : G) (w : World) :
    Calls Tryd.prog 9 #[.agg #[.int .i64 g.N, .int .i64 g.S, .int .i64 g.B, .int .i64 g.P, .int .i64 g.J, .int .i64 g.L, .int .i64 g.E, .int .i64 g.T]] w fun e w' => e = .returned (.tuple #[.string (bytesV g), .int .i64 (bytesE g)]) ∧ Below w.heap.size w w' := by
  have HR0 := RR.start g w
  go_enter Tryd.func9, Tryd.ntmps9
  go_wp2_with fail
  refine (refMay_any g _).mono ?_
  rintro e w1 ⟨rfl, hb⟩
  have hb1 := boxed hb
  rcases hm : mayG g with _ | _
  · have HO := Lib.hid (bytes_no hm)
    clear hm
    go_wp2_with fail
    go_ret2
    exact ⟨by rw [HO.out.1, HO.out.2]; rfl, hb1⟩
  · have HO := Lib.hid (make_sup hm)
    have hH := sheld_of (HR0.call hb).drew
    clear hm hb HR0
    go_upto_region 3 with fail
    go_region_held3 (fun W => W.cell? ⟨w.heap.size, 0, none⟩ = some (.int .i64 g.N) ∧ W.cell? ⟨w.heap.size, 1, none⟩ = some (.int .i64 g.S) ∧ W.cell? ⟨w.heap.size, 2, none⟩ = some (.int .i64 g.B) ∧ W.cell? ⟨w.heap.size, 3, none⟩ = some (.int .i64 g.P) ∧ W.cell? ⟨w.heap.size, 4, none⟩ = some (.int .i64 g.J) ∧ W.cell? ⟨w.heap.size, 5, none⟩ = some (.int .i64 g.L) ∧ W.cell? ⟨w.heap.size, 6, none⟩ = some (.int .i64 g.E) ∧ W.cell? ⟨w.heap.size, 7, none⟩ = some (.int .i64 g.T) ∧ RR g w W) (first | assumption | exact sheld_of ((srr_of (by assumption)).alloc _))
      (first
        | (go_at_call 28; (with_reducible refine (hWidths g w _ ?_).mono ?_); assumption; rintro e W1 ⟨A1, rfl, hbw, hlw, hN⟩)
        | (go_at_call 27; (with_reducible refine (hMake g w _ _ _ HO ?_ ?_ ?_).mono ?_); assumption; (first | with_reducible exact hlw | exact hlw.alloc _); (first | exact lies_nums _ _ | exact (Lies.drew1 (lies_nums _ _)).up hbw (Nat.le_refl _)); rintro e W2 ⟨rfl, hN⟩))
    all_goals
      go_wp2_with fail
      go_ret2
      exact ⟨rfl, (srr_of hN).1⟩

set_option maxRecDepth 100000 in
set_option maxHeartbeats 1000000 in
theorem refHead_any (t : Int) (w : World) :
    Calls Tryd.prog 13 #[.int .i64 t] w fun e w' => e = .returned (.tuple #[.string (headV' t), .int .i64 (headE t)]) ∧ Below w.heap.size w w' := by
  have HO := Lib.hid (make_head t)
  go_enter Tryd.func13, Tryd.ntmps13
  go_wp2_with fail
  have h1 := lies_new w #[.int .i64 6] 3 (0, 0)
  have h2 := lies_new (w.alloc (.cells #[.int .i64 6] 3)) #[.int .i64 t] 3 (0, 0)
  refine (refMake_any 2 ⟨#[]⟩ _ _ 1 1 1 1 headW [t] _ (by omega) (by decide) (h1.alloc _) (by simpa using h2) (by omega) (by omega)).mono ?_
  rintro e w2 ⟨rfl, hb2⟩
  rw [HO.out]
  go_wp2_with fail
  go_ret2
  exact ⟨rfl, below_then ((Below.refl _ _).alloc (Nat.le_refl _) _) (boxed hb2)⟩

set_option maxRecDepth 100000 in
set_option maxHeartbeats 1000000 in
theorem refTail_any (s : ByteArray) (w : World) (hs : s.size ≤ maxLen) :
    Calls Tryd.prog 15 #[.string s] w fun e w' => e = .returned (.tuple #[.int .i64 (tailV s), .int .i64 (tailE s)]) ∧ Below w.heap.size w w' := by
  go_enter Tryd.func15, Tryd.ntmps15
  go_wp2_with fail
  have h1 := lies_new w #[.int .i64 6] 3 (0, 0)
  refine (refFields_any 2 s _ 1 1 headW _ hs h1 (by omega)).mono ?_
  rintro e w1 ⟨hb, A1, n1, c1, rfl, HN, hl⟩
  have hb1 := boxed hb
  clear hb h1
  rcases hB : fldB 2 s headW with _ | _
  · have HO := Lib.hid (tailV_no (s := s) (by unfold tailB; rw [hB]; rfl))
    have he : fldErr 2 s headW = 30 := by simp [fldErr, hB]
    rw [he]
    clear hB he hl
    generalize fldRest 2 s headW = R
    go_wp2_with fail
    go_ret2
    exact ⟨by rw [HO.out.1, HO.out.2]; rfl, hb1⟩
  · have he : fldErr 2 s headW = 0 := by simp [fldErr, hB]
    rw [he]
    by_cases hr : fldRest 2 s headW = ⟨#[]⟩
    · have hf : tailB s = true := by unfold tailB; rw [hB, decide_eq_true hr]; rfl
      have HO := Lib.hid (tailV_yes hf)
      have hlen : (fldVal 2 s headW).length = 1 := (make_fields hB hr).2.2.1
      obtain rfl : 1 = n1 := hlen.symm.trans HN.out
      obtain ⟨x, HX⟩ : ∃ x, Hid (fldVal 2 s headW = [x]) := by
        match hv : fldVal 2 s headW, hlen with
        | [a], _ => exact ⟨a, rfl⟩
      rw [HX.out] at hl
      obtain ⟨ad, u, rfl, hlt, hu, hc⟩ := hl.at_ (k := 0) (by omega)
      obtain rfl : .int .i64 x = u := by simpa using hu
      have hc : w1.cell? ad = some (.int .i64 x) := by simpa [Addr.add] using hc
      rw [hr]
      clear hf hl HN hlen hu hB hr he
      go_wp2_with fail
      go_ret2
      exact ⟨by rw [HO.out.1, HO.out.2, HX.out]; rfl, hb1⟩
    · have HO := Lib.hid (tailV_no (s := s) (by unfold tailB; rw [decide_eq_false hr, Bool.and_false]))
      have hd := notEmpty hr
      clear hB he hl hr
      generalize fldRest 2 s headW = R at hd ⊢
      go_wp2_with fail
      go_ret2
      exact ⟨by rw [HO.out.1, HO.out.2]; rfl, hb1⟩

set_option maxRecDepth 100000 in
set_option maxHeartbeats 2000000 in
theorem refRead_any (s : ByteArray) (w : World) (hs : s.size ≤ maxLen) :
    Calls Tryd.prog 11 #[.string s] w fun e w' => e = .returned (.tuple #[.agg #[.int .i64 (readG s).N, .int .i64 (readG s).S, .int .i64 (readG s).B, .int .i64 (readG s).P, .int .i64 (readG s).J, .int .i64 (readG s).L, .int .i64 (readG s).E, .int .i64 (readG s).T], .int .i64 (readE s)]) ∧ Below w.heap.size w w' := by
  have z0 := Blk.new w #[.int .i64 0, .int .i64 0, .int .i64 0, .int .i64 0, .int .i64 0, .int .i64 0, .int .i64 0, .int .i64 0] 23
  go_enter Tryd.func11, Tryd.ntmps11
  go_wp2_with fail
  refine (refWidths_any _).mono ?_
  rintro e w0 ⟨A0, rfl, hb0, hl0⟩
  have z0' := z0.below hb0 z0.lt
  have hb00 := boxed hb0
  clear z0 hb0
  go_wp2_with fail
  refine (refFields_any 1 s A0 8 8 supW _ hs hl0 (by omega)).mono ?_
  rintro e w1 ⟨hb, A1, n1, c1, rfl, HN, hl⟩
  have hb1 := below_then hb00 hb
  have z1 := z0'.below hb z0'.lt
  clear hb z0' hb00 hl0
  rcases hB : fldB 1 s supW with _ | _
  · have HO := Lib.hid (readG_no (readB_not (s := s) (by unfold supF; rw [hB]; rfl)))
    have he : fldErr 1 s supW = 30 := by simp [fldErr, hB]
    have hth := z1.there
    rw [he]
    clear hB he hl
    generalize fldRest 1 s supW = R
    go_wp2_with (refine wpList_store_mid (op := ⟨none, .store 23 _ _, _, _, _, none⟩) rfl 23 _ _ (by rfl) w.heap.size 0 #[.int .i64 0, .int .i64 0, .int .i64 0, .int .i64 0, .int .i64 0, .int .i64 0, .int .i64 0, .int .i64 0] (by rfl) (by rfl) (by assumption) (by kernel_rfl) (by kernel_rfl) ?_)
    refine bodyPost_ret (results_cell_tmp (cs := [.int .i64 0, .int .i64 0, .int .i64 0, .int .i64 0, .int .i64 0, .int .i64 0, .int .i64 0, .int .i64 0]) Tryd.results11 (by rfl) (by rfl) (World.rangeAt_setCells_same _ _ _ _ hth) Tryd.underlying23 rfl (by kernel_rfl)) rfl ?_
    exact ⟨by rw [HO.out.1, HO.out.2]; rfl, setCells_below _ _ hb1 (Nat.le_refl _)⟩
  · have he : fldErr 1 s supW = 0 := by simp [fldErr, hB]
    rw [he]
    by_cases hr : fldRest 1 s supW = ⟨#[]⟩
    rotate_left
    · have HO := Lib.hid (readG_no (readB_not (s := s) (by unfold supF; rw [decide_eq_false hr, Bool.and_false])))
      have hth := z1.there
      have hd := notEmpty hr
      clear hB he hl hr
      generalize fldRest 1 s supW = R at hd ⊢
      go_wp2_with (refine wpList_store_mid (op := ⟨none, .store 23 _ _, _, _, _, none⟩) rfl 23 _ _ (by rfl) w.heap.size 0 #[.int .i64 0, .int .i64 0, .int .i64 0, .int .i64 0, .int .i64 0, .int .i64 0, .int .i64 0, .int .i64 0] (by rfl) (by rfl) (by assumption) (by kernel_rfl) (by kernel_rfl) ?_)
      refine bodyPost_ret (results_cell_tmp (cs := [.int .i64 0, .int .i64 0, .int .i64 0, .int .i64 0, .int .i64 0, .int .i64 0, .int .i64 0, .int .i64 0]) Tryd.results11 (by rfl) (by rfl) (World.rangeAt_setCells_same _ _ _ _ hth) Tryd.underlying23 rfl (by kernel_rfl)) rfl ?_
      exact ⟨by rw [HO.out.1, HO.out.2]; rfl, setCells_below _ _ hb1 (Nat.le_refl _)⟩
    have hf : supF s = true := by unfold supF; rw [hB, decide_eq_true hr]; rfl
    have hlen : (fldVal 1 s supW).length = 8 := (make_fields hB hr).2.2.1
    obtain rfl : 8 = n1 := hlen.symm.trans HN.out
    obtain ⟨x0, x1, x2, x3, x4, x5, x6, x7, HX⟩ : ∃ x0 x1 x2 x3 x4 x5 x6 x7, Hid (fldVal 1 s supW = [x0, x1, x2, x3, x4, x5, x6, x7]) := by
      match hv : fldVal 1 s supW, hlen with
      | [a, b, c, d, e, f, g, i], _ => exact ⟨a, b, c, d, e, f, g, i, rfl⟩
    rw [HX.out] at hl
    obtain ⟨ad, hA1, hlt, hcs⟩ := hl.2 (by omega)
    subst hA1
    have c0 : w1.cell? ad = some (.int .i64 x0) := by simpa [Addr.add] using hcs 0 _ rfl
    have c1 : w1.cell? ⟨ad.block, ad.off + 1, none⟩ = some (.int .i64 x1) := by simpa [Addr.add] using hcs 1 _ rfl
    have c2 : w1.cell? ⟨ad.block, ad.off + 2, none⟩ = some (.int .i64 x2) := by simpa [Addr.add] using hcs 2 _ rfl
    have c3 : w1.cell? ⟨ad.block, ad.off + 3, none⟩ = some (.int .i64 x3) := by simpa [Addr.add] using hcs 3 _ rfl
    have c4 : w1.cell? ⟨ad.block, ad.off + 4, none⟩ = some (.int .i64 x4) := by simpa [Addr.add] using hcs 4 _ rfl
    have c5 : w1.cell? ⟨ad.block, ad.off + 5, none⟩ = some (.int .i64 x5) := by simpa [Addr.add] using hcs 5 _ rfl
    have c6 : w1.cell? ⟨ad.block, ad.off + 6, none⟩ = some (.int .i64 x6) := by simpa [Addr.add] using hcs 6 _ rfl
    have c7 : w1.cell? ⟨ad.block, ad.off + 7, none⟩ = some (.int .i64 x7) := by simpa [Addr.add] using hcs 7 _ rfl
    have HB := Lib.hid (readB_of hf)
    rw [hr]
    clear hf hl HN hlen hcs hB hr he
    go_upto_region 4 with fail
    go_region_held3 (fun W => W.cell? ad = some (.int .i64 x0) ∧ W.cell? ⟨ad.block, ad.off + 1, none⟩ = some (.int .i64 x1) ∧ W.cell? ⟨ad.block, ad.off + 2, none⟩ = some (.int .i64 x2) ∧ W.cell? ⟨ad.block, ad.off + 3, none⟩ = some (.int .i64 x3) ∧ W.cell? ⟨ad.block, ad.off + 4, none⟩ = some (.int .i64 x4) ∧ W.cell? ⟨ad.block, ad.off + 5, none⟩ = some (.int .i64 x5) ∧ W.cell? ⟨ad.block, ad.off + 6, none⟩ = some (.int .i64 x6) ∧ W.cell? ⟨ad.block, ad.off + 7, none⟩ = some (.int .i64 x7)) (first | go_keep) (first | fail)
    have y2 := (Blk.new w1 #[.int .i64 x0, .int .i64 x1, .int .i64 x2, .int .i64 x3, .int .i64 x4, .int .i64 x5, .int .i64 x6, .int .i64 x7] 23).drew
    have hb2 := (hb1.alloc hb1.size (.cells #[.int .i64 x0, .int .i64 x1, .int .i64 x2, .int .i64 x3, .int .i64 x4, .int .i64 x5, .int .i64 x6, .int .i64 x7] 23)).drew
    have z2 := (z1.alloc (.cells #[.int .i64 x0, .int .i64 x1, .int .i64 x2, .int .i64 x3, .int .i64 x4, .int .i64 x5, .int .i64 x6, .int .i64 x7] 23)).drew
    generalize (w1.alloc (.cells #[.int .i64 x0, .int .i64 x1, .int .i64 x2, .int .i64 x3, .int .i64 x4, .int .i64 x5, .int .i64 x6, .int .i64 x7] 23)).drew = w2 at *
    clear c0 c1 c2 c3 c4 c5 c6 c7 z1 hb1 hlt
    have e0 := y2.cell 0 _ rfl
    have e1 := y2.cell 1 _ rfl
    have e2 := y2.cell 2 _ rfl
    have e3 := y2.cell 3 _ rfl
    have e4 := y2.cell 4 _ rfl
    have e5 := y2.cell 5 _ rfl
    have e6 := y2.cell 6 _ rfl
    have e7 := y2.cell 7 _ rfl
    go_wp2_with fail
    refine (refMay_any ⟨x0, x1, x2, x3, x4, x5, x6, x7⟩ _).mono ?_
    rintro e w3 ⟨rfl, hb3⟩
    have y3 := y2.below hb3 y2.lt
    have z3 := z2.below hb3 z2.lt
    have hb03 := below_then hb2 hb3
    have hth := z3.there
    have HC : Hid (readB s = mayG ⟨x0, x1, x2, x3, x4, x5, x6, x7⟩) := by show _ = _; rw [HB.out, HX.out]; rfl
    clear e0 e1 e2 e3 e4 e5 e6 e7 y2 z2 hb2 hb3 HB z3
    rcases hm : mayG ⟨x0, x1, x2, x3, x4, x5, x6, x7⟩ with _ | _
    · have HO := Lib.hid (readG_no (HC.out.trans hm))
      clear hm HC
      go_wp2_with (refine wpList_store_mid (op := ⟨none, .store 23 _ _, _, _, _, none⟩) rfl 23 _ _ (by rfl) w.heap.size 0 #[.int .i64 0, .int .i64 0, .int .i64 0, .int .i64 0, .int .i64 0, .int .i64 0, .int .i64 0, .int .i64 0] (by rfl) (by rfl) (by assumption) (by kernel_rfl) (by kernel_rfl) ?_)
      refine bodyPost_ret (results_cell_tmp (cs := [.int .i64 0, .int .i64 0, .int .i64 0, .int .i64 0, .int .i64 0, .int .i64 0, .int .i64 0, .int .i64 0]) Tryd.results11 (by rfl) (by rfl) (World.rangeAt_setCells_same _ _ _ _ hth) Tryd.underlying23 rfl (by kernel_rfl)) rfl ?_
      exact ⟨by rw [HO.out.1, HO.out.2]; rfl, setCells_below _ _ hb03 (Nat.le_refl _)⟩
    · have HO := Lib.hid (readG_yes (HC.out.trans hm))
      clear hm HC
      have e0 := y3.cell 0 _ rfl
      have e1 := y3.cell 1 _ rfl
      have e2 := y3.cell 2 _ rfl
      have e3 := y3.cell 3 _ rfl
      have e4 := y3.cell 4 _ rfl
      have e5 := y3.cell 5 _ rfl
      have e6 := y3.cell 6 _ rfl
      have e7 := y3.cell 7 _ rfl
      clear y3
      go_wp2_with (refine wpList_store_mid (op := ⟨none, .store 23 _ _, _, _, _, none⟩) rfl 23 _ _ (by rfl) w.heap.size 0 #[.int .i64 x0, .int .i64 x1, .int .i64 x2, .int .i64 x3, .int .i64 x4, .int .i64 x5, .int .i64 x6, .int .i64 x7] (by rfl) (by rfl) (by assumption) (by kernel_rfl) (by kernel_rfl) ?_)
      refine bodyPost_ret (results_cell_tmp (cs := [.int .i64 x0, .int .i64 x1, .int .i64 x2, .int .i64 x3, .int .i64 x4, .int .i64 x5, .int .i64 x6, .int .i64 x7]) Tryd.results11 (by rfl) (by rfl) (World.rangeAt_setCells_same _ _ _ _ hth) Tryd.underlying23 rfl (by kernel_rfl)) rfl ?_
      exact ⟨by rw [HO.out.1, HO.out.2, HX.out]; rfl, setCells_below _ _ hb03 (Nat.le_refl _)⟩

end Go.Proofs.YtaegkpfjopajpaaDoor
