/-
  The program's actor: what it flushes: by contract.
-/
import Derived.Test.YteighdlhonegpaaDevActG
namespace Go.Proofs.Yteighdlhonegpaa
open Go.RowKit
set_option linter.unusedVariables false
set_option linter.unusedSimpArgs false

theorem eraseIdx_zero (c : Cel) (r : List Cel) : (c :: r).eraseIdx 0 = r := rfl

set_option maxRecDepth 100000 in
set_option maxHeartbeats 4000000 in
theorem flush_any (B b : Nat) (D : Dev) (i : Nat) (w : World) (h : ActorAt w B b D (i : Int)) (hi : i < D.C.length) (hm : MayD D) (hS : Small D 1099511627776) (hB : B ≤ w.heap.size) :
    Calls Try.prog 56 #[.pointer (some ⟨b, 0, none⟩)] w fun e w' => e = .returned (.tuple #[]) ∧ ActorAt w' B b (flushD D i) (i : Int) ∧ Below B w w' := by
  obtain ⟨vS, vC, vK, vF, f, h⟩ := h
  have hbx := h.box
  have hck := cache_ok hm i
  obtain ⟨gc, cap, a, c, rfl, hgl, hcc, hff, hfi, hcm, hlc, hla⟩ := act_cache h hi
  have c1 := hbx.c1
  have c5 := hbx.c5
  have i0 : (0 : Int) ≤ (i : Int) := by omega
  have i1 : (i : Int) < (D.C.length : Int) := by omega
  cases hcs : cacheOf D i with
  | nil =>
    have HF : Hid (flushD D i = D) := by show flushD D i = D; unfold flushD; rw [hcs]
    have HA : Hid (ActorAt w.drew B b D (i : Int)) := ⟨_, _, _, _, _, h.drew⟩
    have hl0 : (cacheOf D i).length = 0 := by rw [hcs]; rfl
    rw [hl0] at hcc
    clear hck hm hcs hl0 hla hlc hfi h hbx
    generalize D.C.length = nC at *
    go_enter Try.func56, Try.ntmps56
    go_wp2_with fail
    go_region_held3 (fun w' => w'.cell? ⟨b, 1, none⟩ = some (.slice (some ⟨gc, 0, none⟩) nC cap) ∧ w'.cell? ⟨b, 5, none⟩ = some (.int .i64 (i : Int)) ∧ w'.cell? ⟨gc, i, none⟩ = some (.slice a 0 c)) (go_keep) (fail)
    go_wp2_with fail
    refine bodyPost_ret (results_none rfl _ _ _) rfl ?_
    refine ⟨rfl, ?_, (Below.refl _ _).drew⟩
    rw [HF.out]
    exact HA.out
  | cons x r =>
    have hlen : (cacheOf D i).length = r.length + 1 := by rw [hcs]; rfl
    have hx := hck.a x (by rw [hcs]; simp)
    obtain ⟨x1, xt⟩ := x
    obtain ⟨hx0, hx1, _⟩ := hx
    simp only at hx0 hx1
    obtain ⟨s, rfl⟩ := Int.eq_ofNat_of_zero_le hx0
    have hsl : s < D.S.length := by omega
    have HF : Hid (flushD D i = { D with S := D.S.set s xt, C := D.C.set i r }) := by
      show flushD D i = _
      unfold flushD
      rw [hcs]
      simp only [Int.toNat_natCast]
    obtain ⟨ga, c', e2, hBa, hal, hba, hca, hsa, hd1, hd2, hz1, hz2⟩ := act_cell h hi (k := 0) (by omega)
    obtain ⟨rfl, rfl⟩ : a = some ⟨ga, 0, none⟩ ∧ c = c' := by rw [hfi] at e2; injection e2 with e1 _ e2; exact ⟨e1, e2⟩
    have hca := hca gc rfl
    have hg0 : (cacheOf D i)[0]'(by omega) = ((s : Int), xt) := by simp [hcs]
    rw [hg0] at hd1 hd2
    simp only [Nat.zero_mul, Nat.zero_add] at hd1 hd2 hz1 hz2
    obtain ⟨gs, caps, rfl, hgB, hgs, hbs, hds, hzs⟩ := act_sector h hsl
    have hsa := hsa gs rfl
    have hHs : (w.alloc (.cells #[.int .i64 (s : Int), .string xt] 59)).heap.size = w.heap.size + 1 := by simp
    -- the world in which the first cell lies in a block of its own, and stands
    obtain ⟨W2, hW2⟩ : ∃ W2, W2 = (w.setCell ⟨gs, s, none⟩ (.string xt)).alloc (.cells #[.int .i64 (s : Int), .string xt] 59) := ⟨_, rfl⟩
    have hA2 := h.setS rfl s xt
    have m3 : ((w.setCell ⟨gs, s, none⟩ (.string xt)).alloc (.cells #[.int .i64 (s : Int), .string xt] 59)).cell? ⟨b, 0, none⟩ = some (.slice (some ⟨gs, 0, none⟩) D.S.length caps) := Lib.cell?_alloc_some _ hA2.box.c0
    have pb := Blk.new (w.setCell ⟨gs, s, none⟩ (.string xt)) #[.int .i64 (s : Int), .string xt] 59
    rw [show (w.setCell ⟨gs, s, none⟩ (.string xt)).heap.size = w.heap.size by simp] at pb
    have m4 := pb.cell 0 _ rfl
    have m5 := pb.cell 1 _ rfl
    clear pb
    have HA2 : Hid (ActorAt W2.drew.drew.drew B b { D with S := D.S.set s xt } (i : Int)) := ⟨_, _, _, _, _, hW2 ▸ (hA2.up (below_alloc _ _)).drew.drew.drew⟩
    have hb2 : Below B w W2.drew.drew.drew := by
      rw [hW2]
      exact (((Below.refl B w).setCell (by simpa using hgB) _).alloc (by simpa using hB) _).drew.drew.drew
    have HB2 := Lib.hid hb2
    have HS : Hid (Small { D with S := D.S.set s xt } 1099511627776) := ⟨by simpa using hS.s, hS.f, hS.k, hS.c, hS.cs⟩
    have HC : Hid (cacheOf { D with S := D.S.set s xt } i = ((s : Int), xt) :: r) := hcs
    have HDR := Lib.hid (drop_any B b { D with S := D.S.set s xt } i 0 W2.drew.drew.drew HA2.out hi (by rw [HC.out]; simp) HS.out)
    have c0 := hbx.c0
    have n1 : ((((cacheOf D i).length : Nat) : Int) == 0) = false := beq_no (by omega)
    have n2 : (0 : Int) < ((cacheOf D i).length : Int) := by omega
    have n3 : 0 < (cacheOf D i).length := by omega
    have s0 : (0 : Int) ≤ (s : Int) := by omega
    have s1 : (s : Int) < (D.S.length : Int) := by omega
    have q0 := World.new_ne w _ c0
    have q1 := World.new_ne w _ c1
    have q2 := World.new_ne w _ hcc
    have q3 := World.new_ne w _ hd1
    have q4 := World.new_ne w _ hds
    clear hck hm hcs hlen hla hlc hfi h hbx e2 hg0 hA2 hb2 hS
    have m0 := Lib.cell?_alloc_some (.cells #[.int .i64 (s : Int), .string xt] 59) c0
    have m1 : (w.alloc (.cells #[.int .i64 (s : Int), .string xt] 59)).cell? ⟨w.heap.size, 0, none⟩ = some (.int .i64 (s : Int)) := (Blk.new w _ _).cell 0 _ rfl
    have m2 : (w.alloc (.cells #[.int .i64 (s : Int), .string xt] 59)).cell? ⟨w.heap.size, 1, none⟩ = some (.string xt) := (Blk.new w _ _).cell 1 _ rfl
    generalize (cacheOf D i).length = nl at *
    generalize D.S[s] = tOld at *
    generalize D.C.length = nC at *
    generalize D.S.length = nS at *
    go_enter Try.func56, Try.ntmps56
    go_wp2_with fail
    go_region_held3 (fun w' => w'.cell? ⟨b, 1, none⟩ = some (.slice (some ⟨gc, 0, none⟩) nC cap) ∧ w'.cell? ⟨b, 5, none⟩ = some (.int .i64 (i : Int)) ∧ w'.cell? ⟨gc, i, none⟩ = some (.slice (some ⟨ga, 0, none⟩) nl c)) (go_keep) (fail)
    go_wp2_with fail
    go_region_held3 (fun w' => w'.cell? ⟨b, 1, none⟩ = some (.slice (some ⟨gc, 0, none⟩) nC cap) ∧ w'.cell? ⟨b, 5, none⟩ = some (.int .i64 (i : Int)) ∧ w'.cell? ⟨gc, i, none⟩ = some (.slice (some ⟨ga, 0, none⟩) nl c) ∧ w'.cell? ⟨ga, 0, none⟩ = some (.int .i64 (s : Int)) ∧ w'.cell? ⟨ga, 1, none⟩ = some (.string xt)) (go_keep) (fail)
    go_wp2_with fail
    go_region_held3 (fun w' => w'.cell? ⟨b, 0, none⟩ = some (.slice (some ⟨gs, 0, none⟩) nS caps) ∧ w'.cell? ⟨w.heap.size, 0, none⟩ = some (.int .i64 (s : Int)) ∧ w'.cell? ⟨w.heap.size, 1, none⟩ = some (.string xt)) (first | exact ⟨m0, m1, m2⟩ | exact ⟨m3, m4, m5⟩) (fail)
    clear m0 m1 m2 m3 m4 m5 q0 q1 q2 q3 q4
    rw [← hW2]
    clear hW2
    have hdr := HDR.out
    rw [HC.out, eraseIdx_zero] at hdr
    clear HA2 HDR
    go_wp2_with fail
    refine hdr.mono ?_
    rintro e w2 ⟨rfl, hA3, hb3⟩
    have HA3 := Lib.hid hA3
    clear hA3 hdr
    go_wp2_with fail
    go_end0
    refine ⟨rfl, ?_, HB2.out.trans hb3⟩
    rw [HF.out]
    exact HA3.out

end Go.Proofs.Yteighdlhonegpaa
