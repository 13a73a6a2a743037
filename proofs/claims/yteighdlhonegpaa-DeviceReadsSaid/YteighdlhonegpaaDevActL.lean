/-
  The program's actor: a crash: by contract.
-/
import Derived.Test.YteighdlhonegpaaDevActI
namespace Go.Proofs.Yteighdlhonegpaa
open Go.RowKit
set_option linter.unusedVariables false
set_option linter.unusedSimpArgs false

theorem shr_min {kept k : Nat} (h : kept < 18446744073709551616) : ((kept : Int) / 2 ^ min k 64) = ((kept / 2 ^ k : Nat) : Int) := by
  have e : kept / 2 ^ min k 64 = kept / 2 ^ k := by
    rcases Nat.le_total k 64 with h1 | h1
    · rw [Nat.min_eq_left h1]
    · rw [Nat.min_eq_right h1, Nat.div_eq_of_lt (by simpa using h), Nat.div_eq_of_lt (Nat.lt_of_lt_of_le (by simpa using h) (Nat.pow_le_pow_right (by omega) h1))]
  rw [← e]
  simp
theorem bit_one {x : Nat} (h : x < 18446744073709551616) : bits .and .u64 (x : Int) 1 = ((x % 2 : Nat) : Int) := by
  have := bits_and_u64_nat x 1 h (by omega)
  rw [Nat.and_one_is_mod] at this
  exact this
theorem kept_bit {kept k : Nat} (h : kept < 18446744073709551616) : bits .and .u64 ((kept : Int) / 2 ^ min k 64) 1 = ((kept / 2 ^ k % 2 : Nat) : Int) := by
  rw [shr_min h, bit_one (Nat.lt_of_le_of_lt (Nat.div_le_self _ _) h)]
theorem crash_nil (S : List ByteArray) (kept : Nat) : crashS S [] kept = S := rfl
theorem crash_step {S0 S : List ByteArray} {l : List Cel} {kept k s : Nat} {t : ByteArray} (h : crashS S0 l kept = crashS S (l.drop k) (kept / 2 ^ k)) (hk : k < l.length) (e : l[k] = ((s : Int), t)) :
    crashS S0 l kept = crashS (if kept / 2 ^ k % 2 = 1 then S.set s t else S) (l.drop (k + 1)) (kept / 2 ^ (k + 1)) := by
  rw [h, List.drop_eq_getElem_cons hk, crashS, e]
  simp only [Int.toNat_natCast]
  rw [Nat.pow_succ, ← Nat.div_div_eq_div_mul]

set_option maxRecDepth 100000 in
set_option maxHeartbeats 4000000 in
theorem crash_any (B b : Nat) (D : Dev) (i kept : Nat) (w : World) (h : ActorAt w B b D (i : Int)) (hi : i < D.C.length) (hk : i < D.K.length) (hm : MayD D) (hS : Small D 1099511627776) (hB : B ≤ w.heap.size) (hkept : kept < 18446744073709551616) :
    Calls Try.prog 39 #[.pointer (some ⟨b, 0, none⟩), .int .u64 (kept : Int)] w fun e w' => e = .returned (.tuple #[]) ∧ ActorAt w' B b (crashD D i kept) (i : Int) ∧ Below B w w' := by
  have hc := isOut_any B b D i w h hk hS.k
  cases ho : fencedK D (keyOf D i) with
  | true =>
    rw [ho] at hc
    have HF : Hid (crashD D i kept = { D with C := D.C.set i [] }) := by
      show crashD D i kept = _
      unfold crashD
      rw [ho]
      rfl
    have H := Lib.hid h
    clear h ho
    go_enter Try.func39, Try.ntmps39
    go_wp2_with fail
    refine hc.mono ?_
    rintro e w1 ⟨rfl, hb1⟩
    have hfg := forget_any B b D i w1 (H.out.up hb1) hi
    clear hc H
    go_wp2_with fail
    refine hfg.mono ?_
    rintro e w2 ⟨rfl, h2, hb2⟩
    have H2 := Lib.hid h2
    clear h2 hfg
    go_wp2_with fail
    go_end0
    refine ⟨rfl, ?_, (hb1.mono hB).trans hb2⟩
    rw [HF.out]
    exact H2.out
  | false =>
    rw [ho] at hc
    have HF : Hid (crashD D i kept = { D with S := crashS D.S (cacheOf D i) kept, C := D.C.set i [] }) := by
      show crashD D i kept = _
      unfold crashD
      rw [ho]
      rfl
    have H := Lib.hid h
    have HCK := Lib.hid (cache_ok hm i)
    clear h ho hm
    go_enter Try.func39, Try.ntmps39
    go_wp2_with fail
    refine hc.mono ?_
    rintro e w1 ⟨rfl, hb1⟩
    obtain ⟨vS, vC, vK, vF, f, h1⟩ := H.out.up hb1
    have HB1 := Lib.hid (hb1.mono hB)
    have hB1 : B ≤ w1.heap.size := Nat.le_trans hB hb1.size
    have hbx := h1.box
    obtain ⟨gc, cap, a, c, rfl, hgl, hcc, hff, hfi, hcm, hlc, hla⟩ := act_cache h1 hi
    unfold maxLen at hcm
    have c1 := hbx.c1
    have c5 := hbx.c5
    have i0 : (0 : Int) ≤ (i : Int) := by omega
    have i1 : (i : Int) < (D.C.length : Int) := by omega
    have HA := Lib.hid h1
    have HFI := Lib.hid hfi
    clear h1 hbx hla hfi hc H hb1 hB
    obtain ⟨l, hl⟩ : ∃ l, cacheOf D i = l := ⟨_, rfl⟩
    have HL := Lib.hid hl
    rw [hl] at hcc hlc HF HCK HFI
    obtain ⟨nl, hnl⟩ : ∃ n, l.length = n := ⟨_, rfl⟩
    have HN := Lib.hid hnl
    rw [hnl] at hcc hlc HFI
    clear hl hnl
    go_wp2_with fail
    go_region_held3 (fun w' => w'.cell? ⟨b, 1, none⟩ = some (.slice (some ⟨gc, 0, none⟩) D.C.length cap) ∧ w'.cell? ⟨b, 5, none⟩ = some (.int .i64 (i : Int)) ∧ w'.cell? ⟨gc, i, none⟩ = some (.slice a nl c)) (go_keep) (fail)
    go_wp2_with fail
    go_loopw [4, 5, 22] (fun _ _ j wr => ∃ k : Nat, ∃ S : List ByteArray, k ≤ nl ∧ j = .int .i64 (k : Int) ∧ Hid (ActAt wr B b vS (.slice (some ⟨gc, 0, none⟩) D.C.length cap) vK vF f { D with S := S } (i : Int)) ∧ Hid (crashS D.S l kept = crashS S (l.drop k) (kept / 2 ^ k)) ∧ Hid (S.length = D.S.length) ∧ Hid (Below B w wr) ∧ B ≤ wr.heap.size) (fun _ _ j _ => nl - (intOf j).toNat)
    case atStart => exact ⟨0, D.S, Nat.zero_le _, rfl, HA.out.drew, by simp [Hid], rfl, HB1.out.drew, hB1⟩
    case round =>
      clear HA HB1 hB1 c1 c5 hcc hff hgl
      obtain ⟨k, S, hk, rfl, HA, HS, HSL, HB, hBr⟩ := hrel
      by_cases hlk : k < nl
      · have hkl : k < l.length := by rw [HN.out]; exact hlk
        obtain ⟨x, hx⟩ : ∃ x, l[k] = x := ⟨_, rfl⟩
        have hxk := HCK.out.a _ (List.getElem_mem hkl)
        rw [hx] at hxk
        obtain ⟨x1, xt⟩ := x
        obtain ⟨hx0, hx1, -⟩ := hxk
        simp only at hx0 hx1
        obtain ⟨s, rfl⟩ := Int.eq_ofNat_of_zero_le hx0
        have hsl : s < S.length := by rw [HSL.out]; omega
        have hcD : cacheOf { D with S := S } i = l := HL.out
        obtain ⟨ga, c', e2, hBa, hal, hba, hca, hsa, hd1, hd2, hz1, hz2⟩ := act_cell HA.out hi (k := k) (by rw [hcD]; exact hkl)
        simp only [hcD] at e2 hd1 hd2
        rw [hx] at hd1 hd2
        rw [HN.out, HFI.out] at e2
        obtain ⟨rfl, rfl⟩ : a = some ⟨ga, 0, none⟩ ∧ c = c' := by injection e2 with e1 _ e2; exact ⟨e1, e2⟩
        obtain ⟨gs, caps, rfl, hgB, hgs, hbs, hds, hzs⟩ := act_sector HA.out (s := s) hsl
        have hsa := hsa gs rfl
        have HSLEN : Hid (S.length = D.S.length) := HSL
        have hbx := HA.out.box
        have c0 := hbx.c0
        simp only [HSL.out] at c0 hds
        have s0 : (0 : Int) ≤ (s : Int) := by omega
        have k0 : (0 : Int) ≤ (k : Int) := by omega
        have k1 : (k : Int) < (nl : Int) := by omega
        have HK1 := Lib.hid (show k + 1 ≤ nl by omega)
        have hd3 := hd2
        have m1 : (wr.alloc (.cells #[.int .i64 (s : Int), .string xt] 59)).cell? ⟨wr.heap.size, 0, none⟩ = some (.int .i64 (s : Int)) := (Blk.new wr _ _).cell 0 _ rfl
        have m2 : (wr.alloc (.cells #[.int .i64 (s : Int), .string xt] 59)).cell? ⟨wr.heap.size, 1, none⟩ = some (.string xt) := (Blk.new wr _ _).cell 1 _ rfl
        by_cases hbit : kept / 2 ^ k % 2 = 1
        · have hb1 : (bits .and .u64 ((kept : Int) / 2 ^ min k 64) 1 == 1) = true := by rw [kept_bit hkept, hbit]; rfl
          have HS2 : Hid (crashS D.S l kept = crashS (S.set s xt) (l.drop (k + 1)) (kept / 2 ^ (k + 1))) := by
            have := crash_step HS.out hkl hx
            rwa [if_pos hbit] at this
          have hA2 := HA.out.setS rfl s xt
          have HA2 : Hid (ActAt ((wr.setCell ⟨gs, s, none⟩ (.string xt)).alloc (.cells #[.int .i64 (s : Int), .string xt] 59)).drew B b _ (.slice (some ⟨gc, 0, none⟩) D.C.length cap) vK vF f { D with S := S.set s xt } (i : Int)) := (hA2.up (below_alloc _ _)).drew
          have m0 := Lib.cell?_alloc_some (.cells #[.int .i64 (s : Int), .string xt] 59) c0
          have m3 : ((wr.setCell ⟨gs, s, none⟩ (.string xt)).alloc (.cells #[.int .i64 (s : Int), .string xt] 59)).cell? ⟨b, 0, none⟩ = some (.slice (some ⟨gs, 0, none⟩) D.S.length caps) := by
            have := Lib.cell?_alloc_some (.cells #[.int .i64 (s : Int), .string xt] 59) hA2.box.c0
            simp only [HSL.out] at this
            exact this
          have pb := Blk.new (wr.setCell ⟨gs, s, none⟩ (.string xt)) #[.int .i64 (s : Int), .string xt] 59
          rw [show (wr.setCell ⟨gs, s, none⟩ (.string xt)).heap.size = wr.heap.size by simp] at pb
          have m4 := pb.cell 0 _ rfl
          have m5 := pb.cell 1 _ rfl
          have HB2 : Hid (Below B w ((wr.setCell ⟨gs, s, none⟩ (.string xt)).alloc (.cells #[.int .i64 (s : Int), .string xt] 59)).drew) := ((HB.out.setCell (by simpa using hgB) _).alloc (by simpa using hBr) _).drew
          have HBR2 : Hid (B ≤ ((wr.setCell ⟨gs, s, none⟩ (.string xt)).alloc (.cells #[.int .i64 (s : Int), .string xt] 59)).drew.heap.size) := by show _ ≤ _; simp; omega
          have q4 := World.new_ne wr _ hds
          clear hA2 pb hbx hbit HS HA HB hx hcD hca hkl
          generalize S[s] = tOld at *
          go_wp2_with fail
          go_region_held3 (fun w' => w'.cell? ⟨b, 0, none⟩ = some (.slice (some ⟨gs, 0, none⟩) D.S.length caps) ∧ w'.cell? ⟨wr.heap.size, 0, none⟩ = some (.int .i64 (s : Int)) ∧ w'.cell? ⟨wr.heap.size, 1, none⟩ = some (.string xt)) (first | exact ⟨m0, m1, m2⟩ | exact ⟨m3, m4, m5⟩) (fail)
          clear m0 m1 m2 m3 m4 m5
          go_wp2_with fail
          go_roundw
          case rel => exact ⟨k + 1, S.set s xt, HK1.out, by go_num, HA2, HS2, by show (S.set s xt).length = _; rw [List.length_set]; exact HSLEN.out, HB2, HBR2.out⟩
          case measure => have := HK1.out; simp [intOf]; omega
        · have hb1 : (bits .and .u64 ((kept : Int) / 2 ^ min k 64) 1 == 1) = false := by
            rw [kept_bit hkept]
            exact beq_no (by omega)
          have HS2 : Hid (crashS D.S l kept = crashS S (l.drop (k + 1)) (kept / 2 ^ (k + 1))) := by
            have := crash_step HS.out hkl hx
            rwa [if_neg hbit] at this
          have HA2 := Lib.hid (HA.out.up (below_alloc wr (.cells #[.int .i64 (s : Int), .string xt] 59)))
          have HB2 := Lib.hid (HB.out.alloc hBr (.cells #[.int .i64 (s : Int), .string xt] 59))
          have HBR2 : Hid (B ≤ (wr.alloc (.cells #[.int .i64 (s : Int), .string xt] 59)).heap.size) := by show _ ≤ _; simp; omega
          clear hbx hbit HS HA HB hx hcD hca hkl m1 m2 c0 hds
          go_wp2_with fail
          go_roundw
          case rel => exact ⟨k + 1, S, HK1.out, by go_num, HA2, HS2, HSLEN, HB2, HBR2.out⟩
          case measure => have := HK1.out; simp [intOf]; omega
      · have hkn : k = nl := by omega
        subst hkn
        have HS2 : Hid (crashS D.S l kept = S) := by
          show crashS D.S l kept = S
          rw [HS.out, List.drop_eq_nil_of_le (by rw [HN.out]; exact Nat.le_refl _)]
          rfl
        have hfg := forget_any B b { D with S := S } i wr ⟨_, _, _, _, _, HA.out⟩ hi
        clear HA HS
        go_wp2_with fail
        refine hfg.mono ?_
        rintro e w2 ⟨rfl, h2, hb2⟩
        have H2 := Lib.hid h2
        clear h2 hfg
        go_wp2_with fail
        go_end0
        refine ⟨rfl, ?_, HB.out.trans hb2⟩
        rw [HF.out, HS2.out]
        exact H2.out

end Go.Proofs.Yteighdlhonegpaa
