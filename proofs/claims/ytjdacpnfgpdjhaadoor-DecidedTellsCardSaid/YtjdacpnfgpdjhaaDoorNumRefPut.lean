/-
  The reference's Put, by contract.
-/
import Derived.Test.YtjdacpnfgpdjhaaDoorNumPut
namespace Go.Proofs.YtjdacpnfgpdjhaaDoor
open Go.RowKit
set_option linter.unusedVariables false
set_option linter.unusedSimpArgs false

set_option maxRecDepth 100000 in
set_option maxHeartbeats 1000000 in
theorem refPut_any (x : Int) (A B : Option Addr) (n m c d : Nat) (zb zl : List Int) (w : World) (hA : Lies w w.heap.size A n (zb.map (Value.int .u8))) (hB : Lies w w.heap.size B m (zl.map (Value.int .i64)))
    (hn : n ≤ 1099511627776) (hm : m ≤ 1099511627776) :
    Calls Tryd.prog 45 #[.slice A n c, .int .i64 x, .slice B m d] w (PutPost x zb zl w) := by
  have hln : zb.length = n := by simpa using hA.1
  have hlm : zl.length = m := by simpa using hB.1
  have HLN := Lib.hid hln
  have HLM := Lib.hid hlm
  by_cases hx : mayB x = true
  · obtain ⟨h1, h2⟩ := of_mayB hx
    obtain ⟨X, rfl⟩ := Int.eq_ofNat_of_zero_le (show 0 ≤ x by omega)
    have HX := Lib.hid hx
    have hX1 : 1 ≤ X := by omega
    have hX2 : X ≤ 6 := by omega
    have hm0 : 0 ≤ mostOf X := by rcases width_cases h1 h2 with h | h | h | h | h | h <;> rw [h] <;> decide
    obtain ⟨i0, hi, hz0, hz1, hz2⟩ := info_parts infoByte
    clear hx hln hlm
    go_enter Tryd.func45, Tryd.ntmps45
    go_wp2_with fail
    refine (most_yes _ _ h1 h2).mono ?_
    rintro e w1 ⟨rfl, rfl⟩
    go_wp2_with (at_builtin; refine wpList_append_lies rfl _ _ 50 rfl w.heap.size 5 i0 (.int .u8 0) 1 Tryd.underlying50 hi hz0 hz1 hz2 rfl _ 0 [] rfl (World.ownsRow_nil _ _ _ _) w.heap.size A n c (zb.map (Value.int .u8)) rfl hA (ints_oneCell _ _) ?c1 ?c2 (Nat.le_refl _) ?_)
    case c1 => unfold maxLen; omega
    case c2 => omega
    intro v1 w1 hown1 hg1
    have hb1 : Below w.heap.size w w1 := (Below.refl _ _).grown hg1 (Nat.le_refl _) (by intro j hj; cases hj)
    clear hg1
    go_wp2_with fail
    go_loopw [8, 9] (fun v i wr => ∃ k : Nat, k ≤ m ∧ i = .int .i64 k ∧ Hid ((zl.take k).all (fitsB X) = true) ∧ wr.ownsRow w.heap.size 5 1 v (n + X * k) ((zb ++ encs X (zl.take k)).map (Value.int .u8)) ∧ Below w.heap.size w wr) (fun _ i _ => m - (intOf i).toNat)
    case atStart => exact ⟨0, Nat.zero_le _, rfl, (by simp : (zl.take 0).all (fitsB X) = true), by simpa [encs] using hown1, hb1⟩
    case round =>
      clear hown1 hb1
      obtain ⟨k, hk, rfl, HALL, hownr, hbr⟩ := hrel
      have hxk : X * k ≤ 6 * m := Nat.mul_le_mul hX2 hk
      by_cases hlt : k < m
      · obtain ⟨ad, u, rfl, had, hu, hcell⟩ := (hB.below hbr).at_ hlt
        have hkl : k < zl.length := by rw [HLM.out]; exact hlt
        obtain rfl : u = .int .i64 zl[k] := by
          rw [List.getElem?_map, List.getElem?_eq_getElem hkl] at hu
          simpa using hu.symm
        clear hu
        go_wp2_with fail
        refine (refFits_any _ _ _).mono ?_
        rintro e w2 ⟨rfl, rfl⟩
        by_cases hf : fitsB X zl[k] = true
        · rw [hf]
          have HALL2 := Lib.hid (take_all_succ hkl HALL.out hf)
          have hz := of_fitsB hf
          have hy0 : 0 ≤ zl[k] := hz.2.1
          have hy1 : zl[k] ≤ 1099511627776 := Int.le_trans hz.2.2 mostOf_le
          have HE : Hid (encs X (zl.take (k + 1)) = encs X (zl.take k) ++ enc X zl[k]) := by
            show _ = _
            rw [List.take_succ_eq_append_getElem hkl, encs_snoc]
          clear hf hz
          obtain ⟨wo, rfl⟩ : ∃ wo : World, wo = wr := ⟨_, rfl⟩
          go_wp2_with fail
          go_loopw [8, 10, 11] (fun v q i wr => ∃ j : Nat, j ≤ X ∧ i = .int .i64 j ∧ q = .int .i64 (zl[k] / pw j) ∧ wr.ownsRow w.heap.size 5 1 v (n + X * k + j) ((zb ++ encs X (zl.take k) ++ enc j zl[k]).map (Value.int .u8)) ∧ Below w.heap.size w wr) (fun _ _ i _ => X - (intOf i).toNat)
          case atStart => exact ⟨0, Nat.zero_le _, rfl, by rw [pw_zero]; simp, by simpa [enc] using hownr, hbr⟩
          case round =>
            clear hownr hbr
            obtain ⟨j, hj, rfl, rfl, hownj, hbj⟩ := hrel
            by_cases hjX : j < X
            · have hsz := hbj.size
              have hq : 0 ≤ zl[k] / pw j := Int.ediv_nonneg hy0 (by have := pw_pos j; omega)
              have hq1 : zl[k] / pw j ≤ 1099511627776 := Int.le_trans (Int.ediv_le_self _ hy0) hy1
              go_wp2_with (at_builtin; refine wpList_append_own _ rfl _ _ 50 rfl w.heap.size 5 i0 (.int .u8 0) 1 1 Tryd.underlying50 hi hz0 hz1 hz2 rfl (by decide) _ _ _ rfl (hownj.alloc _) ⟨wr.heap.size, 0, none⟩ 1 1 [_] rfl rfl (cell_new _ _ _) (one_int _ _) ?d1 ?d2 ?d3 ?_)
              case d1 => unfold maxLen; omega
              case d2 => omega
              case d3 => simp; omega
              intro v' w2 hown' hgrow _
              have hstep := Lib.hid (pw_step zl[k] j)
              have hown2 : w2.ownsRow w.heap.size 5 1 v' (n + X * k + (j + 1)) ((zb ++ encs X (zl.take k) ++ enc (j + 1) zl[k]).map (Value.int .u8)) := by
                rw [enc_succ, ← Nat.add_assoc]
                simpa using hown'
              have hb2 : Below w.heap.size w w2 := (hbj.alloc (by omega) _).grown hgrow (by simp; omega) (fun i hi => (hownj.lt i hi).1)
              clear hown' hgrow hownj hbj
              go_wp2
              go_roundw
              case rel => exact ⟨j + 1, by omega, by go_num, by rw [← hstep.out], hown2, hb2⟩
              case measure => simp [intOf]; omega
            · have hjx : j = X := by omega
              have hown2 := hownj
              rw [hjx, List.append_assoc, ← HE.out, Nat.add_assoc, ← Nat.mul_succ] at hown2
              clear hjx hownj
              go_wp2_with fail
              go_roundw
              case rel => exact ⟨k + 1, by omega, by go_num, HALL2, hown2, hbj⟩
              case measure => simp [intOf]; omega
        · have hf' : fitsB X zl[k] = false := by simpa using hf
          rw [hf']
          have HF := Lib.hid hf'
          clear hf hf'
          go_wp2_with fail
          go_ret2
          exact putPost_bad hkl HF.out hbr
      · have hkm : k = m := by omega
        have hown4 := hownr
        have HFULL := HALL
        rw [hkm, List.take_of_length_le (by rw [HLM.out]; exact Nat.le_refl _), ← HLN.out, ← HLM.out] at hown4
        rw [hkm, List.take_of_length_le (by rw [HLM.out]; exact Nat.le_refl _)] at HFULL
        clear hownr hkm HALL
        go_wp2_with fail
        go_ret2
        exact putPost_good HX.out HFULL.out hbr hown4
  · have hx' : mayB x = false := by simpa using hx
    have HX := Lib.hid hx'
    have HN := Lib.hid (not_mayB hx')
    clear hx hx' hln hlm
    go_enter Tryd.func45, Tryd.ntmps45
    go_wp2_with fail
    refine (most_no _ _ HN.out).mono ?_
    rintro e w1 ⟨rfl, rfl⟩
    go_wp2_with fail
    go_ret2
    exact putPost_width HX.out (Below.refl _ _)

end Go.Proofs.YtjdacpnfgpdjhaaDoor
