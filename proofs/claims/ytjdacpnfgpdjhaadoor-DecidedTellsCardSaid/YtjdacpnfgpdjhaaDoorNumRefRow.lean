/-
  The reference's Row, by contract.
-/
import Derived.Test.YtjdacpnfgpdjhaaDoorNumRow
namespace Go.Proofs.YtjdacpnfgpdjhaaDoor
open Go.RowKit
set_option linter.unusedVariables false
set_option linter.unusedSimpArgs false

set_option maxRecDepth 100000 in
set_option maxHeartbeats 1000000 in
theorem refRow_any (s : ByteArray) (x : Int) (w : World) (hs : s.size ≤ 17592186044416) :
    Calls Tryd.prog 43 #[.string s, .int .i64 x] w (RowPost (bytesI s) x w) := by
  have hM : s.size ≤ maxLen := by unfold maxLen; omega
  by_cases hx : mayB x = true
  · obtain ⟨h1, h2⟩ := of_mayB hx
    obtain ⟨X, rfl⟩ := Int.eq_ofNat_of_zero_le (show 0 ≤ x by omega)
    have HX := Lib.hid hx
    have hX1 : 1 ≤ X := by omega
    have hX2 : X ≤ 6 := by omega
    have hm0 : 0 ≤ mostOf X := by rcases width_cases h1 h2 with h | h | h | h | h | h <;> rw [h] <;> decide
    obtain ⟨i0, hi, hz0, hz1, hz2⟩ := info_parts infoInt
    clear hx
    go_enter Tryd.func43, Tryd.ntmps43
    go_wp2_with fail
    refine (most_yes _ _ h1 h2).mono ?_
    rintro e w1 ⟨rfl, rfl⟩
    go_wp2_with fail
    go_loopw [6, 7] (fun v i wr => ∃ k a : Nat, a ≤ s.size ∧ k ≤ a ∧ Hid (a = k * X) ∧ i = .int .i64 a ∧ wr.ownsRow w.heap.size 3 1 v k ((numK (bytesI s) X k).map (Value.int .i64)) ∧ Hid ((numK (bytesI s) X k).all (fitsB X) = true) ∧ Below w.heap.size w wr) (fun _ i _ => s.size - (intOf i).toNat)
    case atStart => exact ⟨0, 0, Nat.zero_le _, Nat.zero_le _, (by rw [Nat.zero_mul] : (0 : Nat) = 0 * X), rfl, World.ownsRow_nil _ _ _ _, (by rfl : (numK (bytesI s) X 0).all (fitsB X) = true), Below.refl _ _⟩
    case round =>
      obtain ⟨k, a, has, hka, ha, rfl, hownr, hall, hbr⟩ := hrel
      by_cases hlt : a < s.size
      · by_cases hin : a + X ≤ s.size
        · have hkd : k < s.size / X := by
            refine (Nat.le_div_iff_mul_le (by omega)).2 ?_
            rw [Nat.succ_mul, ← ha.out]
            exact hin
          by_cases hf : fitsB X (dec (((bytesI s).drop a).take X)) = true
          · have HG : Hid (getOut (bytesI s) a X = .returned (.tuple #[.int .i64 (dec (((bytesI s).drop a).take X)), .int .i64 0])) := getOut_yes HX.out (by omega) (by rw [bytesI_length]; omega) hf
            have HALL : Hid ((numK (bytesI s) X (k + 1)).all (fitsB X) = true) := numK_all_succ hall.out (by rw [← ha.out]; exact hf)
            have HE : Hid (numK (bytesI s) X (k + 1) = numK (bytesI s) X k ++ [dec (((bytesI s).drop a).take X)]) := by
              show _ = _
              rw [numK_succ, ← ha.out]
            generalize dec (((bytesI s).drop a).take X) = N at *
            clear hf hall
            have hsz := hbr.size
            go_wp2_with fail
            refine (refGet_any s a X _ hM (by omega) (by omega)).mono ?_
            rintro e w2 ⟨rfl, rfl⟩
            rw [HG.out]
            go_wp2_with (at_builtin; refine wpList_append_own _ rfl _ _ 39 rfl w.heap.size 3 i0 (.int .i64 0) 1 8 Tryd.underlying39 hi hz0 hz1 hz2 rfl (by decide) _ _ _ rfl (hownr.alloc _) ⟨wr.heap.size, 0, none⟩ 1 1 [_] rfl rfl (cell_new _ _ _) (one_int _ _) ?d1 ?d2 ?d3 ?_)
            case d1 => unfold maxLen; omega
            case d2 => omega
            case d3 => simp; omega
            intro v' w2 hown' hgrow _
            have hown2 : w2.ownsRow w.heap.size 3 1 v' (k + 1) ((numK (bytesI s) X (k + 1)).map (Value.int .i64)) := by
              rw [HE.out, List.map_append]
              exact hown'
            have hb2 : Below w.heap.size w w2 := (hbr.alloc (by omega) _).grown hgrow (by simp; omega) (fun j hj => (hownr.lt j hj).1)
            clear hown' hgrow hownr hbr
            go_wp2
            go_roundw
            case rel => exact ⟨k + 1, a + X, by omega, by omega, (by rw [ha.out, ← Nat.succ_mul] : a + X = (k + 1) * X), by go_num, hown2, HALL, hb2⟩
            case measure => simp [intOf]; omega
          · have hf' : fitsB X (dec (((bytesI s).drop a).take X)) = false := by simpa using hf
            have HG : Hid (getOut (bytesI s) a X = .returned (.tuple #[.int .i64 0, .int .i64 10])) := getOut_great HX.out hf'
            have HF : Hid (fitsB X (dec (((bytesI s).drop (k * X)).take X)) = false) := by
              show _ = _
              rw [← ha.out]; exact hf'
            clear hf hf'
            go_wp2_with fail
            refine (refGet_any s a X _ hM (by omega) (by omega)).mono ?_
            rintro e w2 ⟨rfl, rfl⟩
            rw [HG.out]
            go_wp2_with fail
            go_ret2
            exact rowPost_great HX.out (by rw [bytesI_length]; exact hkd) HF.out hbr
        · have HG : Hid (getOut (bytesI s) a X = .returned (.tuple #[.int .i64 0, .int .i64 10])) := getOut_out HX.out (by rw [bytesI_length]; omega)
          have HR : Hid (¬ s.size % X = 0) := by
            show ¬ _
            intro h
            obtain ⟨q, hq⟩ := Nat.dvd_of_mod_eq_zero h
            have h3 := ha.out
            have h4 : k < q := by
              rcases Nat.lt_or_ge k q with h5 | h5
              · exact h5
              · have := Nat.mul_le_mul_left X h5
                rw [Nat.mul_comm X k] at this
                omega
            have := Nat.mul_le_mul_left X h4
            rw [Nat.mul_succ, Nat.mul_comm X k] at this
            omega
          go_wp2_with fail
          refine (refGet_any s a X _ hM (by omega) (by omega)).mono ?_
          rintro e w2 ⟨rfl, rfl⟩
          rw [HG.out]
          go_wp2_with fail
          go_ret2
          exact rowPost_rest HX.out (by rw [bytesI_length]; exact HR.out) hbr
      · have ha1 : a = s.size := by omega
        subst ha1
        have HK : Hid (s.size = k * X) := ha
        go_wp2_with fail
        go_ret2
        exact rowPost_good HX.out (by rw [bytesI_length]; exact HK.out) hall.out hbr hownr
  · have hx' : mayB x = false := by simpa using hx
    have HX := Lib.hid hx'
    have HN := Lib.hid (not_mayB hx')
    clear hx hx'
    go_enter Tryd.func43, Tryd.ntmps43
    go_wp2_with fail
    refine (most_no _ _ HN.out).mono ?_
    rintro e w1 ⟨rfl, rfl⟩
    go_wp2_with fail
    go_ret2
    exact rowPost_width HX.out (Below.refl _ _)

end Go.Proofs.YtjdacpnfgpdjhaaDoor
