/-
  The document's own answers of layer 4: where each thing stands, how much a geometry has: each call by its contract, in the same words as the program's.
-/
import Derived.Test.YtjdacpnfgpdjhaaDoorGeoLeaf
import Derived.Test.YtjdacpnfgpdjhaaDoorGeoEqs
import Derived.Deep.DeepCutAuto
namespace Go.Proofs.YtjdacpnfgpdjhaaDoor
open Go.RowKit
set_option linter.unusedVariables false
set_option linter.unusedSimpArgs false

set_option maxHeartbeats 1000000 in
theorem log_r (g : G) (a : Int) (w : World) (ha : -9223372036854775808 ≤ a) (ha' : a ≤ 9223372036854775807) :
    Calls Tryd.prog 36 #[.agg #[.int .i64 g.N, .int .i64 g.S, .int .i64 g.B, .int .i64 g.P, .int .i64 g.J, .int .i64 g.L, .int .i64 g.E, .int .i64 g.T], .int .i64 a] w fun e w' => e = .returned (.int .i64 (logV g a)) ∧ Below w.heap.size w w' := by
  by_cases hm : mayG g = true
  · have hg := of_may hm
    have H := Lib.hid hm
    by_cases h0 : 0 ≤ a ∧ a < g.L
    · have HV := Lib.hid (log_in hm h0.1 h0.2)
      clear hm
      go_enter Tryd.func36, Tryd.ntmps36
      go_wp2_with fail
      refine (refMay_any g _).mono ?_
      rintro e w1 ⟨rfl, hb⟩
      rw [H.out]
      obtain ⟨hc, hf⟩ := bcell hb
      go_wp2_with (go_at_call 52; refine (in_yes _ _ _ _ (by omega) (by omega)).mono ?_; rintro e w2 ⟨rfl, rfl⟩)
      go_ret
      exact ⟨ret_int (by rw [HV.out]), boxed hb⟩
    · have HV := Lib.hid (log_out hm (a := a) (by omega))
      have h1 : a < 0 ∨ g.L ≤ a := by omega
      clear hm h0
      go_enter Tryd.func36, Tryd.ntmps36
      go_wp2_with fail
      refine (refMay_any g _).mono ?_
      rintro e w1 ⟨rfl, hb⟩
      rw [H.out]
      obtain ⟨hc, hf⟩ := bcell hb
      go_wp2_with (go_at_call 52; refine (in_no _ _ _ _ (by omega)).mono ?_; rintro e w2 ⟨rfl, rfl⟩)
      go_ret
      exact ⟨ret_int (by rw [HV.out]), boxed hb⟩
  · have hm' : mayG g = false := by simpa using hm
    have H := Lib.hid hm'
    have HV := Lib.hid (log_nil hm' a)
    clear hm hm'
    go_enter Tryd.func36, Tryd.ntmps36
    go_wp2_with fail
    refine (refMay_any g _).mono ?_
    rintro e w1 ⟨rfl, hb⟩
    rw [H.out]
    obtain ⟨hc, hf⟩ := bcell hb
    go_wp2_with fail
    go_ret
    exact ⟨ret_int (by rw [HV.out]), boxed hb⟩
set_option maxHeartbeats 1000000 in
theorem data_r (g : G) (a b : Int) (w : World) (ha : -9223372036854775808 ≤ a) (ha' : a ≤ 9223372036854775807) (hb0 : -9223372036854775808 ≤ b) (hb1 : b ≤ 9223372036854775807) :
    Calls Tryd.prog 55 #[.agg #[.int .i64 g.N, .int .i64 g.S, .int .i64 g.B, .int .i64 g.P, .int .i64 g.J, .int .i64 g.L, .int .i64 g.E, .int .i64 g.T], .int .i64 a, .int .i64 b] w fun e w' => e = .returned (.int .i64 (dataV g a b)) ∧ Below w.heap.size w w' := by
  by_cases hm : mayG g = true
  · have hg := of_may hm
    have H := Lib.hid hm
    by_cases h0 : 0 ≤ a ∧ a < g.B
    · by_cases h1 : 0 ≤ b ∧ b < g.P
      · have HV := Lib.hid (data_in hm h0.1 h0.2 h1.1 h1.2)
        have hbd := block_bd hm h0.1 h0.2
        have hsb := slots_bd hm
        clear hm
        go_enter Tryd.func55, Tryd.ntmps55
        go_wp2_with fail
        refine (refMay_any g _).mono ?_
        rintro e w1 ⟨rfl, hb⟩
        rw [H.out]
        obtain ⟨hc, hf⟩ := bcell hb
        go_wp2_with (go_at_call 52; refine (in_yes _ _ _ _ (by omega) (by omega)).mono ?_; rintro e w2 ⟨rfl, rfl⟩)
        go_ret
        exact ⟨ret_int (by rw [HV.out]), boxed hb⟩
      · have HV := Lib.hid (data_out hm (a := a) (b := b) (by omega))
        have h2 : b < 0 ∨ g.P ≤ b := by omega
        clear hm h1
        go_enter Tryd.func55, Tryd.ntmps55
        go_wp2_with fail
        refine (refMay_any g _).mono ?_
        rintro e w1 ⟨rfl, hb⟩
        rw [H.out]
        obtain ⟨hc, hf⟩ := bcell hb
        go_wp2_with (first
          | (go_at_call 52; refine (in_yes _ _ _ _ (by omega) (by omega)).mono ?_; rintro e w2 ⟨rfl, rfl⟩)
          | (go_at_call 52; refine (in_no _ _ _ _ (by omega)).mono ?_; rintro e w2 ⟨rfl, rfl⟩))
        go_ret
        exact ⟨ret_int (by rw [HV.out]), boxed hb⟩
    · have HV := Lib.hid (data_out hm (a := a) (b := b) (by omega))
      have h2 : a < 0 ∨ g.B ≤ a := by omega
      clear hm h0
      go_enter Tryd.func55, Tryd.ntmps55
      go_wp2_with fail
      refine (refMay_any g _).mono ?_
      rintro e w1 ⟨rfl, hb⟩
      rw [H.out]
      obtain ⟨hc, hf⟩ := bcell hb
      go_wp2_with (go_at_call 52; refine (in_no _ _ _ _ (by omega)).mono ?_; rintro e w2 ⟨rfl, rfl⟩)
      go_ret
      exact ⟨ret_int (by rw [HV.out]), boxed hb⟩
  · have hm' : mayG g = false := by simpa using hm
    have H := Lib.hid hm'
    have HV := Lib.hid (data_nil hm' a b)
    clear hm hm'
    go_enter Tryd.func55, Tryd.ntmps55
    go_wp2_with fail
    refine (refMay_any g _).mono ?_
    rintro e w1 ⟨rfl, hb⟩
    rw [H.out]
    obtain ⟨hc, hf⟩ := bcell hb
    go_wp2_with fail
    go_ret
    exact ⟨ret_int (by rw [HV.out]), boxed hb⟩
theorem total_r (g : G) (w : World) :
    Calls Tryd.prog 35 #[.agg #[.int .i64 g.N, .int .i64 g.S, .int .i64 g.B, .int .i64 g.P, .int .i64 g.J, .int .i64 g.L, .int .i64 g.E, .int .i64 g.T]] w fun e w' => e = .returned (.int .i64 (totalV g)) ∧ Below w.heap.size w w' := by
  by_cases hm : mayG g = true
  · have hg := of_may hm
    have H := Lib.hid hm
    have hv := data_in hm (a := g.B - 1) (b := g.P - 1) (by omega) (by omega) (by omega) (by omega)
    rw [Int.sub_mul, Int.one_mul] at hv
    have hsb := slots_bd hm
    have hdb := data_bd hm
    have hlo : 0 ≤ dataV g (g.B - 1) (g.P - 1) := by omega
    have hhi : dataV g (g.B - 1) (g.P - 1) ≤ 4000 := by omega
    have HV := Lib.hid (show totalV g = dataV g (g.B - 1) (g.P - 1) + 1 by rw [total_in hm]; omega)
    clear hm hv
    go_enter Tryd.func35, Tryd.ntmps35
    go_wp2_with fail
    refine (refMay_any g _).mono ?_
    rintro e w1 ⟨rfl, hb⟩
    rw [H.out]
    obtain ⟨hc, hf⟩ := bcell hb
    go_wp2_with fail
    refine (data_r g _ _ _ (by omega) (by omega) (by omega) (by omega)).mono ?_
    rintro e w2 ⟨rfl, hb2⟩
    go_wp2_with fail
    go_ret
    exact ⟨ret_int (by rw [HV.out]), (boxed hb).trans (hb2.mono (boxed hb).size)⟩
  · have hm' : mayG g = false := by simpa using hm
    have H := Lib.hid hm'
    have HV := Lib.hid (total_nil hm')
    clear hm hm'
    go_enter Tryd.func35, Tryd.ntmps35
    go_wp2_with fail
    refine (refMay_any g _).mono ?_
    rintro e w1 ⟨rfl, hb⟩
    rw [H.out]
    obtain ⟨hc, hf⟩ := bcell hb
    go_wp2_with fail
    go_ret
    exact ⟨ret_int (by rw [HV.out]), boxed hb⟩

end Go.Proofs.YtjdacpnfgpdjhaaDoor
