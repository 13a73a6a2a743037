/-
  The document's own answers of layer 4: where each thing stands, how much a geometry has: each call by its contract, in the same words as the program's.
-/
import Derived.Test.YtaegkpfjopajpaaDoorGeoLeaf
import Derived.Test.YtaegkpfjopajpaaDoorGeoEqs
import Derived.Deep.DeepCutAuto
namespace Go.Proofs.YtaegkpfjopajpaaDoor
open Go.RowKit
set_option linter.unusedVariables false
set_option linter.unusedSimpArgs false

set_option maxHeartbeats 1000000 in
theorem lease_r (g : G) (a : Int) (w : World) (ha : -9223372036854775808 ≤ a) (ha' : a ≤ 9223372036854775807) :
    Calls Tryd.prog 40 #[.agg #[.int .i64 g.N, .int .i64 g.S, .int .i64 g.B, .int .i64 g.P, .int .i64 g.J, .int .i64 g.L, .int .i64 g.E, .int .i64 g.T], .int .i64 a] w fun e w' => e = .returned (.int .i64 (leaseV g a)) ∧ Below w.heap.size w w' := by
  by_cases hm : mayG g = true
  · have hg := of_may hm
    have H := Lib.hid hm
    by_cases h0 : 0 ≤ a ∧ a < g.N
    · have HV := Lib.hid (lease_in hm h0.1 h0.2)
      clear hm
      go_enter Tryd.func40, Tryd.ntmps40
      go_wp2_with fail
      refine (refMay_any g _).mono ?_
      rintro e w1 ⟨rfl, hb⟩
      rw [H.out]
      obtain ⟨hc, hf⟩ := bcell hb
      go_wp2_with (go_at_call 39; refine (in_yes _ _ _ _ (by omega) (by omega)).mono ?_; rintro e w2 ⟨rfl, rfl⟩)
      go_ret
      exact ⟨ret_int (by rw [HV.out]), boxed hb⟩
    · have HV := Lib.hid (lease_out hm (a := a) (by omega))
      have h1 : a < 0 ∨ g.N ≤ a := by omega
      clear hm h0
      go_enter Tryd.func40, Tryd.ntmps40
      go_wp2_with fail
      refine (refMay_any g _).mono ?_
      rintro e w1 ⟨rfl, hb⟩
      rw [H.out]
      obtain ⟨hc, hf⟩ := bcell hb
      go_wp2_with (go_at_call 39; refine (in_no _ _ _ _ (by omega)).mono ?_; rintro e w2 ⟨rfl, rfl⟩)
      go_ret
      exact ⟨ret_int (by rw [HV.out]), boxed hb⟩
  · have hm' : mayG g = false := by simpa using hm
    have H := Lib.hid hm'
    have HV := Lib.hid (lease_nil hm' a)
    clear hm hm'
    go_enter Tryd.func40, Tryd.ntmps40
    go_wp2_with fail
    refine (refMay_any g _).mono ?_
    rintro e w1 ⟨rfl, hb⟩
    rw [H.out]
    obtain ⟨hc, hf⟩ := bcell hb
    go_wp2_with fail
    go_ret
    exact ⟨ret_int (by rw [HV.out]), boxed hb⟩
set_option maxHeartbeats 1000000 in
theorem paxos_r (g : G) (a : Int) (w : World) (ha : -9223372036854775808 ≤ a) (ha' : a ≤ 9223372036854775807) :
    Calls Tryd.prog 41 #[.agg #[.int .i64 g.N, .int .i64 g.S, .int .i64 g.B, .int .i64 g.P, .int .i64 g.J, .int .i64 g.L, .int .i64 g.E, .int .i64 g.T], .int .i64 a] w fun e w' => e = .returned (.int .i64 (paxosV g a)) ∧ Below w.heap.size w w' := by
  by_cases hm : mayG g = true
  · have hg := of_may hm
    have H := Lib.hid hm
    by_cases h0 : 0 ≤ a ∧ a < g.N
    · have HV := Lib.hid (paxos_in hm h0.1 h0.2)
      clear hm
      go_enter Tryd.func41, Tryd.ntmps41
      go_wp2_with fail
      refine (refMay_any g _).mono ?_
      rintro e w1 ⟨rfl, hb⟩
      rw [H.out]
      obtain ⟨hc, hf⟩ := bcell hb
      go_wp2_with (go_at_call 39; refine (in_yes _ _ _ _ (by omega) (by omega)).mono ?_; rintro e w2 ⟨rfl, rfl⟩)
      go_ret
      exact ⟨ret_int (by rw [HV.out]), boxed hb⟩
    · have HV := Lib.hid (paxos_out hm (a := a) (by omega))
      have h1 : a < 0 ∨ g.N ≤ a := by omega
      clear hm h0
      go_enter Tryd.func41, Tryd.ntmps41
      go_wp2_with fail
      refine (refMay_any g _).mono ?_
      rintro e w1 ⟨rfl, hb⟩
      rw [H.out]
      obtain ⟨hc, hf⟩ := bcell hb
      go_wp2_with (go_at_call 39; refine (in_no _ _ _ _ (by omega)).mono ?_; rintro e w2 ⟨rfl, rfl⟩)
      go_ret
      exact ⟨ret_int (by rw [HV.out]), boxed hb⟩
  · have hm' : mayG g = false := by simpa using hm
    have H := Lib.hid hm'
    have HV := Lib.hid (paxos_nil hm' a)
    clear hm hm'
    go_enter Tryd.func41, Tryd.ntmps41
    go_wp2_with fail
    refine (refMay_any g _).mono ?_
    rintro e w1 ⟨rfl, hb⟩
    rw [H.out]
    obtain ⟨hc, hf⟩ := bcell hb
    go_wp2_with fail
    go_ret
    exact ⟨ret_int (by rw [HV.out]), boxed hb⟩
set_option maxHeartbeats 1000000 in
theorem log_r (g : G) (a : Int) (w : World) (ha : -9223372036854775808 ≤ a) (ha' : a ≤ 9223372036854775807) :
    Calls Tryd.prog 42 #[.agg #[.int .i64 g.N, .int .i64 g.S, .int .i64 g.B, .int .i64 g.P, .int .i64 g.J, .int .i64 g.L, .int .i64 g.E, .int .i64 g.T], .int .i64 a] w fun e w' => e = .returned (.int .i64 (logV g a)) ∧ Below w.heap.size w w' := by
  by_cases hm : mayG g = true
  · have hg := of_may hm
    have H := Lib.hid hm
    by_cases h0 : 0 ≤ a ∧ a < g.L
    · have HV := Lib.hid (log_in hm h0.1 h0.2)
      clear hm
      go_enter Tryd.func42, Tryd.ntmps42
      go_wp2_with fail
      refine (refMay_any g _).mono ?_
      rintro e w1 ⟨rfl, hb⟩
      rw [H.out]
      obtain ⟨hc, hf⟩ := bcell hb
      go_wp2_with (go_at_call 39; refine (in_yes _ _ _ _ (by omega) (by omega)).mono ?_; rintro e w2 ⟨rfl, rfl⟩)
      go_ret
      exact ⟨ret_int (by rw [HV.out]), boxed hb⟩
    · have HV := Lib.hid (log_out hm (a := a) (by omega))
      have h1 : a < 0 ∨ g.L ≤ a := by omega
      clear hm h0
      go_enter Tryd.func42, Tryd.ntmps42
      go_wp2_with fail
      refine (refMay_any g _).mono ?_
      rintro e w1 ⟨rfl, hb⟩
      rw [H.out]
      obtain ⟨hc, hf⟩ := bcell hb
      go_wp2_with (go_at_call 39; refine (in_no _ _ _ _ (by omega)).mono ?_; rintro e w2 ⟨rfl, rfl⟩)
      go_ret
      exact ⟨ret_int (by rw [HV.out]), boxed hb⟩
  · have hm' : mayG g = false := by simpa using hm
    have H := Lib.hid hm'
    have HV := Lib.hid (log_nil hm' a)
    clear hm hm'
    go_enter Tryd.func42, Tryd.ntmps42
    go_wp2_with fail
    refine (refMay_any g _).mono ?_
    rintro e w1 ⟨rfl, hb⟩
    rw [H.out]
    obtain ⟨hc, hf⟩ := bcell hb
    go_wp2_with fail
    go_ret
    exact ⟨ret_int (by rw [HV.out]), boxed hb⟩
set_option maxHeartbeats 1000000 in
theorem head_r (g : G) (a : Int) (w : World) (ha : -9223372036854775808 ≤ a) (ha' : a ≤ 9223372036854775807) :
    Calls Tryd.prog 36 #[.agg #[.int .i64 g.N, .int .i64 g.S, .int .i64 g.B, .int .i64 g.P, .int .i64 g.J, .int .i64 g.L, .int .i64 g.E, .int .i64 g.T], .int .i64 a] w fun e w' => e = .returned (.int .i64 (headV g a)) ∧ Below w.heap.size w w' := by
  by_cases hm : mayG g = true
  · have hg := of_may hm
    have H := Lib.hid hm
    by_cases h0 : 0 ≤ a ∧ a < g.S
    · have HV := Lib.hid (head_in hm h0.1 h0.2)
      have hbd := head_bd hm h0.1 h0.2
      clear hm
      go_enter Tryd.func36, Tryd.ntmps36
      go_wp2_with fail
      refine (refMay_any g _).mono ?_
      rintro e w1 ⟨rfl, hb⟩
      rw [H.out]
      obtain ⟨hc, hf⟩ := bcell hb
      go_wp2_with (go_at_call 39; refine (in_yes _ _ _ _ (by omega) (by omega)).mono ?_; rintro e w2 ⟨rfl, rfl⟩)
      go_ret
      exact ⟨ret_int (by rw [HV.out]), boxed hb⟩
    · have HV := Lib.hid (head_out hm (a := a) (by omega))
      have h1 : a < 0 ∨ g.S ≤ a := by omega
      clear hm h0
      go_enter Tryd.func36, Tryd.ntmps36
      go_wp2_with fail
      refine (refMay_any g _).mono ?_
      rintro e w1 ⟨rfl, hb⟩
      rw [H.out]
      obtain ⟨hc, hf⟩ := bcell hb
      go_wp2_with (go_at_call 39; refine (in_no _ _ _ _ (by omega)).mono ?_; rintro e w2 ⟨rfl, rfl⟩)
      go_ret
      exact ⟨ret_int (by rw [HV.out]), boxed hb⟩
  · have hm' : mayG g = false := by simpa using hm
    have H := Lib.hid hm'
    have HV := Lib.hid (head_nil hm' a)
    clear hm hm'
    go_enter Tryd.func36, Tryd.ntmps36
    go_wp2_with fail
    refine (refMay_any g _).mono ?_
    rintro e w1 ⟨rfl, hb⟩
    rw [H.out]
    obtain ⟨hc, hf⟩ := bcell hb
    go_wp2_with fail
    go_ret
    exact ⟨ret_int (by rw [HV.out]), boxed hb⟩
set_option maxHeartbeats 1000000 in
theorem data_r (g : G) (a b : Int) (w : World) (ha : -9223372036854775808 ≤ a) (ha' : a ≤ 9223372036854775807) (hb0 : -9223372036854775808 ≤ b) (hb1 : b ≤ 9223372036854775807) :
    Calls Tryd.prog 38 #[.agg #[.int .i64 g.N, .int .i64 g.S, .int .i64 g.B, .int .i64 g.P, .int .i64 g.J, .int .i64 g.L, .int .i64 g.E, .int .i64 g.T], .int .i64 a, .int .i64 b] w fun e w' => e = .returned (.int .i64 (dataV g a b)) ∧ Below w.heap.size w w' := by
  by_cases hm : mayG g = true
  · have hg := of_may hm
    have H := Lib.hid hm
    by_cases h0 : 0 ≤ a ∧ a < g.B
    · by_cases h1 : 0 ≤ b ∧ b < g.P
      · have HV := Lib.hid (data_in hm h0.1 h0.2 h1.1 h1.2)
        have hbd := block_bd hm h0.1 h0.2
        have hsb := slots_bd hm
        clear hm
        go_enter Tryd.func38, Tryd.ntmps38
        go_wp2_with fail
        refine (refMay_any g _).mono ?_
        rintro e w1 ⟨rfl, hb⟩
        rw [H.out]
        obtain ⟨hc, hf⟩ := bcell hb
        go_wp2_with (go_at_call 39; refine (in_yes _ _ _ _ (by omega) (by omega)).mono ?_; rintro e w2 ⟨rfl, rfl⟩)
        go_ret
        exact ⟨ret_int (by rw [HV.out]), boxed hb⟩
      · have HV := Lib.hid (data_out hm (a := a) (b := b) (by omega))
        have h2 : b < 0 ∨ g.P ≤ b := by omega
        clear hm h1
        go_enter Tryd.func38, Tryd.ntmps38
        go_wp2_with fail
        refine (refMay_any g _).mono ?_
        rintro e w1 ⟨rfl, hb⟩
        rw [H.out]
        obtain ⟨hc, hf⟩ := bcell hb
        go_wp2_with (first
          | (go_at_call 39; refine (in_yes _ _ _ _ (by omega) (by omega)).mono ?_; rintro e w2 ⟨rfl, rfl⟩)
          | (go_at_call 39; refine (in_no _ _ _ _ (by omega)).mono ?_; rintro e w2 ⟨rfl, rfl⟩))
        go_ret
        exact ⟨ret_int (by rw [HV.out]), boxed hb⟩
    · have HV := Lib.hid (data_out hm (a := a) (b := b) (by omega))
      have h2 : a < 0 ∨ g.B ≤ a := by omega
      clear hm h0
      go_enter Tryd.func38, Tryd.ntmps38
      go_wp2_with fail
      refine (refMay_any g _).mono ?_
      rintro e w1 ⟨rfl, hb⟩
      rw [H.out]
      obtain ⟨hc, hf⟩ := bcell hb
      go_wp2_with (go_at_call 39; refine (in_no _ _ _ _ (by omega)).mono ?_; rintro e w2 ⟨rfl, rfl⟩)
      go_ret
      exact ⟨ret_int (by rw [HV.out]), boxed hb⟩
  · have hm' : mayG g = false := by simpa using hm
    have H := Lib.hid hm'
    have HV := Lib.hid (data_nil hm' a b)
    clear hm hm'
    go_enter Tryd.func38, Tryd.ntmps38
    go_wp2_with fail
    refine (refMay_any g _).mono ?_
    rintro e w1 ⟨rfl, hb⟩
    rw [H.out]
    obtain ⟨hc, hf⟩ := bcell hb
    go_wp2_with fail
    go_ret
    exact ⟨ret_int (by rw [HV.out]), boxed hb⟩
theorem total_r (g : G) (w : World) :
    Calls Tryd.prog 23 #[.agg #[.int .i64 g.N, .int .i64 g.S, .int .i64 g.B, .int .i64 g.P, .int .i64 g.J, .int .i64 g.L, .int .i64 g.E, .int .i64 g.T]] w fun e w' => e = .returned (.int .i64 (totalV g)) ∧ Below w.heap.size w w' := by
  by_cases hm : mayG g = true
  · have hg := of_may hm
    have H := Lib.hid hm
    have hv := data_in hm (a := g.B - 1) (b := g.P - 1) (by omega) (by omega) (by omega) (by omega)
    rw [Int.sub_mul, Int.one_mul] at hv
    have hsb := slots_bd hm
    have hdb := data_bd hm
    have hlo : 0 ≤ dataV g (g.B - 1) (g.P - 1) := by omega
    have hhi : dataV g (g.B - 1) (g.P - 1) ≤ 4000 := by omega
    have HV := Lib.hid (show totalV g = dataV g (g.B - 1) (g.P - 1) + 1 by rw [total_in hm]; omega)
    clear hm hv
    go_enter Tryd.func23, Tryd.ntmps23
    go_wp2_with fail
    refine (refMay_any g _).mono ?_
    rintro e w1 ⟨rfl, hb⟩
    rw [H.out]
    obtain ⟨hc, hf⟩ := bcell hb
    go_wp2_with fail
    refine (data_r g _ _ _ (by omega) (by omega) (by omega) (by omega)).mono ?_
    rintro e w2 ⟨rfl, hb2⟩
    go_wp2_with fail
    go_ret
    exact ⟨ret_int (by rw [HV.out]), (boxed hb).trans (hb2.mono (boxed hb).size)⟩
  · have hm' : mayG g = false := by simpa using hm
    have H := Lib.hid hm'
    have HV := Lib.hid (total_nil hm')
    clear hm hm'
    go_enter Tryd.func23, Tryd.ntmps23
    go_wp2_with fail
    refine (refMay_any g _).mono ?_
    rintro e w1 ⟨rfl, hb⟩
    rw [H.out]
    obtain ⟨hc, hf⟩ := bcell hb
    go_wp2_with fail
    go_ret
    exact ⟨ret_int (by rw [HV.out]), boxed hb⟩
set_option maxHeartbeats 1000000 in
theorem journal_r (g : G) (a b : Int) (w : World) (ha : -9223372036854775808 ≤ a) (ha' : a ≤ 9223372036854775807) (hb0 : -9223372036854775808 ≤ b) (hb1 : b ≤ 9223372036854775807) :
    Calls Tryd.prog 43 #[.agg #[.int .i64 g.N, .int .i64 g.S, .int .i64 g.B, .int .i64 g.P, .int .i64 g.J, .int .i64 g.L, .int .i64 g.E, .int .i64 g.T], .int .i64 a, .int .i64 b] w fun e w' => e = .returned (.int .i64 (journalV g a b)) ∧ Below w.heap.size w w' := by
  by_cases hm : mayG g = true ∧ 0 ≤ a ∧ a < g.S
  · obtain ⟨hm, h0, h1⟩ := hm
    have hg := of_may hm
    have hbd := head_bd hm h0 h1
    have hh := head_in hm h0 h1
    have hlo : 0 ≤ headV g a := by omega
    have hhi : headV g a ≤ 4000 := by omega
    by_cases h2 : 0 ≤ b
    · have HV := Lib.hid (show journalV g a b = headV g a + 1 + b % g.J by rw [journal_in hm h0 h1 h2, hh])
      have hq := quo_bd (d := b) (e := g.J) h2 (by omega)
      have e0 : IntKind.i64.wrap (headV g a + 1) = headV g a + 1 := IntWalk.i64_in _ (by omega)
      have e2 : (g.J == 0) = false := by simp; omega
      have e3 : b.tmod g.J = b % g.J := Int.tmod_eq_emod_of_nonneg h2
      have e4 : IntKind.i64.wrap (b % g.J) = b % g.J := IntWalk.i64_in _ (by omega)
      have e5 : IntKind.i64.wrap (headV g a + 1 + b % g.J) = headV g a + 1 + b % g.J := IntWalk.i64_in _ (by omega)
      have HE := Lib.hid (And.intro e0 (And.intro e2 (And.intro e3 (And.intro e4 e5))))
      have hJ : 3 ≤ g.J := by omega
      have hJ' : g.J ≤ 64 := by omega
      clear hm hh e0 e2 e3 e4 e5 hbd hg
      go_enter Tryd.func43, Tryd.ntmps43
      go_wp2_with fail
      refine (head_r g a _ ha ha').mono ?_
      rintro e w1 ⟨rfl, hb⟩
      obtain ⟨hc, hf⟩ := bcell hb
      go_upto_region 3 with fail
      have he := HE.out
      have hbd := boxed hb
      have hz := hb.size
      simp only [World.size_alloc] at hz
      have hlt : w.heap.size < w1.heap.size := by omega
      go_region_with (go_at_call 36; refine (head_r g a _ ha ha').mono ?_; rintro e w2 ⟨rfl, hb2⟩; have hc2 := fun o => hb2.cell (p := ⟨w.heap.size, o, none⟩) (by simpa using hlt))
      all_goals
        go_wp2_with fail
        go_ret
        exact ⟨ret_int (by rw [HV.out]), hbd.drew.trans (hb2.mono hbd.size)⟩
    · have HV := Lib.hid (journal_out hm (a := a) (b := b) (by omega))
      have h2' : b < 0 := by omega
      clear hm hh h2
      go_enter Tryd.func43, Tryd.ntmps43
      go_wp2_with fail
      refine (head_r g a _ ha ha').mono ?_
      rintro e w1 ⟨rfl, hb⟩
      go_wp2_with fail
      go_ret
      exact ⟨ret_int (by rw [HV.out]), boxed hb⟩
  · have hh : headV g a = -1 := by
      by_cases hm' : mayG g = true
      · exact head_out hm' (by simp only [hm', true_and] at hm; omega)
      · exact head_nil (by simpa using hm') a
    have hv : journalV g a b = -1 := by
      by_cases hm' : mayG g = true
      · exact journal_out hm' (by simp only [hm', true_and] at hm; omega)
      · exact journal_nil (by simpa using hm') a b
    have HV := Lib.hid hv
    have HH := Lib.hid hh
    clear hm hh hv
    go_enter Tryd.func43, Tryd.ntmps43
    go_wp2_with fail
    refine (head_r g a _ ha ha').mono ?_
    rintro e w1 ⟨rfl, hb⟩
    rw [HH.out]
    go_wp2_with fail
    go_ret
    exact ⟨ret_int (by rw [HV.out]), boxed hb⟩

end Go.Proofs.YtaegkpfjopajpaaDoor
