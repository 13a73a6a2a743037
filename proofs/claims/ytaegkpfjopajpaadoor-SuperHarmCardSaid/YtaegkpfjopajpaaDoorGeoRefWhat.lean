/-
  The document's own answer of what stands at a sector: its loops, by contract.
-/
import Derived.Test.YtaegkpfjopajpaaDoorGeoRefs
import Derived.Test.YtaegkpfjopajpaaDoorGeoRR
namespace Go.Proofs.YtaegkpfjopajpaaDoor
open Go.RowKit
set_option linter.unusedVariables false
set_option linter.unusedSimpArgs false


set_option maxRecDepth 100000 in
set_option maxHeartbeats 4000000 in
theorem refWhat_super (g : G) (x : Int) (w : World) (hm : mayG g = true) (hx : x = 0) (hx0 : 0 ≤ x) (hxt : x < totalV g) :
    Calls Tryd.prog 24 #[.agg #[.int .i64 g.N, .int .i64 g.S, .int .i64 g.B, .int .i64 g.P, .int .i64 g.J, .int .i64 g.L, .int .i64 g.E, .int .i64 g.T], .int .i64 x] w fun e w' => e = .returned (.tuple #[.int .i8 (whatV g x).k, .int .i64 (whatV g x).a, .int .i64 (whatV g x).b]) ∧ Below w.heap.size w w' := by
  have hg := of_may hm
  have hsb := slots_bd hm
  have hdb := data_bd hm
  have ht := total_in hm
  have htb : totalV g ≤ 4000 := by omega
  have H := Lib.hid hm
  have HV := Lib.hid (what_super hm hx)
  subst hx
  clear hm ht hsb hdb
  go_enter Tryd.func24, Tryd.ntmps24
  go_wp2_with fail
  refine (refMay_any g _).mono ?_
  rintro e w1 ⟨rfl, hb1⟩
  rw [H.out]
  have HR1 := Lib.hid ((RR.start g w).call hb1)
  have hG := HR1.out.2.1
  unfold GAt at hG
  clear hb1
  go_wp2_with fail
  refine (total_r g _).mono ?_
  rintro e w2 ⟨rfl, hb2⟩
  have HR2 := Lib.hid (HR1.out.call hb2)
  clear hG hb2 HR1
  go_wp2_with fail
  go_ret3
  exact ⟨by rw [HV.out]; rfl, HR2.out.1⟩

set_option maxRecDepth 100000 in
set_option maxHeartbeats 4000000 in
theorem refWhat_lease (g : G) (x : Int) (w : World) (hm : mayG g = true) (hx : 1 ≤ x ∧ x < 1 + g.N) (hx0 : 0 ≤ x) (hxt : x < totalV g) :
    Calls Tryd.prog 24 #[.agg #[.int .i64 g.N, .int .i64 g.S, .int .i64 g.B, .int .i64 g.P, .int .i64 g.J, .int .i64 g.L, .int .i64 g.E, .int .i64 g.T], .int .i64 x] w fun e w' => e = .returned (.tuple #[.int .i8 (whatV g x).k, .int .i64 (whatV g x).a, .int .i64 (whatV g x).b]) ∧ Below w.heap.size w w' := by
  have hg := of_may hm
  have hsb := slots_bd hm
  have hdb := data_bd hm
  have ht := total_in hm
  have htb : totalV g ≤ 4000 := by omega
  have H := Lib.hid hm
  have HV := Lib.hid (what_lease hm hx)
  obtain ⟨i0, rfl⟩ : ∃ i0, x = 1 + i0 := ⟨x - 1, by omega⟩
  have hi0 : 0 ≤ i0 := by omega
  have hi1 : i0 < g.N := by omega
  clear hm ht hsb hdb
  have hdt : decide (totalV g ≤ (1 + i0)) = false := decide_eq_false (by omega)
  have hdz : ((1 + i0) == 0) = false := beq_no (by omega)
  have hdn : decide ((1 + i0) < 0) = false := dec_lt_no (by omega)
  go_enter Tryd.func24, Tryd.ntmps24
  go_wp2_with fail
  refine (refMay_any g _).mono ?_
  rintro e w1 ⟨rfl, hb1⟩
  rw [H.out]
  have HR1 := Lib.hid ((RR.start g w).call hb1)
  have hG := HR1.out.2.1
  unfold GAt at hG
  clear hb1
  go_wp2_with fail
  refine (total_r g _).mono ?_
  rintro e w2 ⟨rfl, hb2⟩
  have HR2 := Lib.hid (HR1.out.call hb2)
  clear hG hb2 HR1
  go_wp2_with fail
  go_loopw [7] (fun i wr => ∃ k1 : Int, 0 ≤ k1 ∧ k1 ≤ i0 ∧ i = .int .i64 k1 ∧ Hid (RR g w wr)) (fun i _ => (i0 - intOf i).toNat)
  case atStart => exact ⟨0, by omega, by omega, rfl, HR2⟩
  case round =>
    clear HR2
    obtain ⟨k1, hk10, hk11, rfl, HRa⟩ := hrel
    have hG := HRa.out.2.1
    unfold GAt at hG
    have hkN : k1 < g.N := by omega
    have e1 := lease_in H.out hk10 hkN
    have e2 := paxos_in H.out hk10 hkN
    by_cases hk : k1 < i0
    · have t1 := beq_no (a := leaseV g k1) (b := (1 + i0)) (by omega)
      have t2 := beq_no (a := paxosV g k1) (b := (1 + i0)) (by omega)
      clear e1 e2
      go_wp2_with fail
      refine (lease_r g k1 _ (by omega) (by omega)).mono ?_
      rintro e wHRb ⟨rfl, hb⟩
      have HRb := Lib.hid (HRa.out.call hb)
      clear hb hG
      have hG := HRb.out.2.1
      unfold GAt at hG
      go_wp2_with fail
      refine (paxos_r g k1 _ (by omega) (by omega)).mono ?_
      rintro e wHRc ⟨rfl, hb⟩
      have HRc := Lib.hid (HRb.out.call hb)
      clear hb hG
      have hG := HRc.out.2.1
      unfold GAt at hG
      go_wp2_with fail
      go_roundw
      case rel => exact ⟨k1 + 1, by omega, by omega, rfl, HRc⟩
      case measure => simp [intOf]; omega
    · obtain rfl : k1 = i0 := by omega
      have t1 := beq_yes (a := leaseV g k1) (b := (1 + k1)) (by omega)
      clear e1 e2 hk
      go_wp2_with fail
      refine (lease_r g k1 _ (by omega) (by omega)).mono ?_
      rintro e wHRb ⟨rfl, hb⟩
      have HRb := Lib.hid (HRa.out.call hb)
      clear hb hG
      have hG := HRb.out.2.1
      unfold GAt at hG
      go_wp2_with fail
      go_ret3
      exact ⟨by rw [HV.out]; simp <;> omega, HRb.out.1⟩

set_option maxRecDepth 100000 in
set_option maxHeartbeats 4000000 in
theorem refWhat_paxos (g : G) (x : Int) (w : World) (hm : mayG g = true) (hx : 1 + g.N ≤ x ∧ x < 1 + 2 * g.N) (hx0 : 0 ≤ x) (hxt : x < totalV g) :
    Calls Tryd.prog 24 #[.agg #[.int .i64 g.N, .int .i64 g.S, .int .i64 g.B, .int .i64 g.P, .int .i64 g.J, .int .i64 g.L, .int .i64 g.E, .int .i64 g.T], .int .i64 x] w fun e w' => e = .returned (.tuple #[.int .i8 (whatV g x).k, .int .i64 (whatV g x).a, .int .i64 (whatV g x).b]) ∧ Below w.heap.size w w' := by
  have hg := of_may hm
  have hsb := slots_bd hm
  have hdb := data_bd hm
  have ht := total_in hm
  have htb : totalV g ≤ 4000 := by omega
  have H := Lib.hid hm
  have HV := Lib.hid (what_paxos hm hx)
  obtain ⟨i0, rfl⟩ : ∃ i0, x = 1 + g.N + i0 := ⟨x - (1 + g.N), by omega⟩
  have hi0 : 0 ≤ i0 := by omega
  have hi1 : i0 < g.N := by omega
  clear hm ht hsb hdb
  have hdt : decide (totalV g ≤ (1 + g.N + i0)) = false := decide_eq_false (by omega)
  have hdz : ((1 + g.N + i0) == 0) = false := beq_no (by omega)
  have hdn : decide ((1 + g.N + i0) < 0) = false := dec_lt_no (by omega)
  go_enter Tryd.func24, Tryd.ntmps24
  go_wp2_with fail
  refine (refMay_any g _).mono ?_
  rintro e w1 ⟨rfl, hb1⟩
  rw [H.out]
  have HR1 := Lib.hid ((RR.start g w).call hb1)
  have hG := HR1.out.2.1
  unfold GAt at hG
  clear hb1
  go_wp2_with fail
  refine (total_r g _).mono ?_
  rintro e w2 ⟨rfl, hb2⟩
  have HR2 := Lib.hid (HR1.out.call hb2)
  clear hG hb2 HR1
  go_wp2_with fail
  go_loopw [7] (fun i wr => ∃ k1 : Int, 0 ≤ k1 ∧ k1 ≤ i0 ∧ i = .int .i64 k1 ∧ Hid (RR g w wr)) (fun i _ => (i0 - intOf i).toNat)
  case atStart => exact ⟨0, by omega, by omega, rfl, HR2⟩
  case round =>
    clear HR2
    obtain ⟨k1, hk10, hk11, rfl, HRa⟩ := hrel
    have hG := HRa.out.2.1
    unfold GAt at hG
    have hkN : k1 < g.N := by omega
    have e1 := lease_in H.out hk10 hkN
    have e2 := paxos_in H.out hk10 hkN
    by_cases hk : k1 < i0
    · have t1 := beq_no (a := leaseV g k1) (b := (1 + g.N + i0)) (by omega)
      have t2 := beq_no (a := paxosV g k1) (b := (1 + g.N + i0)) (by omega)
      clear e1 e2
      go_wp2_with fail
      refine (lease_r g k1 _ (by omega) (by omega)).mono ?_
      rintro e wHRb ⟨rfl, hb⟩
      have HRb := Lib.hid (HRa.out.call hb)
      clear hb hG
      have hG := HRb.out.2.1
      unfold GAt at hG
      go_wp2_with fail
      refine (paxos_r g k1 _ (by omega) (by omega)).mono ?_
      rintro e wHRc ⟨rfl, hb⟩
      have HRc := Lib.hid (HRb.out.call hb)
      clear hb hG
      have hG := HRc.out.2.1
      unfold GAt at hG
      go_wp2_with fail
      go_roundw
      case rel => exact ⟨k1 + 1, by omega, by omega, rfl, HRc⟩
      case measure => simp [intOf]; omega
    · obtain rfl : k1 = i0 := by omega
      have t1 := beq_no (a := leaseV g k1) (b := (1 + g.N + k1)) (by omega)
      have t2 := beq_yes (a := paxosV g k1) (b := (1 + g.N + k1)) (by omega)
      clear e1 e2 hk
      go_wp2_with fail
      refine (lease_r g k1 _ (by omega) (by omega)).mono ?_
      rintro e wHRb ⟨rfl, hb⟩
      have HRb := Lib.hid (HRa.out.call hb)
      clear hb hG
      have hG := HRb.out.2.1
      unfold GAt at hG
      go_wp2_with fail
      refine (paxos_r g k1 _ (by omega) (by omega)).mono ?_
      rintro e wHRc ⟨rfl, hb⟩
      have HRc := Lib.hid (HRb.out.call hb)
      clear hb hG
      have hG := HRc.out.2.1
      unfold GAt at hG
      go_wp2_with fail
      go_ret3
      exact ⟨by rw [HV.out]; simp <;> omega, HRc.out.1⟩

set_option maxRecDepth 100000 in
set_option maxHeartbeats 4000000 in
theorem refWhat_log (g : G) (x : Int) (w : World) (hm : mayG g = true) (hx : 1 + 2 * g.N ≤ x ∧ x < 1 + 2 * g.N + g.L) (hx0 : 0 ≤ x) (hxt : x < totalV g) :
    Calls Tryd.prog 24 #[.agg #[.int .i64 g.N, .int .i64 g.S, .int .i64 g.B, .int .i64 g.P, .int .i64 g.J, .int .i64 g.L, .int .i64 g.E, .int .i64 g.T], .int .i64 x] w fun e w' => e = .returned (.tuple #[.int .i8 (whatV g x).k, .int .i64 (whatV g x).a, .int .i64 (whatV g x).b]) ∧ Below w.heap.size w w' := by
  have hg := of_may hm
  have hsb := slots_bd hm
  have hdb := data_bd hm
  have ht := total_in hm
  have htb : totalV g ≤ 4000 := by omega
  have H := Lib.hid hm
  have HV := Lib.hid (what_log hm hx)
  obtain ⟨i0, hi⟩ : ∃ i0, x = 1 + 2 * g.N + i0 := ⟨x - (1 + 2 * g.N), by omega⟩
  have hi0 : 0 ≤ i0 := by omega
  have hi1 : i0 < g.L := by omega
  clear hm ht hsb hdb
  clear hx
  have hx1 : 1 + 2 * g.N ≤ x := by omega
  have HI := Lib.hid hi
  clear hi
  have hdt : decide (totalV g ≤ x) = false := decide_eq_false (by omega)
  have hdz : (x == 0) = false := beq_no (by omega)
  have hdn : decide (x < 0) = false := dec_lt_no (by omega)
  go_enter Tryd.func24, Tryd.ntmps24
  go_wp2_with fail
  refine (refMay_any g _).mono ?_
  rintro e w1 ⟨rfl, hb1⟩
  rw [H.out]
  have HR1 := Lib.hid ((RR.start g w).call hb1)
  have hG := HR1.out.2.1
  unfold GAt at hG
  clear hb1
  go_wp2_with fail
  refine (total_r g _).mono ?_
  rintro e w2 ⟨rfl, hb2⟩
  have HR2 := Lib.hid (HR1.out.call hb2)
  clear hG hb2 HR1
  go_wp2_with fail
  go_loopw [7] (fun i wr => ∃ k1 : Int, 0 ≤ k1 ∧ k1 ≤ g.N ∧ i = .int .i64 k1 ∧ Hid (RR g w wr)) (fun i _ => (g.N - intOf i).toNat)
  case atStart => exact ⟨0, by omega, by omega, rfl, HR2⟩
  case round =>
    clear HR2
    obtain ⟨k1, hk10, hk11, rfl, HRa⟩ := hrel
    have hG := HRa.out.2.1
    unfold GAt at hG
    by_cases hk : k1 < g.N
    · have e1 := lease_in H.out hk10 hk
      have t1 := beq_no (a := leaseV g k1) (b := x) (by omega)
      have e2 := paxos_in H.out hk10 hk
      have t2 := beq_no (a := paxosV g k1) (b := x) (by omega)
      clear e1 e2
      go_wp2_with fail
      refine (lease_r g k1 _ (by omega) (by omega)).mono ?_
      rintro e wHRb ⟨rfl, hb⟩
      have HRb := Lib.hid (HRa.out.call hb)
      clear hb hG
      have hG := HRb.out.2.1
      unfold GAt at hG
      go_wp2_with fail
      refine (paxos_r g k1 _ (by omega) (by omega)).mono ?_
      rintro e wHRc ⟨rfl, hb⟩
      have HRc := Lib.hid (HRb.out.call hb)
      clear hb hG
      have hG := HRc.out.2.1
      unfold GAt at hG
      go_wp2_with fail
      go_roundw
      case rel => exact ⟨k1 + 1, by omega, by omega, rfl, HRc⟩
      case measure => simp [intOf]; omega
    · have hkN : decide (k1 < g.N) = false := dec_lt_no (by omega)
      clear hk hk10 hk11
      go_wp2_with fail
      clear hkN hG
      go_loopw [8] (fun i wr => ∃ k2 : Int, 0 ≤ k2 ∧ k2 ≤ i0 ∧ i = .int .i64 k2 ∧ Hid (RR g w wr)) (fun i _ => (i0 - intOf i).toNat)
      case atStart => exact ⟨0, by omega, by omega, rfl, HRa⟩
      case round =>
        clear HRa
        obtain ⟨k2, hk20, hk21, rfl, HRd⟩ := hrel
        have hG := HRd.out.2.1
        unfold GAt at hG
        have hi := HI.out
        have e1 := log_in H.out hk20 (show k2 < g.L by omega)
        by_cases hk : k2 < i0
        · have t1 := beq_no (a := logV g k2) (b := x) (by omega)
          clear e1 hi
          go_wp2_with fail
          refine (log_r g k2 _ (by omega) (by omega)).mono ?_
          rintro e wHRe ⟨rfl, hb⟩
          have HRe := Lib.hid (HRd.out.call hb)
          clear hb hG
          have hG := HRe.out.2.1
          unfold GAt at hG
          go_wp2_with fail
          go_roundw
          case rel => exact ⟨k2 + 1, by omega, by omega, rfl, HRe⟩
          case measure => simp [intOf]; omega
        · obtain rfl : k2 = i0 := by omega
          have t1 := beq_yes (a := logV g k2) (b := x) (by omega)
          clear e1 hk hi
          go_wp2_with fail
          refine (log_r g k2 _ (by omega) (by omega)).mono ?_
          rintro e wHRe ⟨rfl, hb⟩
          have HRe := Lib.hid (HRd.out.call hb)
          clear hb hG
          have hG := HRe.out.2.1
          unfold GAt at hG
          go_wp2_with fail
          go_ret3
          exact ⟨by rw [HV.out, HI.out]; simp <;> omega, HRe.out.1⟩

set_option maxRecDepth 100000 in
set_option maxHeartbeats 4000000 in
theorem refWhat_head (g : G) (x : Int) (w : World) (hm : mayG g = true) (i0 : Int) (hi0 : 0 ≤ i0) (hi1 : i0 < g.S) (hx : x = 1 + 2 * g.N + g.L + i0 * (1 + g.J)) (HV : Hid (whatV g x = ⟨5, i0, 0⟩)) (hx0 : 0 ≤ x) (hxt : x < totalV g) :
    Calls Tryd.prog 24 #[.agg #[.int .i64 g.N, .int .i64 g.S, .int .i64 g.B, .int .i64 g.P, .int .i64 g.J, .int .i64 g.L, .int .i64 g.E, .int .i64 g.T], .int .i64 x] w fun e w' => e = .returned (.tuple #[.int .i8 (whatV g x).k, .int .i64 (whatV g x).a, .int .i64 (whatV g x).b]) ∧ Below w.heap.size w w' := by
  have hg := of_may hm
  have hsb := slots_bd hm
  have hdb := data_bd hm
  have ht := total_in hm
  have htb : totalV g ≤ 4000 := by omega
  have H := Lib.hid hm
  have hbd0 := head_bd hm hi0 hi1
  clear hm ht hsb hdb
  have HX := Lib.hid hx
  have hx1 : 1 + 2 * g.N + g.L ≤ x := by omega
  have hx2 : x ≤ 4000 := by omega
  clear hx hbd0
  have hdt : decide (totalV g ≤ x) = false := decide_eq_false (by omega)
  have hdz : (x == 0) = false := beq_no (by omega)
  have hdn : decide (x < 0) = false := dec_lt_no (by omega)
  go_enter Tryd.func24, Tryd.ntmps24
  go_wp2_with fail
  refine (refMay_any g _).mono ?_
  rintro e w1 ⟨rfl, hb1⟩
  rw [H.out]
  have HR1 := Lib.hid ((RR.start g w).call hb1)
  have hG := HR1.out.2.1
  unfold GAt at hG
  clear hb1
  go_wp2_with fail
  refine (total_r g _).mono ?_
  rintro e w2 ⟨rfl, hb2⟩
  have HR2 := Lib.hid (HR1.out.call hb2)
  clear hG hb2 HR1
  go_wp2_with fail
  go_loopw [7] (fun i wr => ∃ k1 : Int, 0 ≤ k1 ∧ k1 ≤ g.N ∧ i = .int .i64 k1 ∧ Hid (RR g w wr)) (fun i _ => (g.N - intOf i).toNat)
  case atStart => exact ⟨0, by omega, by omega, rfl, HR2⟩
  case round =>
    clear HR2
    obtain ⟨k1, hk10, hk11, rfl, HRa⟩ := hrel
    have hG := HRa.out.2.1
    unfold GAt at hG
    by_cases hk : k1 < g.N
    · have e1 := lease_in H.out hk10 hk
      have t1 := beq_no (a := leaseV g k1) (b := x) (by omega)
      have e2 := paxos_in H.out hk10 hk
      have t2 := beq_no (a := paxosV g k1) (b := x) (by omega)
      clear e1 e2
      go_wp2_with fail
      refine (lease_r g k1 _ (by omega) (by omega)).mono ?_
      rintro e wHRb ⟨rfl, hb⟩
      have HRb := Lib.hid (HRa.out.call hb)
      clear hb hG
      have hG := HRb.out.2.1
      unfold GAt at hG
      go_wp2_with fail
      refine (paxos_r g k1 _ (by omega) (by omega)).mono ?_
      rintro e wHRc ⟨rfl, hb⟩
      have HRc := Lib.hid (HRb.out.call hb)
      clear hb hG
      have hG := HRc.out.2.1
      unfold GAt at hG
      go_wp2_with fail
      go_roundw
      case rel => exact ⟨k1 + 1, by omega, by omega, rfl, HRc⟩
      case measure => simp [intOf]; omega
    · have hkN : decide (k1 < g.N) = false := dec_lt_no (by omega)
      clear hk hk10 hk11
      go_wp2_with fail
      clear hkN hG
      go_loopw [8] (fun i wr => ∃ k2 : Int, 0 ≤ k2 ∧ k2 ≤ g.L ∧ i = .int .i64 k2 ∧ Hid (RR g w wr)) (fun i _ => (g.L - intOf i).toNat)
      case atStart => exact ⟨0, by omega, by omega, rfl, HRa⟩
      case round =>
        clear HRa
        obtain ⟨k2, hk20, hk21, rfl, HRd⟩ := hrel
        have hG := HRd.out.2.1
        unfold GAt at hG
        by_cases hk : k2 < g.L
        · have e1 := log_in H.out hk20 hk
          have t1 := beq_no (a := logV g k2) (b := x) (by omega)
          clear e1
          go_wp2_with fail
          refine (log_r g k2 _ (by omega) (by omega)).mono ?_
          rintro e wHRe ⟨rfl, hb⟩
          have HRe := Lib.hid (HRd.out.call hb)
          clear hb hG
          have hG := HRe.out.2.1
          unfold GAt at hG
          go_wp2_with fail
          go_roundw
          case rel => exact ⟨k2 + 1, by omega, by omega, rfl, HRe⟩
          case measure => simp [intOf]; omega
        · have hkN : decide (k2 < g.L) = false := dec_lt_no (by omega)
          clear hk hk20 hk21
          go_wp2_with fail
          clear hkN hG
          go_loopw [9] (fun i wr => ∃ k3 : Int, 0 ≤ k3 ∧ k3 ≤ i0 ∧ i = .int .i64 k3 ∧ Hid (RR g w wr)) (fun i _ => (i0 - intOf i).toNat)
          case atStart => exact ⟨0, by omega, by omega, rfl, HRd⟩
          case round =>
            clear HRd
            obtain ⟨k3, hk30, hk31, rfl, HRf⟩ := hrel
            have hG := HRf.out.2.1
            unfold GAt at hG
            by_cases hk : k3 < i0
            · have hx := HX.out
              have hk3S : k3 < g.S := by omega
              have hd3 : decide (k3 < g.S) = true := decide_eq_true hk3S
              have hb3 := head_bd H.out hk30 hk3S
              have e1 := head_in H.out hk30 hk3S
              have hst := slot_step H.out hk
              have t1 := beq_no (a := headV g k3) (b := x) (by omega)
              have hfar : 1 + 2 * g.N + g.L + k3 * (1 + g.J) + (1 + g.J) ≤ x := by omega
              clear e1 hst hb3
              have HFAR := Lib.hid hfar
              clear hfar hx
              go_wp2_with fail
              refine (head_r g k3 _ (by omega) (by omega)).mono ?_
              rintro e wHRg ⟨rfl, hb⟩
              have HRg := Lib.hid (HRf.out.call hb)
              clear hb hG
              have hG := HRg.out.2.1
              unfold GAt at hG
              go_wp2_with fail
              clear hG
              go_loopw [10] (fun i wr => ∃ k4 : Int, 0 ≤ k4 ∧ k4 ≤ g.J ∧ i = .int .i64 k4 ∧ Hid (RR g w wr)) (fun i _ => (g.J - intOf i).toNat)
              case atStart => exact ⟨0, by omega, by omega, rfl, HRg⟩
              case round =>
                clear HRg
                obtain ⟨k4, hk40, hk41, rfl, HRh⟩ := hrel
                have hG := HRh.out.2.1
                unfold GAt at hG
                by_cases hj : k4 < g.J
                · have e1 := journal_at H.out hk30 hk3S hk40 hj
                  have hfar := HFAR.out
                  have t2 := beq_no (a := journalV g k3 k4) (b := x) (by omega)
                  clear e1 hfar
                  go_wp2_with fail
                  refine (journal_r g k3 k4 _ (by omega) (by omega) (by omega) (by omega)).mono ?_
                  rintro e wHRi ⟨rfl, hb⟩
                  have HRi := Lib.hid (HRh.out.call hb)
                  clear hb hG
                  have hG := HRi.out.2.1
                  unfold GAt at hG
                  go_wp2_with fail
                  go_roundw
                  case rel => exact ⟨k4 + 1, by omega, by omega, rfl, HRi⟩
                  case measure => simp [intOf]; omega
                · have hjN : decide (k4 < g.J) = false := dec_lt_no (by omega)
                  clear hj
                  go_wp2_with fail
                  go_roundw
                  case rel => exact ⟨k3 + 1, by omega, by omega, rfl, HRh⟩
                  case measure => simp [intOf]; omega
            · obtain rfl : k3 = i0 := by omega
              have hd3 : decide (k3 < g.S) = true := decide_eq_true hi1
              have hx := HX.out
              have e1 := head_in H.out hi0 hi1
              have hbd0 := head_bd H.out hi0 hi1
              have t1 := beq_yes (a := headV g k3) (b := x) (by omega)
              clear e1 hk hx hbd0
              go_wp2_with fail
              refine (head_r g k3 _ (by omega) (by omega)).mono ?_
              rintro e wHRg ⟨rfl, hb⟩
              have HRg := Lib.hid (HRf.out.call hb)
              clear hb hG
              have hG := HRg.out.2.1
              unfold GAt at hG
              go_wp2_with fail
              go_ret3
              exact ⟨by rw [HV.out]; try rfl, HRg.out.1⟩

set_option maxRecDepth 100000 in
set_option maxHeartbeats 4000000 in
theorem refWhat_journal (g : G) (x : Int) (w : World) (hm : mayG g = true) (i0 k0 : Int) (hi0 : 0 ≤ i0) (hi1 : i0 < g.S) (hq0 : 0 ≤ k0) (hq1 : k0 < g.J) (hx : x = 1 + 2 * g.N + g.L + i0 * (1 + g.J) + 1 + k0) (HV : Hid (whatV g x = ⟨6, i0, k0⟩)) (hx0 : 0 ≤ x) (hxt : x < totalV g) :
    Calls Tryd.prog 24 #[.agg #[.int .i64 g.N, .int .i64 g.S, .int .i64 g.B, .int .i64 g.P, .int .i64 g.J, .int .i64 g.L, .int .i64 g.E, .int .i64 g.T], .int .i64 x] w fun e w' => e = .returned (.tuple #[.int .i8 (whatV g x).k, .int .i64 (whatV g x).a, .int .i64 (whatV g x).b]) ∧ Below w.heap.size w w' := by
  have hg := of_may hm
  have hsb := slots_bd hm
  have hdb := data_bd hm
  have ht := total_in hm
  have htb : totalV g ≤ 4000 := by omega
  have H := Lib.hid hm
  have hbd0 := head_bd hm hi0 hi1
  clear hm ht hsb hdb
  have HX := Lib.hid hx
  have hx1 : 1 + 2 * g.N + g.L ≤ x := by omega
  have hx2 : x ≤ 4000 := by omega
  clear hx hbd0
  have hdt : decide (totalV g ≤ x) = false := decide_eq_false (by omega)
  have hdz : (x == 0) = false := beq_no (by omega)
  have hdn : decide (x < 0) = false := dec_lt_no (by omega)
  go_enter Tryd.func24, Tryd.ntmps24
  go_wp2_with fail
  refine (refMay_any g _).mono ?_
  rintro e w1 ⟨rfl, hb1⟩
  rw [H.out]
  have HR1 := Lib.hid ((RR.start g w).call hb1)
  have hG := HR1.out.2.1
  unfold GAt at hG
  clear hb1
  go_wp2_with fail
  refine (total_r g _).mono ?_
  rintro e w2 ⟨rfl, hb2⟩
  have HR2 := Lib.hid (HR1.out.call hb2)
  clear hG hb2 HR1
  go_wp2_with fail
  go_loopw [7] (fun i wr => ∃ k1 : Int, 0 ≤ k1 ∧ k1 ≤ g.N ∧ i = .int .i64 k1 ∧ Hid (RR g w wr)) (fun i _ => (g.N - intOf i).toNat)
  case atStart => exact ⟨0, by omega, by omega, rfl, HR2⟩
  case round =>
    clear HR2
    obtain ⟨k1, hk10, hk11, rfl, HRa⟩ := hrel
    have hG := HRa.out.2.1
    unfold GAt at hG
    by_cases hk : k1 < g.N
    · have e1 := lease_in H.out hk10 hk
      have t1 := beq_no (a := leaseV g k1) (b := x) (by omega)
      have e2 := paxos_in H.out hk10 hk
      have t2 := beq_no (a := paxosV g k1) (b := x) (by omega)
      clear e1 e2
      go_wp2_with fail
      refine (lease_r g k1 _ (by omega) (by omega)).mono ?_
      rintro e wHRb ⟨rfl, hb⟩
      have HRb := Lib.hid (HRa.out.call hb)
      clear hb hG
      have hG := HRb.out.2.1
      unfold GAt at hG
      go_wp2_with fail
      refine (paxos_r g k1 _ (by omega) (by omega)).mono ?_
      rintro e wHRc ⟨rfl, hb⟩
      have HRc := Lib.hid (HRb.out.call hb)
      clear hb hG
      have hG := HRc.out.2.1
      unfold GAt at hG
      go_wp2_with fail
      go_roundw
      case rel => exact ⟨k1 + 1, by omega, by omega, rfl, HRc⟩
      case measure => simp [intOf]; omega
    · have hkN : decide (k1 < g.N) = false := dec_lt_no (by omega)
      clear hk hk10 hk11
      go_wp2_with fail
      clear hkN hG
      go_loopw [8] (fun i wr => ∃ k2 : Int, 0 ≤ k2 ∧ k2 ≤ g.L ∧ i = .int .i64 k2 ∧ Hid (RR g w wr)) (fun i _ => (g.L - intOf i).toNat)
      case atStart => exact ⟨0, by omega, by omega, rfl, HRa⟩
      case round =>
        clear HRa
        obtain ⟨k2, hk20, hk21, rfl, HRd⟩ := hrel
        have hG := HRd.out.2.1
        unfold GAt at hG
        by_cases hk : k2 < g.L
        · have e1 := log_in H.out hk20 hk
          have t1 := beq_no (a := logV g k2) (b := x) (by omega)
          clear e1
          go_wp2_with fail
          refine (log_r g k2 _ (by omega) (by omega)).mono ?_
          rintro e wHRe ⟨rfl, hb⟩
          have HRe := Lib.hid (HRd.out.call hb)
          clear hb hG
          have hG := HRe.out.2.1
          unfold GAt at hG
          go_wp2_with fail
          go_roundw
          case rel => exact ⟨k2 + 1, by omega, by omega, rfl, HRe⟩
          case measure => simp [intOf]; omega
        · have hkN : decide (k2 < g.L) = false := dec_lt_no (by omega)
          clear hk hk20 hk21
          go_wp2_with fail
          clear hkN hG
          go_loopw [9] (fun i wr => ∃ k3 : Int, 0 ≤ k3 ∧ k3 ≤ i0 ∧ i = .int .i64 k3 ∧ Hid (RR g w wr)) (fun i _ => (i0 - intOf i).toNat)
          case atStart => exact ⟨0, by omega, by omega, rfl, HRd⟩
          case round =>
            clear HRd
            obtain ⟨k3, hk30, hk31, rfl, HRf⟩ := hrel
            have hG := HRf.out.2.1
            unfold GAt at hG
            by_cases hk : k3 < i0
            · have hx := HX.out
              have hk3S : k3 < g.S := by omega
              have hd3 : decide (k3 < g.S) = true := decide_eq_true hk3S
              have hb3 := head_bd H.out hk30 hk3S
              have e1 := head_in H.out hk30 hk3S
              have hst := slot_step H.out hk
              have t1 := beq_no (a := headV g k3) (b := x) (by omega)
              have hfar : 1 + 2 * g.N + g.L + k3 * (1 + g.J) + (1 + g.J) ≤ x := by omega
              clear e1 hst hb3
              have HFAR := Lib.hid hfar
              clear hfar hx
              go_wp2_with fail
              refine (head_r g k3 _ (by omega) (by omega)).mono ?_
              rintro e wHRg ⟨rfl, hb⟩
              have HRg := Lib.hid (HRf.out.call hb)
              clear hb hG
              have hG := HRg.out.2.1
              unfold GAt at hG
              go_wp2_with fail
              clear hG
              go_loopw [10] (fun i wr => ∃ k4 : Int, 0 ≤ k4 ∧ k4 ≤ g.J ∧ i = .int .i64 k4 ∧ Hid (RR g w wr)) (fun i _ => (g.J - intOf i).toNat)
              case atStart => exact ⟨0, by omega, by omega, rfl, HRg⟩
              case round =>
                clear HRg
                obtain ⟨k4, hk40, hk41, rfl, HRh⟩ := hrel
                have hG := HRh.out.2.1
                unfold GAt at hG
                by_cases hj : k4 < g.J
                · have e1 := journal_at H.out hk30 hk3S hk40 hj
                  have hfar := HFAR.out
                  have t2 := beq_no (a := journalV g k3 k4) (b := x) (by omega)
                  clear e1 hfar
                  go_wp2_with fail
                  refine (journal_r g k3 k4 _ (by omega) (by omega) (by omega) (by omega)).mono ?_
                  rintro e wHRi ⟨rfl, hb⟩
                  have HRi := Lib.hid (HRh.out.call hb)
                  clear hb hG
                  have hG := HRi.out.2.1
                  unfold GAt at hG
                  go_wp2_with fail
                  go_roundw
                  case rel => exact ⟨k4 + 1, by omega, by omega, rfl, HRi⟩
                  case measure => simp [intOf]; omega
                · have hjN : decide (k4 < g.J) = false := dec_lt_no (by omega)
                  clear hj
                  go_wp2_with fail
                  go_roundw
                  case rel => exact ⟨k3 + 1, by omega, by omega, rfl, HRh⟩
                  case measure => simp [intOf]; omega
            · obtain rfl : k3 = i0 := by omega
              have hd3 : decide (k3 < g.S) = true := decide_eq_true hi1
              have hx := HX.out
              have e1 := head_in H.out hi0 hi1
              have hbd0 := head_bd H.out hi0 hi1
              have t1 := beq_no (a := headV g k3) (b := x) (by omega)
              clear e1 hk hx hbd0
              go_wp2_with fail
              refine (head_r g k3 _ (by omega) (by omega)).mono ?_
              rintro e wHRg ⟨rfl, hb⟩
              have HRg := Lib.hid (HRf.out.call hb)
              clear hb hG
              have hG := HRg.out.2.1
              unfold GAt at hG
              go_wp2_with fail
              clear hG
              go_loopw [10] (fun i wr => ∃ k4 : Int, 0 ≤ k4 ∧ k4 ≤ k0 ∧ i = .int .i64 k4 ∧ Hid (RR g w wr)) (fun i _ => (k0 - intOf i).toNat)
              case atStart => exact ⟨0, by omega, by omega, rfl, HRg⟩
              case round =>
                clear HRg
                obtain ⟨k4, hk40, hk41, rfl, HRh⟩ := hrel
                have hG := HRh.out.2.1
                unfold GAt at hG
                have hx := HX.out
                have hbd0 := head_bd H.out hi0 hi1
                have e1 := journal_at H.out hi0 hi1 hk40 (show k4 < g.J by omega)
                by_cases hj : k4 < k0
                · have t2 := beq_no (a := journalV g k3 k4) (b := x) (by omega)
                  clear e1 hx hbd0
                  go_wp2_with fail
                  refine (journal_r g k3 k4 _ (by omega) (by omega) (by omega) (by omega)).mono ?_
                  rintro e wHRi ⟨rfl, hb⟩
                  have HRi := Lib.hid (HRh.out.call hb)
                  clear hb hG
                  have hG := HRi.out.2.1
                  unfold GAt at hG
                  go_wp2_with fail
                  go_roundw
                  case rel => exact ⟨k4 + 1, by omega, by omega, rfl, HRi⟩
                  case measure => simp [intOf]; omega
                · obtain rfl : k4 = k0 := by omega
                  have t2 := beq_yes (a := journalV g k3 k4) (b := x) (by omega)
                  clear e1 hx hbd0 hj
                  go_wp2_with fail
                  refine (journal_r g k3 k4 _ (by omega) (by omega) (by omega) (by omega)).mono ?_
                  rintro e wHRi ⟨rfl, hb⟩
                  have HRi := Lib.hid (HRh.out.call hb)
                  clear hb hG
                  have hG := HRi.out.2.1
                  unfold GAt at hG
                  go_wp2_with fail
                  go_ret3
                  exact ⟨by rw [HV.out]; try rfl, HRi.out.1⟩

set_option maxRecDepth 100000 in
set_option maxHeartbeats 4000000 in
theorem refWhat_data (g : G) (x : Int) (w : World) (hm : mayG g = true) (hx : 1 + 2 * g.N + g.L + g.S * (1 + g.J) ≤ x) (hx0 : 0 ≤ x) (hxt : x < totalV g) :
    Calls Tryd.prog 24 #[.agg #[.int .i64 g.N, .int .i64 g.S, .int .i64 g.B, .int .i64 g.P, .int .i64 g.J, .int .i64 g.L, .int .i64 g.E, .int .i64 g.T], .int .i64 x] w fun e w' => e = .returned (.tuple #[.int .i8 (whatV g x).k, .int .i64 (whatV g x).a, .int .i64 (whatV g x).b]) ∧ Below w.heap.size w w' := by
  have hg := of_may hm
  have hsb := slots_bd hm
  have hdb := data_bd hm
  have ht := total_in hm
  have htb : totalV g ≤ 4000 := by omega
  have H := Lib.hid hm
  have HV := Lib.hid (what_data hm ⟨hx, hxt⟩)
  have hd0 := data_in hm (a := 0) (b := 0) (by omega) (by omega) (by omega) (by omega)
  have hd1 : 0 ≤ dataV g 0 0 := by omega
  have hd2 : dataV g 0 0 ≤ x := by omega
  have hq := quo_bd (d := x - dataV g 0 0) (e := g.P) (by omega) (by omega)
  have HX := Lib.hid hx
  have hx1 : 1 + 2 * g.N + g.L ≤ x := by omega
  have hx2 : x ≤ 4000 := by omega
  clear hm ht hsb hdb
  clear hx hd0
  have hdt : decide (totalV g ≤ x) = false := decide_eq_false (by omega)
  have hdz : (x == 0) = false := beq_no (by omega)
  have hdn : decide (x < 0) = false := dec_lt_no (by omega)
  go_enter Tryd.func24, Tryd.ntmps24
  go_wp2_with fail
  refine (refMay_any g _).mono ?_
  rintro e w1 ⟨rfl, hb1⟩
  rw [H.out]
  have HR1 := Lib.hid ((RR.start g w).call hb1)
  have hG := HR1.out.2.1
  unfold GAt at hG
  clear hb1
  go_wp2_with fail
  refine (total_r g _).mono ?_
  rintro e w2 ⟨rfl, hb2⟩
  have HR2 := Lib.hid (HR1.out.call hb2)
  clear hG hb2 HR1
  go_wp2_with fail
  go_loopw [7] (fun i wr => ∃ k1 : Int, 0 ≤ k1 ∧ k1 ≤ g.N ∧ i = .int .i64 k1 ∧ Hid (RR g w wr)) (fun i _ => (g.N - intOf i).toNat)
  case atStart => exact ⟨0, by omega, by omega, rfl, HR2⟩
  case round =>
    clear HR2
    obtain ⟨k1, hk10, hk11, rfl, HRa⟩ := hrel
    have hG := HRa.out.2.1
    unfold GAt at hG
    by_cases hk : k1 < g.N
    · have e1 := lease_in H.out hk10 hk
      have t1 := beq_no (a := leaseV g k1) (b := x) (by omega)
      have e2 := paxos_in H.out hk10 hk
      have t2 := beq_no (a := paxosV g k1) (b := x) (by omega)
      clear e1 e2
      go_wp2_with fail
      refine (lease_r g k1 _ (by omega) (by omega)).mono ?_
      rintro e wHRb ⟨rfl, hb⟩
      have HRb := Lib.hid (HRa.out.call hb)
      clear hb hG
      have hG := HRb.out.2.1
      unfold GAt at hG
      go_wp2_with fail
      refine (paxos_r g k1 _ (by omega) (by omega)).mono ?_
      rintro e wHRc ⟨rfl, hb⟩
      have HRc := Lib.hid (HRb.out.call hb)
      clear hb hG
      have hG := HRc.out.2.1
      unfold GAt at hG
      go_wp2_with fail
      go_roundw
      case rel => exact ⟨k1 + 1, by omega, by omega, rfl, HRc⟩
      case measure => simp [intOf]; omega
    · have hkN : decide (k1 < g.N) = false := dec_lt_no (by omega)
      clear hk hk10 hk11
      go_wp2_with fail
      clear hkN hG
      go_loopw [8] (fun i wr => ∃ k2 : Int, 0 ≤ k2 ∧ k2 ≤ g.L ∧ i = .int .i64 k2 ∧ Hid (RR g w wr)) (fun i _ => (g.L - intOf i).toNat)
      case atStart => exact ⟨0, by omega, by omega, rfl, HRa⟩
      case round =>
        clear HRa
        obtain ⟨k2, hk20, hk21, rfl, HRd⟩ := hrel
        have hG := HRd.out.2.1
        unfold GAt at hG
        by_cases hk : k2 < g.L
        · have e1 := log_in H.out hk20 hk
          have t1 := beq_no (a := logV g k2) (b := x) (by omega)
          clear e1
          go_wp2_with fail
          refine (log_r g k2 _ (by omega) (by omega)).mono ?_
          rintro e wHRe ⟨rfl, hb⟩
          have HRe := Lib.hid (HRd.out.call hb)
          clear hb hG
          have hG := HRe.out.2.1
          unfold GAt at hG
          go_wp2_with fail
          go_roundw
          case rel => exact ⟨k2 + 1, by omega, by omega, rfl, HRe⟩
          case measure => simp [intOf]; omega
        · have hkN : decide (k2 < g.L) = false := dec_lt_no (by omega)
          clear hk hk20 hk21
          go_wp2_with fail
          clear hkN hG
          go_loopw [9] (fun i wr => ∃ k3 : Int, 0 ≤ k3 ∧ k3 ≤ g.S ∧ i = .int .i64 k3 ∧ Hid (RR g w wr)) (fun i _ => (g.S - intOf i).toNat)
          case atStart => exact ⟨0, by omega, by omega, rfl, HRd⟩
          case round =>
            clear HRd
            obtain ⟨k3, hk30, hk31, rfl, HRf⟩ := hrel
            have hG := HRf.out.2.1
            unfold GAt at hG
            by_cases hk : k3 < g.S
            · have hx := HX.out
              have hk3S : k3 < g.S := by omega
              have hd3 : decide (k3 < g.S) = true := decide_eq_true hk3S
              have hb3 := head_bd H.out hk30 hk3S
              have e1 := head_in H.out hk30 hk3S
              have hst := slot_step H.out hk
              have t1 := beq_no (a := headV g k3) (b := x) (by omega)
              have hfar : 1 + 2 * g.N + g.L + k3 * (1 + g.J) + (1 + g.J) ≤ x := by omega
              clear e1 hst hb3
              have HFAR := Lib.hid hfar
              clear hfar hx
              go_wp2_with fail
              refine (head_r g k3 _ (by omega) (by omega)).mono ?_
              rintro e wHRg ⟨rfl, hb⟩
              have HRg := Lib.hid (HRf.out.call hb)
              clear hb hG
              have hG := HRg.out.2.1
              unfold GAt at hG
              go_wp2_with fail
              clear hG
              go_loopw [10] (fun i wr => ∃ k4 : Int, 0 ≤ k4 ∧ k4 ≤ g.J ∧ i = .int .i64 k4 ∧ Hid (RR g w wr)) (fun i _ => (g.J - intOf i).toNat)
              case atStart => exact ⟨0, by omega, by omega, rfl, HRg⟩
              case round =>
                clear HRg
                obtain ⟨k4, hk40, hk41, rfl, HRh⟩ := hrel
                have hG := HRh.out.2.1
                unfold GAt at hG
                by_cases hj : k4 < g.J
                · have e1 := journal_at H.out hk30 hk3S hk40 hj
                  have hfar := HFAR.out
                  have t2 := beq_no (a := journalV g k3 k4) (b := x) (by omega)
                  clear e1 hfar
                  go_wp2_with fail
                  refine (journal_r g k3 k4 _ (by omega) (by omega) (by omega) (by omega)).mono ?_
                  rintro e wHRi ⟨rfl, hb⟩
                  have HRi := Lib.hid (HRh.out.call hb)
                  clear hb hG
                  have hG := HRi.out.2.1
                  unfold GAt at hG
                  go_wp2_with fail
                  go_roundw
                  case rel => exact ⟨k4 + 1, by omega, by omega, rfl, HRi⟩
                  case measure => simp [intOf]; omega
                · have hjN : decide (k4 < g.J) = false := dec_lt_no (by omega)
                  clear hj
                  go_wp2_with fail
                  go_roundw
                  case rel => exact ⟨k3 + 1, by omega, by omega, rfl, HRh⟩
                  case measure => simp [intOf]; omega
            · have hkN : decide (k3 < g.S) = false := dec_lt_no (by omega)
              clear hk hk30 hk31
              go_wp2_with fail
              clear hkN
              refine (data_r g 0 0 _ (by omega) (by omega) (by omega) (by omega)).mono ?_
              rintro e wHRg ⟨rfl, hb⟩
              have HRg := Lib.hid (HRf.out.call hb)
              clear hb hG
              have hG := HRg.out.2.1
              unfold GAt at hG
              go_wp2_with fail
              go_quiet (fail)
              go_wp2_with fail
              go_ret3
              exact ⟨by rw [HV.out]; try rfl, HRg.out.1.trans (drewN_below _ _ _)⟩

set_option maxRecDepth 100000 in
theorem what_r (g : G) (x : Int) (w : World) (hx0 : -9223372036854775808 ≤ x) (hx1 : x ≤ 9223372036854775807) :
    Calls Tryd.prog 24 #[.agg #[.int .i64 g.N, .int .i64 g.S, .int .i64 g.B, .int .i64 g.P, .int .i64 g.J, .int .i64 g.L, .int .i64 g.E, .int .i64 g.T], .int .i64 x] w fun e w' => e = .returned (.tuple #[.int .i8 (whatV g x).k, .int .i64 (whatV g x).a, .int .i64 (whatV g x).b]) ∧ Below w.heap.size w w' := by
  by_cases hm : mayG g = true
  · have hg := of_may hm
    have hsb := slots_bd hm
    have hdb := data_bd hm
    have ht := total_in hm
    by_cases h1 : x < 0
    · have HV := Lib.hid (what_out hm (.inl h1))
      have H := Lib.hid hm
      clear hm ht hsb hdb hg
      go_enter Tryd.func24, Tryd.ntmps24
      go_wp2_with fail
      refine (refMay_any g _).mono ?_
      rintro e w1 ⟨rfl, hb1⟩
      rw [H.out]
      go_wp2_with fail
      go_ret3
      exact ⟨by rw [HV.out]; try rfl, boxed hb1⟩
    · by_cases h2 : totalV g ≤ x
      · have HV := Lib.hid (what_out hm (.inr h2))
        have H := Lib.hid hm
        have h1' : 0 ≤ x := by omega
        clear hm ht hsb hdb hg h1
        go_enter Tryd.func24, Tryd.ntmps24
        go_wp2_with fail
        refine (refMay_any g _).mono ?_
        rintro e w1 ⟨rfl, hb1⟩
        rw [H.out]
        have HR1 := Lib.hid ((RR.start g w).call hb1)
        have hG := HR1.out.2.1
        unfold GAt at hG
        clear hb1
        go_wp2_with fail
        refine (total_r g _).mono ?_
        rintro e w2 ⟨rfl, hb2⟩
        have HR2 := Lib.hid (HR1.out.call hb2)
        clear hG hb2 HR1
        go_wp2_with fail
        go_ret3
        exact ⟨by rw [HV.out]; try rfl, HR2.out.1⟩
      · by_cases h3 : x = 0
        · exact refWhat_super g x w hm h3 (by omega) (by omega)
        · by_cases h4 : x < 1 + g.N
          · exact refWhat_lease g x w hm (by omega) (by omega) (by omega)
          · by_cases h5 : x < 1 + 2 * g.N
            · exact refWhat_paxos g x w hm (by omega) (by omega) (by omega)
            · by_cases h6 : x < 1 + 2 * g.N + g.L
              · exact refWhat_log g x w hm (by omega) (by omega) (by omega)
              · by_cases h7 : x < 1 + 2 * g.N + g.L + g.S * (1 + g.J)
                · obtain ⟨i0, k0, a0, a1, a2, a3, a4, a5⟩ := slot_parts hm ⟨by omega, h7⟩
                  rcases a5 with ⟨rfl, hv⟩ | ⟨a5, hv⟩
                  · exact refWhat_head g x w hm i0 a0 a1 (by omega) hv (by omega) (by omega)
                  · exact refWhat_journal g x w hm i0 (k0 - 1) a0 a1 (by omega) (by omega) (by omega) hv (by omega) (by omega)
                · exact refWhat_data g x w hm (by omega) (by omega) (by omega)
  · have hm' : mayG g = false := by simpa using hm
    have HV := Lib.hid (what_nil (x := x) hm')
    have H := Lib.hid hm'
    clear hm hm'
    go_enter Tryd.func24, Tryd.ntmps24
    go_wp2_with fail
    refine (refMay_any g _).mono ?_
    rintro e w1 ⟨rfl, hb1⟩
    rw [H.out]
    go_wp2_with fail
    go_ret3
    exact ⟨by rw [HV.out]; try rfl, boxed hb1⟩

end Go.Proofs.YtaegkpfjopajpaaDoor
