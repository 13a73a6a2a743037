/-
  super: the document's own laying of a device's sectors: by contract.
-/
import Derived.Test.YtaegkpfjopajpaaDoorSuperPlace
import Derived.Test.YtaegkpfjopajpaaDoorSuperFormat
import Derived.Deep.DeepCutAuto
namespace Go.Proofs.YtaegkpfjopajpaaDoor
open Go.RowKit
set_option linter.unusedVariables false
set_option linter.unusedSimpArgs false

set_option maxRecDepth 100000 in
theorem refFormat_no (g : G) (w : World) (hm : mayG g = false) :
    Calls Tryd.prog 18 #[.agg #[.int .i64 g.N, .int .i64 g.S, .int .i64 g.B, .int .i64 g.P, .int .i64 g.J, .int .i64 g.L, .int .i64 g.E, .int .i64 g.T]] w fun e w' => e = .returned (.tuple #[.slice none 0 0, .int .i64 40]) ∧ Below w.heap.size w w' := by
  have HO := Lib.hid (bytes_no hm)
  go_enter Tryd.func18, Tryd.ntmps18
  go_wp2_with fail
  refine (refBytes_any g _).mono ?_
  rintro e w1 ⟨rfl, hb1⟩
  rw [HO.out.1, HO.out.2]
  go_wp2_with fail
  go_ret2
  exact ⟨rfl, boxed hb1⟩

set_option maxRecDepth 100000 in
set_option maxHeartbeats 1000000 in
theorem refFormat_yes (g : G) (w : World) (hm : mayG g = true) :
    Calls Tryd.prog 18 #[.agg #[.int .i64 g.N, .int .i64 g.S, .int .i64 g.B, .int .i64 g.P, .int .i64 g.J, .int .i64 g.L, .int .i64 g.E, .int .i64 g.T]] w fun e w' => ∃ A c, e = .returned (.tuple #[.slice A (totN g) c, .int .i64 0]) ∧ Below w.heap.size w w' ∧ w'.ownsRow w.heap.size 9 1 (.slice A (totN g) c) (totN g) (strV (fmtL g)) := by
  have HO := Lib.hid (bytes_yes hm)
  have HH : Hid (headV' 0 = headS 0 ∧ headE 0 = 0) := ⟨rfl, rfl⟩
  obtain ⟨hT, hTb⟩ := total_bd g
  have HT := Lib.hid hT
  obtain ⟨i0, hi, hz0, hz1, hz2⟩ := info_parts infoString
  have HR0 := RR.start g w
  have hg := of_may hm
  have HM := Lib.hid hm
  have hN0 : 0 < totN g := by
    have := head_at hm (i := 0) (by omega) (by omega)
    unfold totN
    omega
  clear hT hm
  go_enter Tryd.func18, Tryd.ntmps18
  go_wp2_with fail
  refine (refBytes_any g _).mono ?_
  rintro e w1 ⟨rfl, hb1⟩
  rw [HO.out.1, HO.out.2]
  have hR1 := HR0.call hb1
  clear hb1 HR0
  go_wp2_with fail
  refine (refHead_any 0 _).mono ?_
  rintro e w2 ⟨rfl, hb2⟩
  rw [HH.out.1, HH.out.2]
  have hR2 := hR1.call hb2
  have hG2 := hR2.2.1
  unfold GAt at hG2
  clear hb2 hR1
  go_wp2_with fail
  refine (total_r g _).mono ?_
  rintro e w3 ⟨rfl, hb3⟩
  rw [HT.out]
  have hR3 := hR2.call hb3
  have hw3 := hR3.1.size
  clear hb3 hR2 hG2
  go_upto_region 6 with (at_make; refine wpList_make_full _ rfl _ _ 34 rfl w.heap.size 9 i0 (.string ⟨#[]⟩) 1 Tryd.underlying34 hi hz0 hz1 .i64 .i64 _ _ (totN g) rfl rfl rfl rfl (by rw [hz2]; omega) (by unfold maxLen; omega) hw3 ?_; intro w4 hown4 hg4)
  have hb4 : Below w3.heap.size w3 w4 := ⟨hg4.os, hg4.tape, hg4.output, hg4.size, fun k hk => hg4.block k hk (by simp)⟩
  have hR4 := hR3.call hb4
  have hown5 : w4.ownsRow w.heap.size 9 1 (.slice (some ⟨w3.heap.size, 0, none⟩) (totN g) (totN g)) (totN g) (strV (List.replicate (totN g) ⟨#[]⟩)) := by
    have e : (madeCells (Value.string ⟨#[]⟩).cells (totN g * 1)).toList = strV (List.replicate (totN g) ⟨#[]⟩) := by
      rw [Nat.mul_one]
      show (madeCells #[Value.string ⟨#[]⟩] (totN g)).toList = _
      rw [toList_madeCells_one, strV, List.map_replicate]
    rw [e] at hown4
    exact hown4
  have hc0 : w4.cell? ⟨w3.heap.size, 0, none⟩ = some (.string ⟨#[]⟩) := by
    have h := hown5.cellAt 0 (by omega)
    rw [strV, List.map_replicate, List.getElem?_replicate, if_pos hN0] at h
    exact h
  have hf0 := hown5.frozenAt 0
  have hst := hown5.stored 0 (.string (supS g))
  rw [strV, ← List.map_set, refF_start] at hst
  have hR5 : RR g w (w4.setCell ⟨w3.heap.size, 0, none⟩ (.string (supS g))) := ⟨hR4.1.grown hst.2 hR4.1.size (fun k hk => (hown5.lt k hk).1), by
    have h2 := hR4.2.1
    unfold GAt at h2 ⊢
    have key : ∀ o, (w4.setCell ⟨w3.heap.size, 0, none⟩ (.string (supS g))).cell? ⟨w.heap.size, o, none⟩ = w4.cell? ⟨w.heap.size, o, none⟩ := fun o => World.cell?_of_block (a := ⟨w.heap.size, o, none⟩) (Below.heap_setCell _ _ _ _ (by show w.heap.size ≠ w3.heap.size; have := hR3.2.2; omega))
    simp only [key]
    exact h2, Nat.lt_of_lt_of_le hR4.2.2 hst.2.size⟩
  have hown6 := hst.1
  clear hown4 hown5 hg4 hst hR4
  go_wp2_with fail
  generalize w4.setCell ⟨w3.heap.size, 0, none⟩ (.string (supS g)) = w5 at *
  clear hc0 hf0 hb4
  have hr0 := hR3.2.2
  go_loopw [9] (fun i wr => ∃ k : Nat, (k : Int) ≤ g.S ∧ i = .int .i64 (k : Int) ∧ wr.ownsRow w.heap.size 9 1 (.slice (some ⟨w3.heap.size, 0, none⟩) (totN g) (totN g)) (totN g) (strV (refF g k)) ∧ RR g w wr) (fun i _ => g.S.toNat - (intOf i).toNat)
  case atStart => exact ⟨0, by omega, rfl, hown6, hR5⟩
  case round =>
    obtain ⟨k, hk, rfl, hown, hR⟩ := hrel
    have hG := hR.2.1
    unfold GAt at hG
    by_cases hlt : (k : Int) < g.S
    · have hh := head_at HM.out (i := (k : Int)) (by omega) hlt
      obtain ⟨q, hq⟩ : ∃ q : Nat, headV g (k : Int) = (q : Int) := ⟨(headV g (k : Int)).toNat, by omega⟩
      have hqN : q < totN g := by unfold totN; omega
      have hst2 := refF_step HM.out hlt
      rw [hq, Int.toNat_natCast] at hst2
      have HS := Lib.hid hst2
      have HQ := Lib.hid hq
      clear hst2 hq hh
      go_wp2_with fail
      refine (head_r g (k : Int) _ (by omega) (by omega)).mono ?_
      rintro e w6 ⟨rfl, hb6⟩
      rw [HQ.out]
      have hR6 := hR.call hb6
      have hown7 := own_below hown hb6
      have hfq := hown7.frozenAt q
      have hcq := hown7.cellAt q (by omega)
      obtain ⟨y, hy⟩ : ∃ y, (refF g k)[q]? = some y := ⟨_, List.getElem?_eq_getElem (by rw [refF_length]; exact hqN)⟩
      rw [strV, List.getElem?_map, hy] at hcq
      have hcq : w6.cell? ⟨w3.heap.size, q, none⟩ = some (.string y) := hcq
      have hst := hown7.stored q (.string (headS 0))
      rw [strV, ← List.map_set, HS.out] at hst
      have hR7 : RR g w (w6.setCell ⟨w3.heap.size, q, none⟩ (.string (headS 0))) := ⟨hR6.1.grown hst.2 hR6.1.size (fun k hk => (hown7.lt k hk).1), by
        have h2 := hR6.2.1
        unfold GAt at h2 ⊢
        have key : ∀ o, (w6.setCell ⟨w3.heap.size, q, none⟩ (.string (headS 0))).cell? ⟨w.heap.size, o, none⟩ = w6.cell? ⟨w.heap.size, o, none⟩ := fun o => World.cell?_of_block (a := ⟨w.heap.size, o, none⟩) (Below.heap_setCell _ _ _ _ (by show w.heap.size ≠ w3.heap.size; omega))
        simp only [key]
        exact h2, Nat.lt_of_lt_of_le hR6.2.2 hst.2.size⟩
      have hown8 := hst.1
      clear hy hst hown7 hR6 hb6 hG hR hown hR5 hown6
      go_wp2_with fail
      go_roundw
      case rel => exact ⟨k + 1, by omega, by go_num, hown8, hR7⟩
      case measure => simp [intOf]; omega
    · have hkS : k = g.S.toNat := by omega
      subst hkS
      rw [refF_all HM.out] at hown
      go_wp2_with fail
      go_ret2
      exact ⟨_, _, rfl, hR.1, hown⟩

end Go.Proofs.YtaegkpfjopajpaaDoor
