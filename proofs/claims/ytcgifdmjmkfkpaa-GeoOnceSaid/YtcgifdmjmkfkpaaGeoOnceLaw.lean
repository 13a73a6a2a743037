/-
  The statement GeoOnce: each sector is just one thing, which stands there; none stands beyond: for every geometry the call answers true and leaves its argument as it was. No conditions.
-/
import Derived.Test.YtcgifdmjmkfkpaaGeoSector
import Derived.ProofKit
import Derived.OpenShut
import Derived.ShutString
import Derived.ChangeOld
import Derived.Below
namespace Go.Proofs.Ytcgifdmjmkfkpaa.geoOnce
open Go.ChangeShapes Go.WideShapes Go.ChangeAt Go.RowKit
open Go.ChangeMaps (open_string shut_string)
set_option linter.unusedVariables false
set_option linter.unusedSimpArgs false

theorem own : ownKnob Try.prog.godebug = none := by kernel_rfl
theorem laidOut : laidOutB Try.prog = true := by kernel_rfl

/-- How many sectors with something were met ahead of sector i. -/
def Cnt (n i m : Int) : Prop := (i ≤ 0 ∧ m = 0) ∨ (0 ≤ i ∧ i ≤ n ∧ m = i) ∨ (i = n + 1 ∧ m = n)

set_option maxRecDepth 100000 in
set_option maxHeartbeats 4000000 in
theorem walk (g : G) (w : World)  :
    Calls Try.prog 5 #[.agg #[.int .i64 g.N, .int .i64 g.S, .int .i64 g.B, .int .i64 g.P, .int .i64 g.J, .int .i64 g.L, .int .i64 g.E, .int .i64 g.T]] w fun e w' => e = .returned (.bool true) ∧ Below w.heap.size w w' := by
  by_cases hm : mayG g = true
  · have hg := of_may hm
    have hsb := slots_bd hm
    have hdb := data_bd hm
    have ht := total_in hm
    have ht0 : 0 ≤ totalV g := by omega
    have ht1 : totalV g ≤ 4000 := by omega
    have HT := Lib.hid (beq_yes ht)
    have H := Lib.hid hm
    clear hm ht
    have HR := Lib.hid (RR.start g w)
    go_enter Try.func5, Try.ntmps5
    go_wp2_with fail
    refine (refMay_any g _).mono ?_
    rintro e w1 ⟨rfl, hb⟩
    rw [H.out]
    have HR1 := Lib.hid (HR.out.call hb)
    have hG := HR1.out.2.1
    unfold GAt at hG
    clear hb HR
    go_wp2_with fail
    refine (total_g g _).mono ?_
    rintro e w2 ⟨rfl, hb⟩
    have HR2 := Lib.hid (HR1.out.call hb)
    clear hb HR1 hG
    go_wp2_with fail
    go_loopw [4, 5] (fun v i wr => ∃ x m : Int, -1 ≤ x ∧ x ≤ totalV g + 1 ∧ i = .int .i64 x ∧ v = .int .i64 m ∧ Hid (Cnt (totalV g) x m) ∧ Hid (RR g w wr)) (fun _ i _ => (totalV g + 1 - intOf i).toNat)
    case atStart => exact ⟨-1, 0, by omega, by omega, rfl, rfl, .inl ⟨by omega, rfl⟩, HR2⟩
    case round =>
      clear HR2
      obtain ⟨x, m, hx0, hx1, rfl, rfl, HC, HRa⟩ := hrel
      have hG := HRa.out.2.1
      unfold GAt at hG
      by_cases c1 : x ≤ totalV g
      · by_cases c2 : 0 ≤ x ∧ x < totalV g
        · obtain ⟨k, a, b, hw, hk1, hk7, hb4, hs⟩ := what_back H.out c2.1 c2.2
          have HW := Lib.hid hw
          have HS := Lib.hid hs
          have hmx : m = x := by
            have := HC.out
            unfold Cnt at this
            omega
          subst hmx
          have t1 : (k == 0) = false := beq_no (by omega)
          have t2 : (m == totalV g) = false := beq_no (by omega)
          have HC2 : Hid (Cnt (totalV g) (m + 1) (m + 1)) := .inr (.inl ⟨by omega, by omega, rfl⟩)
          clear hw hs HC
          go_wp2_with fail
          refine (what_w g m k a b _ HW.out).mono ?_
          rintro e w3 ⟨rfl, hb⟩
          have HRb := Lib.hid (HRa.out.call hb)
          clear hb hG
          have hG := HRb.out.2.1
          unfold GAt at hG
          go_wp2_with fail
          refine (sector_any g k a b _ hk1 hk7 (by omega)).mono ?_
          rintro e w4 ⟨rfl, hb⟩
          rw [HS.out]
          have HRc := Lib.hid (HRb.out.call hb)
          clear hb hG
          go_wp2_with fail
          go_roundw
          case rel => exact ⟨m + 1, m + 1, by omega, by omega, rfl, rfl, HC2, HRc⟩
          case measure => simp [intOf]; omega
        · have HW := Lib.hid (what_out H.out (x := x) (by omega))
          rcases (show x = -1 ∨ x = totalV g by omega) with rfl | rfl
          · have HC2 : Hid (Cnt (totalV g) (-1 + 1) m) := by
              have := HC.out
              unfold Cnt at this
              exact .inl ⟨by omega, by omega⟩
            clear HC
            go_wp2_with fail
            refine (what_w g (-1) 0 0 0 _ HW.out).mono ?_
            rintro e w3 ⟨rfl, hb⟩
            have HRb := Lib.hid (HRa.out.call hb)
            clear hb hG
            go_wp2_with fail
            go_roundw
            case rel => exact ⟨_, m, by omega, by omega, rfl, rfl, HC2, HRb⟩
            case measure => simp [intOf]; omega
          · have HC2 : Hid (Cnt (totalV g) (totalV g + 1) m) := by
              have := HC.out
              unfold Cnt at this
              exact .inr (.inr ⟨rfl, by omega⟩)
            have t2 : (totalV g == totalV g) = true := beq_yes rfl
            clear HC
            go_wp2_with fail
            refine (what_w g (totalV g) 0 0 0 _ HW.out).mono ?_
            rintro e w3 ⟨rfl, hb⟩
            have HRb := Lib.hid (HRa.out.call hb)
            clear hb hG
            go_wp2_with fail
            go_roundw
            case rel => exact ⟨totalV g + 1, m, by omega, by omega, rfl, rfl, HC2, HRb⟩
            case measure => simp [intOf]; omega
      · have hmx : m = totalV g := by
          have := HC.out
          unfold Cnt at this
          omega
        subst hmx
        have t3 := HT.out
        clear HC
        go_wp2_with fail
        refine (wakes_any _).mono ?_
        rintro e w3 ⟨rfl, hb⟩
        go_wp2_with fail
        go_ret
        exact ⟨rfl, below_then HRa.out.1 hb⟩
  · have hm' : mayG g = false := by simpa using hm
    have H := Lib.hid hm'
    have HT := Lib.hid (total_nil hm')
    clear hm hm'
    have HR := Lib.hid (RR.start g w)
    go_enter Try.func5, Try.ntmps5
    go_wp2_with fail
    refine (refMay_any g _).mono ?_
    rintro e w1 ⟨rfl, hb⟩
    rw [H.out]
    have HR1 := Lib.hid (HR.out.call hb)
    have hG := HR1.out.2.1
    unfold GAt at hG
    clear hb HR
    go_wp2_with fail
    refine (total_g g _).mono ?_
    rintro e w2 ⟨rfl, hb⟩
    rw [HT.out]
    have HR2 := Lib.hid (HR1.out.call hb)
    clear hb HR1 hG
    go_wp2_with fail
    refine (wakes_any _).mono ?_
    rintro e w3 ⟨rfl, hb⟩
    go_wp2_with fail
    go_ret
    exact ⟨rfl, below_then HR2.out.1 hb⟩

/-! ### The row's step -/
set_option maxRecDepth 100000 in
theorem lifted (os : Os) (started : os.Started) (H : Type) (enc : TypeId × Value → H) :
    ReturnsInHanded {} Try.checked os 5 .any (Rows.geoOnceSpec.pre6 enc Try.prog Try.f5 Rows.geoOnceRow.domain false) (Rows.geoOnceSpec.post enc Try.prog Try.f5 false true false false) := by
  refine returnsInHanded_of_change (C := Try.checked) own started (by kernel_rfl) Try.func5
    (ChangeSpec.witness6 (enc := enc) (C := Try.checked) false ⟨#[], #[.agg #[.int .i64 0, .int .i64 0, .int .i64 0, .int .i64 0, .int .i64 0, .int .i64 0, .int .i64 0, .int .i64 0]], []⟩ 8 (by kernel_rfl) (by kernel_rfl) (by kernel_rfl) (by kernel_rfl)) ?_
  intro W base args ds gs before hval0 hW hcnd _
  have hval : ∀ (j : Nat) t v, Try.f5.params[j]? = some t → args[j]? = some v → Value.okWide Try.prog W .any base t v := hval0
  have hW' := hW
  obtain ⟨p, q, hA0, hV, rfl, hfz, hnd⟩ := hW
  have hA : DataW.TrodAll enc Try.prog W 0 (fun _ => true) true Try.f5.params.toList args.toList ds p := hA0
  rw [Try.params5] at hA hval
  obtain ⟨v0, vs0, d0, ds0, p0, q0, hargs, rfl, rfl, h0, r0⟩ := trodAll_cons hA
  obtain ⟨rfl, rfl, rfl⟩ := trodAll_nil r0
  obtain rfl : args = #[v0] := by cases args; simp_all
  obtain ⟨rfl, rfl⟩ := trodVars_none hV
  have k0 := h0
  have lt0 : ∀ x ∈ p0, x.block < W.heap.size := by obtain ⟨m, hm⟩ := k0; exact DataW.trod_lt m _ _ _ hm
  obtain ⟨g, rfl⟩ := open_geo (hval 0 23 v0 rfl rfl) h0
  clear hA0 hval0
  refine (walk g W ).mono fun e W' ⟨he, bel⟩ => ?_
  subst he
  exact ⟨_, rfl, _, _, _, [], _, [], hW', trodAll_mk1 (shut_bool Try.underlying4 _), (trodAll_cons_mk (Below.trod laidOut (by kernel_rfl) (of_decide_eq_true (by kernel_rfl)) k0 bel lt0) trodAll_mk0), rfl, bel.frame _, fun h => by cases h⟩

theorem over : Rows.geoOnceRow.holds Try.pinned (OpenSpec.ofChange Rows.geoOnceSpec) :=
  OpenClaim.holds_of_wide 5 Try.f5 rfl rfl rfl rfl rfl rfl rfl ⟨rfl, rfl, rfl, rfl, rfl⟩ rfl rfl rfl rfl rfl (by kernel_rfl) Try.func5 (by kernel_rfl)
    (of_decide_eq_true (by kernel_rfl)) (by unfold Func.isWrapper; first | (rw [if_pos (by decide +kernel)]; kernel_rfl) | (rw [if_neg (by decide +kernel)]; exact ⟨rfl, rfl⟩))
    (fun os started H enc _ => lifted os started H enc)

/-- The statement. -/
theorem proved : Rows.GeoOnceSaid := over
#print axioms proved
end Go.Proofs.Ytcgifdmjmkfkpaa.geoOnce
