/-
  The statement GeoRound: a journal's places go round, those side by side are unlike as long as they are fewer than it has; what is none has no sector: for every geometry, slot and places the call answers true and leaves its arguments as they were. No conditions.
-/
import Derived.Test.YtcgifdmjmkfkpaaGeoHeld
import Derived.Deep.DeepCutAuto
import Derived.Deep.RegionHeld3
import Derived.Deep.DrawnRows
import Derived.ProofKit
import Derived.OpenShut
import Derived.ShutString
import Derived.ChangeOld
import Derived.Below
namespace Go.Proofs.Ytcgifdmjmkfkpaa.geoRound
open Go.ChangeShapes Go.WideShapes Go.ChangeAt Go.RowKit
open Go.ChangeMaps (open_string shut_string)
set_option linter.unusedVariables false
set_option linter.unusedSimpArgs false

theorem own : ownKnob Try.prog.godebug = none := by kernel_rfl
theorem laidOut : laidOutB Try.prog = true := by kernel_rfl

/-- What the journal's places are, in numbers. -/
theorem round_facts {g : G} (h : mayG g = true) {s a b : Int} (h0 : 0 ≤ s) (h1 : s < g.S) (ha : 0 ≤ a) (hb : 0 ≤ b) :
    ∃ (X Y D : Int) (P : Bool), journalV g s a = X ∧ journalV g s b = Y ∧ headV g s = D ∧ journalV g s (a + g.J) = X ∧ journalV g s (-1 - a) = -1 ∧ journalV g (s + g.S) a = -1 ∧ dataV g (g.B + a) 0 = -1 ∧ leaseV g (-1) = -1 ∧
      D < X ∧ X ≤ D + g.J ∧ 0 ≤ D ∧ D ≤ 4000 ∧ (X == Y) = P ∧ ((a - b).tmod g.J == 0) = P := by
  have hg := of_may h
  have hbd := head_bd h h0 h1
  have ea := journal_in h h0 h1 ha
  have eb := journal_in h h0 h1 hb
  have ec := journal_in h h0 h1 (b := a + g.J) (by omega)
  have ed := head_in h h0 h1
  rw [Int.add_emod_right] at ec
  have q0 : 0 ≤ a % g.J := Int.emod_nonneg _ (by omega)
  have q1 : a % g.J < g.J := Int.emod_lt_of_pos _ (by omega)
  refine ⟨_, _, _, _, rfl, rfl, rfl, ec.trans ea.symm, journal_out h (by omega), journal_out h (by omega), data_out h (by omega), lease_out h (by omega), by omega, by omega, by omega, by omega, rfl, ?_⟩
  rw [ea, eb, Bool.eq_iff_iff, beq_iff_eq, beq_iff_eq]
  have hdv : (a - b).tmod g.J = 0 ↔ a % g.J = b % g.J := by
    rw [Int.emod_eq_emod_iff_emod_sub_eq_zero]
    exact ⟨fun hh => Int.emod_eq_zero_of_dvd (Int.dvd_of_tmod_eq_zero hh), fun hh => Int.tmod_eq_zero_of_dvd (Int.dvd_of_emod_eq_zero hh)⟩
  rw [hdv]
  omega
theorem tmod_bd {d e : Int} (h0 : 0 < e) (h1 : e ≤ 64) : -64 ≤ d.tmod e ∧ d.tmod e ≤ 64 := by
  have h2 := Int.tmod_lt_of_pos d h0
  have h3 := Int.lt_tmod_of_pos d h0
  omega

set_option maxRecDepth 100000 in
set_option maxHeartbeats 4000000 in
theorem walk (g : G) (a1 : Int) (a2 : Int) (a3 : Int) (w : World) (w1 : (Lit.int .i64 a1).wf = true) (w2 : (Lit.int .i64 a2).wf = true) (w3 : (Lit.int .i64 a3).wf = true) :
    Calls Try.prog 6 #[.agg #[.int .i64 g.N, .int .i64 g.S, .int .i64 g.B, .int .i64 g.P, .int .i64 g.J, .int .i64 g.L, .int .i64 g.E, .int .i64 g.T], .int .i64 a1, .int .i64 a2, .int .i64 a3] w fun e w' => e = .returned (.bool true) ∧ Below w.heap.size w w' := by
  have bd1 := bd_i64 w1
  have bd2 := bd_i64 w2
  have bd3 := bd_i64 w3
  clear w1 w2 w3
  by_cases hm : mayG g = true
  · by_cases hok : 0 ≤ a1 ∧ a1 < g.S ∧ 0 ≤ a2 ∧ 0 ≤ a3 ∧ a2 ≤ 1099511627776 ∧ a3 ≤ 1099511627776
    · obtain ⟨X, Y, D, P, ea, eb, ed, ec, e1, e2, e3, e4, hx0, hx1, hd0, hd1, hp1, hp2⟩ := round_facts hm hok.1 hok.2.1 hok.2.2.1 hok.2.2.2.1
      have hg := of_may hm
      have tb := tmod_bd (d := a2 - a3) (e := g.J) (by omega) (by omega)
      have k0 : IntKind.i64.wrap (a2 + g.J) = a2 + g.J := IntWalk.i64_in _ (by omega)
      have k1 : IntKind.i64.wrap (a2 - a3) = a2 - a3 := IntWalk.i64_in _ (by omega)
      have k2 : IntKind.i64.wrap ((a2 - a3).tmod g.J) = (a2 - a3).tmod g.J := IntWalk.i64_in _ (by omega)
      have k3 : IntKind.i64.wrap (D + g.J) = D + g.J := IntWalk.i64_in _ (by omega)
      have k4 : IntKind.i64.wrap (-1 - a2) = -1 - a2 := IntWalk.i64_in _ (by omega)
      have k5 : IntKind.i64.wrap (a1 + g.S) = a1 + g.S := IntWalk.i64_in _ (by omega)
      have k6 : IntKind.i64.wrap (g.B + a2) = g.B + a2 := IntWalk.i64_in _ (by omega)
      have k7 : (g.J == 0) = false := beq_no (by omega)
      have k10 : ¬ g.J = 0 := by omega
      have k8 : decide (D < X) = true := decide_eq_true hx0
      have k9 : decide (X ≤ D + g.J) = true := decide_eq_true hx1
      have KK := Lib.hid (And.intro k0 (And.intro k1 (And.intro k2 (And.intro k3 (And.intro k4 (And.intro k5 (And.intro k6 (And.intro k7 (And.intro k8 (And.intro k9 (And.intro k10 (And.intro hp1 hp2))))))))))))
      have EA := Lib.hid ea
      have EB := Lib.hid eb
      have EC := Lib.hid ec
      have ED := Lib.hid ed
      have E1 := Lib.hid e1
      have E2 := Lib.hid e2
      have E3 := Lib.hid e3
      have E4 := Lib.hid e4
      have H := Lib.hid hm
      have hJ0 : 3 ≤ g.J := by omega
      have hJ1 : g.J ≤ 64 := by omega
      have hS1 : g.S ≤ 16 := by omega
      have hB1 : g.B ≤ 64 := by omega
      have hB0 : 0 ≤ g.B := by omega
      clear ea eb ec ed e1 e2 e3 e4 hm hg tb k0 k1 k2 k3 k4 k5 k6 k7 k8 k9 k10 hp1 hp2 hx0 hx1
      have HR := Lib.hid (RR.start g w)
      go_enter Try.func6, Try.ntmps6
      go_wp2_with fail
      refine (refMay_any g _).mono ?_
      rintro e w1 ⟨rfl, hb⟩
      rw [H.out]
      have HR1 := Lib.hid (HR.out.call hb)
      have hG := HR1.out.2.1
      unfold GAt at hG
      clear hb HR
      go_upto_region 3 with fail
      clear hG
      have hH := held_of (RR.drew HR1.out)
      clear HR1
      have hk := KK.out
      clear KK
      go_region_held3 (fun W => W.cell? ⟨w.heap.size, 0, none⟩ = some (.int .i64 g.N) ∧ W.cell? ⟨w.heap.size, 1, none⟩ = some (.int .i64 g.S) ∧ W.cell? ⟨w.heap.size, 2, none⟩ = some (.int .i64 g.B) ∧ W.cell? ⟨w.heap.size, 3, none⟩ = some (.int .i64 g.P) ∧ W.cell? ⟨w.heap.size, 4, none⟩ = some (.int .i64 g.J) ∧ W.cell? ⟨w.heap.size, 5, none⟩ = some (.int .i64 g.L) ∧ W.cell? ⟨w.heap.size, 6, none⟩ = some (.int .i64 g.E) ∧ W.cell? ⟨w.heap.size, 7, none⟩ = some (.int .i64 g.T) ∧ RR g w W) (assumption)
      (first
        | (go_at_call 21; (with_reducible refine (hJournal g w _ _ _ (by omega) ?_).mono ?_); assumption; rintro e W1 ⟨rfl, hN⟩; (first | rw [EC.out] | rw [EA.out] | rw [EB.out] | rw [E1.out] | rw [E2.out])))
      have HN := Lib.hid (rr_of hN)
      clear hN
      go_upto_region 4 with fail
      have hH := held_of (RR.drew HN.out)
      clear HN
      simp only [List.append_eq, List.cons_append, List.nil_append]
      go_region_held3 (fun W => W.cell? ⟨w.heap.size, 0, none⟩ = some (.int .i64 g.N) ∧ W.cell? ⟨w.heap.size, 1, none⟩ = some (.int .i64 g.S) ∧ W.cell? ⟨w.heap.size, 2, none⟩ = some (.int .i64 g.B) ∧ W.cell? ⟨w.heap.size, 3, none⟩ = some (.int .i64 g.P) ∧ W.cell? ⟨w.heap.size, 4, none⟩ = some (.int .i64 g.J) ∧ W.cell? ⟨w.heap.size, 5, none⟩ = some (.int .i64 g.L) ∧ W.cell? ⟨w.heap.size, 6, none⟩ = some (.int .i64 g.E) ∧ W.cell? ⟨w.heap.size, 7, none⟩ = some (.int .i64 g.T) ∧ RR g w W) (assumption)
      (first
        | (go_at_call 21; (with_reducible refine (hJournal g w _ _ _ (by omega) ?_).mono ?_); assumption; rintro e W1 ⟨rfl, hN⟩; (first | rw [EC.out] | rw [EA.out] | rw [EB.out] | rw [E1.out] | rw [E2.out]))
        | (go_at_call 19; (with_reducible refine (hHead g w a1 _ ?_).mono ?_); assumption; rintro e W1 ⟨rfl, hN⟩; (first | rw [ED.out]))
        | (go_at_call 23; (with_reducible refine (hData g w _ _ _ ?_).mono ?_); assumption; rintro e W1 ⟨rfl, hN⟩; (first | rw [E3.out]))
        | (go_at_call 13; (with_reducible refine (hLease g w _ _ ?_).mono ?_); assumption; rintro e W1 ⟨rfl, hN⟩; (first | rw [E4.out]))
        | (go_at_call 25; (with_reducible refine (hWakes g w _ ?_).mono ?_); assumption; rintro e W1 ⟨rfl, hN⟩))
      go_wp2_with fail
      go_ret
      exact ⟨rfl, (rr_of hN).1⟩
    · have hc : a1 < 0 ∨ (0 ≤ a1 ∧ g.S ≤ a1) ∨ (0 ≤ a1 ∧ a1 < g.S ∧ a2 < 0) ∨ (0 ≤ a1 ∧ a1 < g.S ∧ 0 ≤ a2 ∧ a3 < 0) ∨ (0 ≤ a1 ∧ a1 < g.S ∧ 0 ≤ a2 ∧ 0 ≤ a3 ∧ 1099511627776 < a2) ∨ (0 ≤ a1 ∧ a1 < g.S ∧ 0 ≤ a2 ∧ 0 ≤ a3 ∧ a2 ≤ 1099511627776 ∧ 1099511627776 < a3) := by omega
      have H := Lib.hid hm
      clear hm hok
      rcases hc with hc | hc | hc | hc | hc | hc
      all_goals
        have HR := Lib.hid (RR.start g w)
        go_enter Try.func6, Try.ntmps6
        go_wp2_with fail
        refine (refMay_any g _).mono ?_
        rintro e w1 ⟨rfl, hb⟩
        rw [H.out]
        have HR1 := Lib.hid (HR.out.call hb)
        have hG := HR1.out.2.1
        unfold GAt at hG
        clear hb HR
        go_wp2_with fail
        refine (wakes_any _).mono ?_
        rintro e w2 ⟨rfl, hb⟩
        go_wp2_with fail
        go_ret
        exact ⟨rfl, below_then HR1.out.1 hb⟩
  · have hm' : mayG g = false := by simpa using hm
    have H := Lib.hid hm'
    clear hm hm'
    have HR := Lib.hid (RR.start g w)
    go_enter Try.func6, Try.ntmps6
    go_wp2_with fail
    refine (refMay_any g _).mono ?_
    rintro e w1 ⟨rfl, hb⟩
    rw [H.out]
    have HR1 := Lib.hid (HR.out.call hb)
    have hG := HR1.out.2.1
    unfold GAt at hG
    clear hb HR
    go_wp2_with fail
    refine (wakes_any _).mono ?_
    rintro e w2 ⟨rfl, hb⟩
    go_wp2_with fail
    go_ret
    exact ⟨rfl, below_then HR1.out.1 hb⟩

/-! ### The row's step -/
set_option maxRecDepth 100000 in
theorem lifted (os : Os) (started : os.Started) (H : Type) (enc : TypeId × Value → H) :
    ReturnsInHanded {} Try.checked os 6 .any (Rows.geoRoundSpec.pre6 enc Try.prog Try.f6 Rows.geoRoundRow.domain false) (Rows.geoRoundSpec.post enc Try.prog Try.f6 false true false false) := by
  refine returnsInHanded_of_change (C := Try.checked) own started (by kernel_rfl) Try.func6
    (ChangeSpec.witness6 (enc := enc) (C := Try.checked) false ⟨#[], #[.agg #[.int .i64 0, .int .i64 0, .int .i64 0, .int .i64 0, .int .i64 0, .int .i64 0, .int .i64 0, .int .i64 0], .int .i64 0, .int .i64 0, .int .i64 0], []⟩ 8 (by kernel_rfl) (by kernel_rfl) (by kernel_rfl) (by kernel_rfl)) ?_
  intro W base args ds gs before hval0 hW hcnd _
  have hval : ∀ (j : Nat) t v, Try.f6.params[j]? = some t → args[j]? = some v → Value.okWide Try.prog W .any base t v := hval0
  have hW' := hW
  obtain ⟨p, q, hA0, hV, rfl, hfz, hnd⟩ := hW
  have hA : DataW.TrodAll enc Try.prog W 0 (fun _ => true) true Try.f6.params.toList args.toList ds p := hA0
  rw [Try.params6] at hA hval
  obtain ⟨v0, vs0, d0, ds0, p0, q0, hargs, rfl, rfl, h0, r0⟩ := trodAll_cons hA
  obtain ⟨v1, vs1, d1, ds1, p1, q1, rfl, rfl, rfl, h1, r1⟩ := trodAll_cons r0
  obtain ⟨v2, vs2, d2, ds2, p2, q2, rfl, rfl, rfl, h2, r2⟩ := trodAll_cons r1
  obtain ⟨v3, vs3, d3, ds3, p3, q3, rfl, rfl, rfl, h3, r3⟩ := trodAll_cons r2
  obtain ⟨rfl, rfl, rfl⟩ := trodAll_nil r3
  obtain rfl : args = #[v0, v1, v2, v3] := by cases args; simp_all
  obtain ⟨rfl, rfl⟩ := trodVars_none hV
  have k0 := h0
  have lt0 : ∀ x ∈ p0, x.block < W.heap.size := by obtain ⟨m, hm⟩ := k0; exact DataW.trod_lt m _ _ _ hm
  obtain ⟨g, rfl⟩ := open_geo (hval 0 23 v0 rfl rfl) h0
  obtain ⟨a1, rfl, rfl, rfl, w1⟩ := open_int Try.underlying3 (hval 1 3 v1 rfl rfl) h1
  obtain ⟨a2, rfl, rfl, rfl, w2⟩ := open_int Try.underlying3 (hval 2 3 v2 rfl rfl) h2
  obtain ⟨a3, rfl, rfl, rfl, w3⟩ := open_int Try.underlying3 (hval 3 3 v3 rfl rfl) h3
  clear hA0 hval0
  refine (walk g a1 a2 a3 W w1 w2 w3).mono fun e W' ⟨he, bel⟩ => ?_
  subst he
  exact ⟨_, rfl, _, _, _, [], _, [], hW', trodAll_mk1 (shut_bool Try.underlying4 _), (trodAll_cons_mk (Below.trod laidOut (by kernel_rfl) (of_decide_eq_true (by kernel_rfl)) k0 bel lt0) (trodAll_cons_mk (shut_int Try.underlying3 w1) (trodAll_cons_mk (shut_int Try.underlying3 w2) (trodAll_cons_mk (shut_int Try.underlying3 w3) trodAll_mk0)))), rfl, bel.frame _, fun h => by cases h⟩

theorem over : Rows.geoRoundRow.holds Try.pinned (OpenSpec.ofChange Rows.geoRoundSpec) :=
  OpenClaim.holds_of_wide 6 Try.f6 rfl rfl rfl rfl rfl rfl rfl ⟨rfl, rfl, rfl, rfl, rfl⟩ rfl rfl rfl rfl rfl (by kernel_rfl) Try.func6 (by kernel_rfl)
    (of_decide_eq_true (by kernel_rfl)) (by unfold Func.isWrapper; first | (rw [if_pos (by decide +kernel)]; kernel_rfl) | (rw [if_neg (by decide +kernel)]; exact ⟨rfl, rfl⟩))
    (fun os started H enc _ => lifted os started H enc)

/-- The statement. -/
theorem proved : Rows.GeoRoundSaid := over
#print axioms proved
end Go.Proofs.Ytcgifdmjmkfkpaa.geoRound
