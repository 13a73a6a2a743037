/-
  The statement GeoTells: whether any geometry may be, how much it has, and where everything stands are what the document's own answer says: for every geometry and numbers the call answers true and leaves its arguments as they were. No conditions.
-/
import Derived.Test.YtcgifdmjmkfkpaaGeoHeld
import Derived.Deep.DeepCutAuto
import Derived.Deep.RegionHeld3
import Derived.Deep.DrawnRows
import Derived.ProofKit
import Derived.OpenShut
import Derived.ShutString
import Derived.ChangeOld
import Derived.Below
namespace Go.Proofs.Ytcgifdmjmkfkpaa.geoTells
open Go.ChangeShapes Go.WideShapes Go.ChangeAt Go.RowKit
open Go.ChangeMaps (open_string shut_string)
set_option linter.unusedVariables false
set_option linter.unusedSimpArgs false

theorem own : ownKnob Try.prog.godebug = none := by kernel_rfl
theorem laidOut : laidOutB Try.prog = true := by kernel_rfl

set_option maxRecDepth 100000 in
set_option maxHeartbeats 4000000 in
theorem walk (g : G) (a1 : Int) (a2 : Int) (w : World) (w1 : (Lit.int .i64 a1).wf = true) (w2 : (Lit.int .i64 a2).wf = true) :
    Calls Try.prog 3 #[.agg #[.int .i64 g.N, .int .i64 g.S, .int .i64 g.B, .int .i64 g.P, .int .i64 g.J, .int .i64 g.L, .int .i64 g.E, .int .i64 g.T], .int .i64 a1, .int .i64 a2] w fun e w' => e = .returned (.bool true) ∧ Below w.heap.size w w' := by
  have bda := bd_i64 w1
  have bdb := bd_i64 w2
  obtain ⟨a0', a1'⟩ := bda
  obtain ⟨b0', b1'⟩ := bdb
  clear w1 w2
  have hH := held_of (RR.start g w).drew
  go_enter Try.func3, Try.ntmps3
  go_upto_region 1 with fail
  go_region_held3 (fun W => W.cell? ⟨w.heap.size, 0, none⟩ = some (.int .i64 g.N) ∧ W.cell? ⟨w.heap.size, 1, none⟩ = some (.int .i64 g.S) ∧ W.cell? ⟨w.heap.size, 2, none⟩ = some (.int .i64 g.B) ∧ W.cell? ⟨w.heap.size, 3, none⟩ = some (.int .i64 g.P) ∧ W.cell? ⟨w.heap.size, 4, none⟩ = some (.int .i64 g.J) ∧ W.cell? ⟨w.heap.size, 5, none⟩ = some (.int .i64 g.L) ∧ W.cell? ⟨w.heap.size, 6, none⟩ = some (.int .i64 g.E) ∧ W.cell? ⟨w.heap.size, 7, none⟩ = some (.int .i64 g.T) ∧ RR g w W) (assumption)
      (first
        | (go_at_call 7; (with_reducible refine (hMay g w _ ?_).mono ?_); assumption; rintro e W1 ⟨rfl, hN⟩)
        | (go_at_call 8; (with_reducible refine (hMayR g w _ ?_).mono ?_); assumption; rintro e W1 ⟨rfl, hN⟩)
        | (go_at_call 9; (with_reducible refine (hTotal g w _ ?_).mono ?_); assumption; rintro e W1 ⟨rfl, hN⟩)
        | (go_at_call 10; (with_reducible refine (hTotalR g w _ ?_).mono ?_); assumption; rintro e W1 ⟨rfl, hN⟩)
        | (go_at_call 11; (with_reducible refine (hRest g w _ ?_).mono ?_); assumption; rintro e W1 ⟨rfl, hN⟩)
        | (go_at_call 12; (with_reducible refine (hRestR g w _ ?_).mono ?_); assumption; rintro e W1 ⟨rfl, hN⟩))
  have HN := Lib.hid (rr_of hN)
  clear hN
  go_upto_region 3 with fail
  have hH := held_of (RR.drew HN.out)
  clear HN
  go_region_held3 (fun W => W.cell? ⟨w.heap.size, 0, none⟩ = some (.int .i64 g.N) ∧ W.cell? ⟨w.heap.size, 1, none⟩ = some (.int .i64 g.S) ∧ W.cell? ⟨w.heap.size, 2, none⟩ = some (.int .i64 g.B) ∧ W.cell? ⟨w.heap.size, 3, none⟩ = some (.int .i64 g.P) ∧ W.cell? ⟨w.heap.size, 4, none⟩ = some (.int .i64 g.J) ∧ W.cell? ⟨w.heap.size, 5, none⟩ = some (.int .i64 g.L) ∧ W.cell? ⟨w.heap.size, 6, none⟩ = some (.int .i64 g.E) ∧ W.cell? ⟨w.heap.size, 7, none⟩ = some (.int .i64 g.T) ∧ RR g w W) (assumption)
      (first
        | (go_at_call 13; (with_reducible refine (hLease g w a1 _ ?_).mono ?_); assumption; rintro e W1 ⟨rfl, hN⟩)
        | (go_at_call 14; (with_reducible refine (hLeaseR g w a1 _ a0' a1' ?_).mono ?_); assumption; rintro e W1 ⟨rfl, hN⟩)
        | (go_at_call 15; (with_reducible refine (hPaxos g w a1 _ ?_).mono ?_); assumption; rintro e W1 ⟨rfl, hN⟩)
        | (go_at_call 16; (with_reducible refine (hPaxosR g w a1 _ a0' a1' ?_).mono ?_); assumption; rintro e W1 ⟨rfl, hN⟩)
        | (go_at_call 17; (with_reducible refine (hLog g w a1 _ ?_).mono ?_); assumption; rintro e W1 ⟨rfl, hN⟩)
        | (go_at_call 18; (with_reducible refine (hLogR g w a1 _ a0' a1' ?_).mono ?_); assumption; rintro e W1 ⟨rfl, hN⟩)
        | (go_at_call 19; (with_reducible refine (hHead g w a1 _ ?_).mono ?_); assumption; rintro e W1 ⟨rfl, hN⟩)
        | (go_at_call 20; (with_reducible refine (hHeadR g w a1 _ a0' a1' ?_).mono ?_); assumption; rintro e W1 ⟨rfl, hN⟩)
        | (go_at_call 21; (with_reducible refine (hJournal g w a1 a2 _ b1' ?_).mono ?_); assumption; rintro e W1 ⟨rfl, hN⟩)
        | (go_at_call 22; (with_reducible refine (hJournalR g w a1 a2 _ a0' a1' b0' b1' ?_).mono ?_); assumption; rintro e W1 ⟨rfl, hN⟩)
        | (go_at_call 23; (with_reducible refine (hData g w a1 a2 _ ?_).mono ?_); assumption; rintro e W1 ⟨rfl, hN⟩)
        | (go_at_call 24; (with_reducible refine (hDataR g w a1 a2 _ a0' a1' b0' b1' ?_).mono ?_); assumption; rintro e W1 ⟨rfl, hN⟩)
        | (go_at_call 25; (with_reducible refine (hWakes g w _ ?_).mono ?_); assumption; rintro e W1 ⟨rfl, hN⟩))
  go_wp2_with fail
  go_ret
  exact ⟨rfl, (rr_of hN).1⟩

/-! ### The row's step -/
set_option maxRecDepth 100000 in
theorem lifted (os : Os) (started : os.Started) (H : Type) (enc : TypeId × Value → H) :
    ReturnsInHanded {} Try.checked os 3 .any (Rows.geoTellsSpec.pre6 enc Try.prog Try.f3 Rows.geoTellsRow.domain false) (Rows.geoTellsSpec.post enc Try.prog Try.f3 false true false false) := by
  refine returnsInHanded_of_change (C := Try.checked) own started (by kernel_rfl) Try.func3
    (ChangeSpec.witness6 (enc := enc) (C := Try.checked) false ⟨#[], #[.agg #[.int .i64 0, .int .i64 0, .int .i64 0, .int .i64 0, .int .i64 0, .int .i64 0, .int .i64 0, .int .i64 0], .int .i64 0, .int .i64 0], []⟩ 8 (by kernel_rfl) (by kernel_rfl) (by kernel_rfl) (by kernel_rfl)) ?_
  intro W base args ds gs before hval0 hW hcnd _
  have hval : ∀ (j : Nat) t v, Try.f3.params[j]? = some t → args[j]? = some v → Value.okWide Try.prog W .any base t v := hval0
  have hW' := hW
  obtain ⟨p, q, hA0, hV, rfl, hfz, hnd⟩ := hW
  have hA : DataW.TrodAll enc Try.prog W 0 (fun _ => true) true Try.f3.params.toList args.toList ds p := hA0
  rw [Try.params3] at hA hval
  obtain ⟨v0, vs0, d0, ds0, p0, q0, hargs, rfl, rfl, h0, r0⟩ := trodAll_cons hA
  obtain ⟨v1, vs1, d1, ds1, p1, q1, rfl, rfl, rfl, h1, r1⟩ := trodAll_cons r0
  obtain ⟨v2, vs2, d2, ds2, p2, q2, rfl, rfl, rfl, h2, r2⟩ := trodAll_cons r1
  obtain ⟨rfl, rfl, rfl⟩ := trodAll_nil r2
  obtain rfl : args = #[v0, v1, v2] := by cases args; simp_all
  obtain ⟨rfl, rfl⟩ := trodVars_none hV
  have k0 := h0
  have lt0 : ∀ x ∈ p0, x.block < W.heap.size := by obtain ⟨m, hm⟩ := k0; exact DataW.trod_lt m _ _ _ hm
  obtain ⟨g, rfl⟩ := open_geo (hval 0 23 v0 rfl rfl) h0
  obtain ⟨a1, rfl, rfl, rfl, w1⟩ := open_int Try.underlying3 (hval 1 3 v1 rfl rfl) h1
  obtain ⟨a2, rfl, rfl, rfl, w2⟩ := open_int Try.underlying3 (hval 2 3 v2 rfl rfl) h2
  clear hA0 hval0
  refine (walk g a1 a2 W w1 w2).mono fun e W' ⟨he, bel⟩ => ?_
  subst he
  exact ⟨_, rfl, _, _, _, [], _, [], hW', trodAll_mk1 (shut_bool Try.underlying4 _), (trodAll_cons_mk (Below.trod laidOut (by kernel_rfl) (of_decide_eq_true (by kernel_rfl)) k0 bel lt0) (trodAll_cons_mk (shut_int Try.underlying3 w1) (trodAll_cons_mk (shut_int Try.underlying3 w2) trodAll_mk0))), rfl, bel.frame _, fun h => by cases h⟩

theorem over : Rows.geoTellsRow.holds Try.pinned (OpenSpec.ofChange Rows.geoTellsSpec) :=
  OpenClaim.holds_of_wide 3 Try.f3 rfl rfl rfl rfl rfl rfl rfl ⟨rfl, rfl, rfl, rfl, rfl⟩ rfl rfl rfl rfl rfl (by kernel_rfl) Try.func3 (by kernel_rfl)
    (of_decide_eq_true (by kernel_rfl)) (by unfold Func.isWrapper; first | (rw [if_pos (by decide +kernel)]; kernel_rfl) | (rw [if_neg (by decide +kernel)]; exact ⟨rfl, rfl⟩))
    (fun os started H enc _ => lifted os started H enc)

/-- The statement. -/
theorem proved : Rows.GeoTellsSaid := over
#print axioms proved
end Go.Proofs.Ytcgifdmjmkfkpaa.geoTells
