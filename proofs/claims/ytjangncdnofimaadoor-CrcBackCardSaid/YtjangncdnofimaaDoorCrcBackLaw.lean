/-
  The statement CrcBack: what was moved is moved back, moving goes on, what is alike is moved alike: for every number and all lengths the call answers true. No conditions; the listed table is tied to the program's text.
-/
import Derived.Test.YtjangncdnofimaaDoorCrcLaid
import Derived.ShutString
import Derived.ChangeOld
namespace Go.Proofs.YtjangncdnofimaaDoor.crcBack
open Go.ChangeShapes Go.WideShapes Go.ChangeAt Go.RowKit
open Go.ChangeMaps (open_string shut_string)
set_option linter.unusedVariables false
set_option linter.unusedSimpArgs false

theorem r32_moved (d : Bool) (x n : Int) : r32 ((movedBy d x n : Nat) : Int) = movedBy d x n := r32_nat (movedBy_lt d x n)
theorem back_moved (x n : Int) : movedBy true ((movedBy false x n : Nat) : Int) n = r32 x := by
  show mv true _ (r32 _) = _
  rw [r32_moved]
  exact bkN_stN _ (r32_lt x)
theorem moved_back (x n : Int) : movedBy false ((movedBy true x n : Nat) : Int) n = r32 x := by
  show mv false _ (r32 _) = _
  rw [r32_moved]
  exact stN_bkN _ (r32_lt x)
theorem moved_on (x n m : Int) (hn : 0 ≤ n) (hm : 0 ≤ m) : movedBy false ((movedBy false x n : Nat) : Int) m = movedBy false x (n + m) := by
  show mv false _ (r32 _) = mv false _ _
  rw [r32_moved, show 8 * (n + m).toNat = 8 * n.toNat + 8 * m.toNat by omega, mv_add]
  rfl
theorem moved_less (x n : Int) (hn : 0 ≤ n) : movedBy false x (-n) = r32 x := by
  show mv false _ _ = _
  rw [show (-n).toNat = 0 by omega]
  rfl

/-- '((x % m) + m) % m' is from 0 to m - 1. -/
theorem rest_of (x m : Int) (hm : 0 < m) (h2 : m ≤ 1000000) : ∃ n, 0 ≤ n ∧ n < m ∧ (wrap64 (x.tmod m + m)).tmod m = n := by
  have h1 := Int.lt_tmod_of_pos x hm
  have h3 := Int.tmod_lt_of_pos x hm
  rw [IntWalk.wrap64_in _ ⟨by omega, by omega⟩]
  exact ⟨_, Int.tmod_nonneg _ (by omega), Int.tmod_lt_of_pos _ hm, rfl⟩

set_option maxRecDepth 100000 in
set_option maxHeartbeats 1000000 in
theorem walk (a0 : Int) (a1 : Int) (a2 : Int) (w0 : (Lit.int .i64 a0).wf = true) (w1 : (Lit.int .i64 a1).wf = true) (w2 : (Lit.int .i64 a2).wf = true) (w : World) (ht : TabOk w) :
    Calls Tryd.prog 5 #[.int .i64 a0, .int .i64 a1, .int .i64 a2] w fun e w' => e = .returned (.bool true) ∧ Below w.heap.size w w' := by
  have bd0 := bd_i64 w0
  have bd1 := bd_i64 w1
  have bd2 := bd_i64 w2
  clear w0 w1 w2
  have hr := i64_rest a0
  obtain ⟨n, hn0, hn1, en⟩ := rest_of a1 300 (by omega) (by omega)
  obtain ⟨m, hm0, hm1, em⟩ := rest_of a2 300 (by omega) (by omega)
  go_enter Tryd.func5, Tryd.ntmps5
  go_wp2_with fail
  refine (Move_any a0 n w (by omega)).mono ?_
  rintro e w1 ⟨rfl, hb1⟩
  have hy := movedBy_lt false a0 n
  go_wp2_with fail
  refine (Back_any _ n _ (by omega)).mono ?_
  rintro e w2 ⟨rfl, hb2⟩
  rw [back_moved]
  have hb02 := hb1.trans (hb2.mono hb1.size)
  clear hb1 hb2
  go_wp2_with fail
  refine (Move_any _ m _ (by omega)).mono ?_
  rintro e w3 ⟨rfl, hb3⟩
  rw [moved_on a0 n m hn0 hm0]
  have hb03 := hb02.trans (hb3.mono hb02.size)
  clear hb02 hb3
  go_wp2_with fail
  refine (Move_any _ (n + m) _ (by omega)).mono ?_
  rintro e w4 ⟨rfl, hb4⟩
  have hb04 := hb03.trans (hb4.mono hb03.size)
  clear hb03 hb4
  go_wp2_with fail
  refine (Back_any a0 m _ (by omega)).mono ?_
  rintro e w5 ⟨rfl, hb5⟩
  have hz := movedBy_lt true a0 m
  have hb05 := hb04.trans (hb5.mono hb04.size)
  clear hb04 hb5
  go_wp2_with fail
  refine (Move_any _ m _ (by omega)).mono ?_
  rintro e w6 ⟨rfl, hb6⟩
  rw [moved_back]
  have hb06 := hb05.trans (hb6.mono hb05.size)
  clear hb05 hb6
  go_wp2_with fail
  refine (Move_any a0 (-n) _ (by omega)).mono ?_
  rintro e w7 ⟨rfl, hb7⟩
  rw [moved_less a0 n hn0]
  have hb07 := hb06.trans (hb7.mono hb06.size)
  have ht7 := ht.below hb07
  clear hb06 hb7
  go_wp2_with fail
  refine (wakes_any _ ht7).mono ?_
  rintro e w8 ⟨rfl, hb8⟩
  go_wp2_with fail
  go_ret
  exact ⟨rfl, hb07.trans (hb8.mono hb07.size)⟩

/-! ### THE ROW's STEP: WRITTEN OUT: LEAVE IT -/
set_option maxRecDepth 100000 in
theorem lifted (os : Os) (started : os.Started) (H : Type) (enc : TypeId × Value → H) :
    ReturnsInHanded {} Tryd.checked os 5 .any (fun w args => (Rows.crcBackSpec.pre enc Tryd.prog Tryd.f5 [] false w args ∧ laidMetH Tryd.prog laidL w) ∧ sizedMet enc Tryd.prog Tryd.f5 (OpenSpec.ofChange Rows.crcBackSpec) false w args) (Rows.crcBackSpec.post enc Tryd.prog Tryd.f5 false true false false) := by
  refine returnsInHanded_of_change_and (C := Tryd.checked) (X := fun w _ => laidMetH Tryd.prog laidL w) (fun _ _ _ hh h => h.of_heap hh) own started (by kernel_rfl) Tryd.func5
    (ChangeSpec.witness_shaped (enc := enc) (C := Tryd.checked) (os := os) (X := fun w _ => laidMetH Tryd.prog laidL w) false (World.doorLaid Tryd.prog 14 os) #[.int .i64 0, .int .i64 0, .int .i64 0] 8 rfl (World.shaped_of_RefB (by kernel_rfl) (by kernel_rfl)) (by kernel_rfl) (by kernel_rfl) (by kernel_rfl) (door_met os _)) ?_
  intro W base args ds gs before hval0 hW _ _ hL _
  have hval : ∀ (j : Nat) t v, Tryd.f5.params[j]? = some t → args[j]? = some v → Value.okWide Tryd.prog W .any base t v := hval0
  have hW' := hW
  obtain ⟨p, q, hA0, hV, rfl, hfz, hnd⟩ := hW
  have hA : DataW.TrodAll enc Tryd.prog W 0 (fun _ => true) true Tryd.f5.params.toList args.toList ds p := hA0
  rw [Tryd.params5] at hA hval
  obtain ⟨v0, vs0, d0, ds0, p0, q0, hargs, rfl, rfl, h0, r0⟩ := trodAll_cons hA
  obtain ⟨v1, vs1, d1, ds1, p1, q1, rfl, rfl, rfl, h1, r1⟩ := trodAll_cons r0
  obtain ⟨v2, vs2, d2, ds2, p2, q2, rfl, rfl, rfl, h2, r2⟩ := trodAll_cons r1
  obtain ⟨rfl, rfl, rfl⟩ := trodAll_nil r2
  obtain rfl : args = #[v0, v1, v2] := by cases args; simp_all
  obtain ⟨rfl, rfl⟩ := trodVars_none hV
  obtain ⟨a0, rfl, rfl, rfl, w0⟩ := open_int Tryd.underlying3 (hval 0 3 v0 rfl rfl) h0
  obtain ⟨a1, rfl, rfl, rfl, w1⟩ := open_int Tryd.underlying3 (hval 1 3 v1 rfl rfl) h1
  obtain ⟨a2, rfl, rfl, rfl, w2⟩ := open_int Tryd.underlying3 (hval 2 3 v2 rfl rfl) h2
  clear hA0 hval0
  refine (walk a0 a1 a2 w0 w1 w2 W (met_of_laid hL)).mono fun e W' ⟨he, hg⟩ => ?_
  subst he
  exact ⟨_, rfl, _, _, _, [], _, [], hW', trodAll_mk1 (shut_bool Tryd.underlying4 _), (trodAll_cons_mk (shut_int Tryd.underlying3 w0) (trodAll_cons_mk (shut_int Tryd.underlying3 w1) (trodAll_cons_mk (shut_int Tryd.underlying3 w2) trodAll_mk0))), rfl, hg.frame _, fun h => by cases h⟩

theorem over : Rows.crcBackRow.holds Tryd.pinned (OpenSpec.ofChange Rows.crcBackSpec) :=
  OpenClaim.holds_of_wide 5 Tryd.f5 rfl rfl rfl rfl rfl rfl rfl ⟨rfl, rfl, rfl, rfl, rfl⟩ rfl rfl rfl rfl rfl (by kernel_rfl) Tryd.func5 (by kernel_rfl)
    (of_decide_eq_true (by kernel_rfl)) (by unfold Func.isWrapper; first | (rw [if_pos (by decide +kernel)]; kernel_rfl) | (rw [if_neg (by decide +kernel)]; exact ⟨rfl, rfl⟩))
    (fun os started H enc _ => lifted os started H enc)

/-- ████ THE STATEMENT ████ -/
theorem proved : Rows.CrcBackSaid :=
  over
#print axioms proved

/-- THE TIED CARD. -/
theorem card : Rows.CrcBackCardSaid :=
  Claim7.holds_tied_plain_at .later [] [.data] true (true, "89ec17bd0cc28bd11d5a86c1cd3e22fc14714ca3d19e35ce6f8efbe8033e2e44") false
    proved (fun _ h => by cases h) (by kernel_rfl) (fun _ h => by cases h) crcBack_row_tie rfl ⟨rfl, rfl⟩ (by kernel_rfl) rfl
    (fun f fn hf hfn => by
      obtain rfl : f = 5 := Option.some.inj ((show Tryd.prog.funcNamed "breakwater/breakwaterlaw02.CrcBack" = some 5 by kernel_rfl).symm.trans hf) |>.symm
      obtain rfl : fn = Tryd.f5 := (Option.some.inj (Tryd.func5.symm.trans hfn)).symm
      exact ⟨by kernel_rfl, fun j t ht => by
        rw [Tryd.params5] at ht
        have hm : t ∈ [3, 3, 3] := by simpa using Array.mem_of_getElem? ht
        have hall : ([3, 3, 3].all fun u => !Tryd.prog.wantsStandIn u) = true := by kernel_rfl
        exact (show Tryd.prog.wantsStandIn t = false by simpa using List.all_eq_true.1 hall t hm)⟩)
    (by kernel_rfl)
#print axioms card
end Go.Proofs.YtjangncdnofimaaDoor.crcBack
