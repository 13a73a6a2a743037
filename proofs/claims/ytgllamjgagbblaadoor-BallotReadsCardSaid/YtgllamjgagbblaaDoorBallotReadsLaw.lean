/-
  The statement BallotReads: any sector is read as the document says: for every text the call answers true and leaves its argument as it was. No conditions; the listed table is tied to the program's text.
-/
import Derived.Test.YtgllamjgagbblaaDoorBallotWakes
import Derived.Test.YtgllamjgagbblaaDoorLaid
import Derived.ShutString
import Derived.ChangeOld
import Derived.Below
namespace Go.Proofs.YtgllamjgagbblaaDoor.ballotReads
open Go.ChangeShapes Go.WideShapes Go.ChangeAt Go.RowKit
open Go.ChangeMaps (open_string shut_string)
set_option linter.unusedVariables false
set_option linter.unusedSimpArgs false

set_option maxRecDepth 100000 in
set_option maxHeartbeats 1000000 in
theorem walk (a0 : ByteArray) (w0 : a0.size ≤ maxLen) (w : World) (ht : TabOk w) :
    Calls Tryd.prog 3 #[.string a0] w fun e w' => e = .returned (.bool true) ∧ Below w.heap.size w w' := by
  have M0 := Lib.hid w0
  unfold maxLen at w0
  by_cases g1 : 1000 < a0.size
  · go_enter Tryd.func3, Tryd.ntmps3
    go_wp2_with fail
    refine (wakes_any _ ht).mono ?_
    rintro e w6 ⟨rfl, hb6⟩
    go_wp2_with fail
    go_ret
    exact ⟨rfl, hb6⟩
  · have g2 : a0.size ≤ 1000 := by omega
    clear g1
    obtain ⟨x0, x1, x2, x3, x4, hV⟩ : ∃ x0 x1 x2 x3 x4, Hid (readV a0 = .tuple #[.agg #[.int .i64 x0, .int .i64 x1, .int .i64 x2, .string x3], .int .i64 x4]) := ⟨_, _, _, _, _, rfl⟩
    go_enter Tryd.func3, Tryd.ntmps3
    go_wp2_with fail
    refine (bRead_any a0 w M0.out ht).mono ?_
    rintro e w1 ⟨rfl, b1⟩
    rw [hV.out]
    have p2 := Blk.new w1 #[.int .i64 x0, .int .i64 x1, .int .i64 x2, .string x3] 24
    have b2 := b1.alloc b1.size (.cells #[.int .i64 x0, .int .i64 x1, .int .i64 x2, .string x3] 24)
    clear b1
    go_wp2_with fail
    refine (refbRead_any a0 _ M0.out).mono ?_
    rintro e w3 ⟨rfl, hb3⟩
    rw [hV.out]
    have p3 := p2.below hb3 p2.lt
    have b3 := below_then b2 hb3
    have p4 := p3.alloc (.cells #[.int .i64 x0, .int .i64 x1, .int .i64 x2, .string x3] 24)
    have s4 := Blk.new w3 #[.int .i64 x0, .int .i64 x1, .int .i64 x2, .string x3] 24
    have b4 := b3.alloc b3.size (.cells #[.int .i64 x0, .int .i64 x1, .int .i64 x2, .string x3] 24)
    obtain ⟨c0, c1, c2, c3⟩ := rec_cells p4
    have ht4 := ht.below b4
    have hs := str_same x3
    clear p2 b2 hb3 b3 hV p4 s4 p3
    go_wp2_with fail
    refine (wakes_any _ ht4).mono ?_
    rintro e w6 ⟨rfl, hb6⟩
    have b6 := below_then b4 hb6
    clear b4 hb6 ht4
    go_wp2_with fail
    go_ret
    exact ⟨rfl, b6⟩

/-! ### THE ROW's STEP: WRITTEN OUT: LEAVE IT -/
set_option maxRecDepth 100000 in
theorem lifted (os : Os) (started : os.Started) (H : Type) (enc : TypeId × Value → H) :
    ReturnsInHanded {} Tryd.checked os 3 .any (fun w args => (Rows.ballotReadsSpec.pre enc Tryd.prog Tryd.f3 [] false w args ∧ laidMetH Tryd.prog laidL w) ∧ sizedMet enc Tryd.prog Tryd.f3 (OpenSpec.ofChange Rows.ballotReadsSpec) false w args) (Rows.ballotReadsSpec.post enc Tryd.prog Tryd.f3 false true false false) := by
  refine returnsInHanded_of_change_and (C := Tryd.checked) (X := fun w _ => laidMetH Tryd.prog laidL w) (fun _ _ _ hh h => h.of_heap hh) own started (by kernel_rfl) Tryd.func3
    (ChangeSpec.witness_shaped (enc := enc) (C := Tryd.checked) (os := os) (X := fun w _ => laidMetH Tryd.prog laidL w) false (World.doorLaid Tryd.prog 14 os) #[.string ByteArray.empty] 8 rfl (World.shaped_of_RefB (by kernel_rfl) (by kernel_rfl)) (by kernel_rfl) (by kernel_rfl) (by kernel_rfl) (door_met os _)) ?_
  intro W base args ds gs before hval0 hW _ _ hL _
  have hval : ∀ (j : Nat) t v, Tryd.f3.params[j]? = some t → args[j]? = some v → Value.okWide Tryd.prog W .any base t v := hval0
  have hW' := hW
  obtain ⟨p, q, hA0, hV, rfl, hfz, hnd⟩ := hW
  have hA : DataW.TrodAll enc Tryd.prog W 0 (fun _ => true) true Tryd.f3.params.toList args.toList ds p := hA0
  rw [Tryd.params3] at hA hval
  obtain ⟨v0, vs0, d0, ds0, p0, q0, hargs, rfl, rfl, h0, r0⟩ := trodAll_cons hA
  obtain ⟨rfl, rfl, rfl⟩ := trodAll_nil r0
  obtain rfl : args = #[v0] := by cases args; simp_all
  obtain ⟨rfl, rfl⟩ := trodVars_none hV
  obtain ⟨a0, rfl, rfl, rfl, w0⟩ := open_string Tryd.underlying9 (hval 0 9 v0 rfl rfl) h0
  clear hA0 hval0
  refine (walk a0 w0 W (met_of_laid hL)).mono fun e W' ⟨he, hg⟩ => ?_
  subst he
  exact ⟨_, rfl, _, _, _, [], _, [], hW', trodAll_mk1 (shut_bool Tryd.underlying4 _), (trodAll_cons_mk (shut_string Tryd.underlying9 w0) trodAll_mk0), rfl, hg.frame _, fun h => by cases h⟩

theorem over : Rows.ballotReadsRow.holds Tryd.pinned (OpenSpec.ofChange Rows.ballotReadsSpec) :=
  OpenClaim.holds_of_wide 3 Tryd.f3 rfl rfl rfl rfl rfl rfl rfl ⟨rfl, rfl, rfl, rfl, rfl⟩ rfl rfl rfl rfl rfl (by kernel_rfl) Tryd.func3 (by kernel_rfl)
    (of_decide_eq_true (by kernel_rfl)) (by unfold Func.isWrapper; first | (rw [if_pos (by decide +kernel)]; kernel_rfl) | (rw [if_neg (by decide +kernel)]; exact ⟨rfl, rfl⟩))
    (fun os started H enc _ => lifted os started H enc)

/-- ████ THE STATEMENT ████ -/
theorem proved : Rows.BallotReadsSaid :=
  over
#print axioms proved

/-- THE TIED CARD. -/
theorem card : Rows.BallotReadsCardSaid :=
  Claim7.holds_tied_plain_at .later [] [.data] true (true, "9b282f679404cd788f6332000a6e008f09f8cd817f4e2dd17798d1668e2a916c") false
    proved (fun _ h => by cases h) (by kernel_rfl) (fun _ h => by cases h) ballotReads_row_tie rfl ⟨rfl, rfl⟩ (by kernel_rfl) rfl
    (fun f fn hf hfn => by
      obtain rfl : f = 3 := Option.some.inj ((show Tryd.prog.funcNamed "breakwater/breakwaterlaw08.BallotReads" = some 3 by kernel_rfl).symm.trans hf) |>.symm
      obtain rfl : fn = Tryd.f3 := (Option.some.inj (Tryd.func3.symm.trans hfn)).symm
      exact ⟨by kernel_rfl, fun j t ht => by
        rw [Tryd.params3] at ht
        have hm : t ∈ [9] := by simpa using Array.mem_of_getElem? ht
        have hall : ([9].all fun u => !Tryd.prog.wantsStandIn u) = true := by kernel_rfl
        exact (show Tryd.prog.wantsStandIn t = false by simpa using List.all_eq_true.1 hall t hm)⟩)
    (by kernel_rfl)
#print axioms card
end Go.Proofs.YtgllamjgagbblaaDoor.ballotReads
