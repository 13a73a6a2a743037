/-
  The statement CommandReads: any bytes are read as the document says, as a command or ErrCode: for every text the call answers true and leaves its argument as it was. No conditions.
-/
import Derived.Test.YtdjkomagpihgdaaCmdWakes
import Derived.Test.YtdjkomagpihgdaaCmdRefRead
import Derived.ProofKit
import Derived.ShutString
import Derived.ChangeOld
import Derived.Below
namespace Go.Proofs.Ytdjkomagpihgdaa.commandReads
open Go.ChangeShapes Go.WideShapes Go.ChangeAt Go.RowKit
open Go.ChangeMaps (open_string shut_string)
set_option linter.unusedVariables false
set_option linter.unusedSimpArgs false

theorem own : ownKnob Try.prog.godebug = none := by kernel_rfl
theorem laidOut : laidOutB Try.prog = true := by kernel_rfl

set_option maxRecDepth 100000 in
set_option maxHeartbeats 2000000 in
theorem walk (s : ByteArray) (w0 : s.size ≤ maxLen) (w : World) :
    Calls Try.prog 3 #[.string s] w fun e w' => e = .returned (.bool true) ∧ Below w.heap.size w w' := by
  by_cases g : 200 < s.size
  · go_enter Try.func3, Try.ntmps3
    go_wp2_with fail
    refine (wakes_any _).mono ?_
    rintro e w6 ⟨rfl, hb6⟩
    go_wp2_with fail
    go_ret
    exact ⟨rfl, hb6⟩
  · have g2 : s.size ≤ 200 := by omega
    clear g w0
    go_enter Try.func3, Try.ntmps3
    go_wp2_with fail
    have C1 := cRead_any s w (by omega)
    have C2 := fun w => refRead_any s w (by omega)
    obtain ⟨⟨k, b, sr, d, a, lo, hi, m⟩, hc⟩ : ∃ c, crC s = c := ⟨_, rfl⟩
    obtain ⟨er, he⟩ : ∃ x, crE s = x := ⟨_, rfl⟩
    rw [hc, he] at C1
    simp only [hc, he] at C2
    rw [show cmdA ⟨k, b, sr, d, a, lo, hi, m⟩ = #[.int .i8 k, .int .i64 b, .int .i64 sr, .int .i64 d, .int .i64 a, .int .i64 lo, .int .i64 hi, .int .i8 m] from rfl] at C1
    have C2 := Lib.hid C2
    clear hc he
    refine C1.mono ?_
    rintro e w1 ⟨rfl, hb1⟩
    clear C1
    have p1 := Blk.new w1 #[.int .i8 k, .int .i64 b, .int .i64 sr, .int .i64 d, .int .i64 a, .int .i64 lo, .int .i64 hi, .int .i8 m] 27
    have b1 := hb1.alloc hb1.size (.cells #[.int .i8 k, .int .i64 b, .int .i64 sr, .int .i64 d, .int .i64 a, .int .i64 lo, .int .i64 hi, .int .i8 m] 27)
    clear hb1
    go_wp2_with fail
    refine (C2.out _).mono ?_
    rintro e w2 ⟨rfl, hb2⟩
    rw [show cmdA ⟨k, b, sr, d, a, lo, hi, m⟩ = #[.int .i8 k, .int .i64 b, .int .i64 sr, .int .i64 d, .int .i64 a, .int .i64 lo, .int .i64 hi, .int .i8 m] from rfl]
    have p2 := p1.below hb2 p1.lt
    have b2 := below_then b1 hb2
    obtain ⟨c0, c1, c2, c3, c4, c5, c6, c7⟩ := cmd_cells p2
    have l2 := p2.lt
    have b3 := b2.alloc b2.size (.cells #[.int .i8 k, .int .i64 b, .int .i64 sr, .int .i64 d, .int .i64 a, .int .i64 lo, .int .i64 hi, .int .i8 m] 27)
    have z1 : (er == er) = true := by simp
    clear hb2 p1 b1 C2
    go_wp2_with fail
    refine (wakes_any _).mono ?_
    rintro e w3 ⟨rfl, hb3⟩
    have b4 := below_then b3 hb3
    go_wp2_with fail
    go_ret
    exact ⟨rfl, b4⟩

/-! ### THE ROW's STEP: WRITTEN OUT: LEAVE IT -/
set_option maxRecDepth 100000 in
theorem lifted (os : Os) (started : os.Started) (H : Type) (enc : TypeId × Value → H) :
    ReturnsInHanded {} Try.checked os 3 .any (Rows.commandReadsSpec.pre6 enc Try.prog Try.f3 Rows.commandReadsRow.domain false) (Rows.commandReadsSpec.post enc Try.prog Try.f3 false true false false) := by
  refine returnsInHanded_of_change (C := Try.checked) own started (by kernel_rfl) Try.func3
    (ChangeSpec.witness6 (enc := enc) (C := Try.checked) false ⟨#[], #[.string ByteArray.empty], []⟩ 8 (by kernel_rfl) (by kernel_rfl) (by kernel_rfl) (by kernel_rfl)) ?_
  intro W base args ds gs before hval0 hW hcnd _
  have hval : ∀ (j : Nat) t v, Try.f3.params[j]? = some t → args[j]? = some v → Value.okWide Try.prog W .any base t v := hval0
  have hW' := hW
  obtain ⟨p, q, hA0, hV, rfl, hfz, hnd⟩ := hW
  have hA : DataW.TrodAll enc Try.prog W 0 (fun _ => true) true Try.f3.params.toList args.toList ds p := hA0
  rw [Try.params3] at hA hval
  obtain ⟨v0, vs0, d0, ds0, p0, q0, hargs, rfl, rfl, h0, r0⟩ := trodAll_cons hA
  obtain ⟨rfl, rfl, rfl⟩ := trodAll_nil r0
  obtain rfl : args = #[v0] := by cases args; simp_all
  obtain ⟨rfl, rfl⟩ := trodVars_none hV
  obtain ⟨a0, rfl, rfl, rfl, w0⟩ := open_string Try.underlying9 (hval 0 9 v0 rfl rfl) h0
  clear hA0 hval0
  refine (walk a0 w0 W).mono fun e W' ⟨he, hg⟩ => ?_
  subst he
  exact ⟨_, rfl, _, _, _, [], _, [], hW', trodAll_mk1 (shut_bool Try.underlying4 _), (trodAll_cons_mk (shut_string Try.underlying9 w0) trodAll_mk0), rfl, hg.frame _, fun h => by cases h⟩

theorem over : Rows.commandReadsRow.holds Try.pinned (OpenSpec.ofChange Rows.commandReadsSpec) :=
  OpenClaim.holds_of_wide 3 Try.f3 rfl rfl rfl rfl rfl rfl rfl ⟨rfl, rfl, rfl, rfl, rfl⟩ rfl rfl rfl rfl rfl (by kernel_rfl) Try.func3 (by kernel_rfl)
    (of_decide_eq_true (by kernel_rfl)) (by unfold Func.isWrapper; first | (rw [if_pos (by decide +kernel)]; kernel_rfl) | (rw [if_neg (by decide +kernel)]; exact ⟨rfl, rfl⟩))
    (fun os started H enc _ => lifted os started H enc)

/-- ████ THE STATEMENT ████ -/
theorem proved : Rows.CommandReadsSaid :=
  over
#print axioms proved
end Go.Proofs.Ytdjkomagpihgdaa.commandReads
