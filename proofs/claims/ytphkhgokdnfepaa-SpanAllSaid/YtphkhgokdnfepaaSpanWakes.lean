/-
  What the document says of two holds.
-/
import Derived.Test.YtphkhgokdnfepaaSpanAll
namespace Go.Proofs.Ytphkhgokdnfepaa
open Go.RowKit
set_option linter.unusedVariables false
set_option linter.unusedSimpArgs false

/-- A row of one hold, in a block of its own. -/
theorem LiesH.one {w : World} {q : Nat} {k lo hi m : Int} {T : TypeId} (p : Blk w q #[.int .i64 k, .int .i64 lo, .int .i64 hi, .int .i8 m] T) : LiesH w w.heap.size (some ⟨q, 0, none⟩) 1 [⟨k, ⟨lo, hi⟩, m⟩] := by
  refine ⟨rfl, rfl, fun _ => ⟨_, rfl, p.lt, fun j u hj => ?_⟩⟩
  have h := p.cell j u (by simpa [holV] using hj)
  unfold Addr.add
  by_cases hz : j = 0
  · subst hz; simpa using h
  · rw [if_neg hz]; simpa using h

set_option maxRecDepth 100000 in
set_option maxHeartbeats 1000000 in
theorem wakes_any (w : World) : Calls Try.prog 8 #[] w fun e w' => e = .returned (.bool true) ∧ Below w.heap.size w w' := by
  have T1 : Hid (sTog ⟨1, ⟨0, 3⟩, 1⟩ ⟨2, ⟨3, 5⟩, 1⟩ = true) := by show _ = _; decide
  have T2 : Hid (sTog ⟨1, ⟨0, 3⟩, 2⟩ ⟨2, ⟨3, 5⟩, 1⟩ = false) := by show _ = _; decide
  have T3 : Hid (sCov [⟨1, ⟨0, 3⟩, 2⟩] 1 3 1 = true) := by show _ = _; decide
  have T4 : Hid (sHoldB 6 ⟨2, ⟨3, 5⟩, 1⟩ = true) := by show _ = _; decide
  have T5 : Hid (sHoldB 5 ⟨2, ⟨3, 5⟩, 1⟩ = false) := by show _ = _; decide
  go_enter Try.func8, Try.ntmps8
  have q0 : Blk (((w.alloc (.cells #[.int .i64 1, .int .i64 0, .int .i64 3, .int .i8 1] 28)).alloc (.cells #[.int .i64 2, .int .i64 3, .int .i64 5, .int .i8 1] 28)).alloc (.cells #[.int .i64 1, .int .i64 0, .int .i64 3, .int .i8 2] 28)) (w.heap.size + 1) #[.int .i64 2, .int .i64 3, .int .i64 5, .int .i8 1] 28 := (blk2 w #[.int .i64 1, .int .i64 0, .int .i64 3, .int .i8 1] #[.int .i64 2, .int .i64 3, .int .i64 5, .int .i8 1] _ _).2.alloc _
  have r0 : Blk (((w.alloc (.cells #[.int .i64 1, .int .i64 0, .int .i64 3, .int .i8 1] 28)).alloc (.cells #[.int .i64 2, .int .i64 3, .int .i64 5, .int .i8 1] 28)).alloc (.cells #[.int .i64 1, .int .i64 0, .int .i64 3, .int .i8 2] 28)) (w.heap.size + 1 + 1) #[.int .i64 1, .int .i64 0, .int .i64 3, .int .i8 2] 28 := by
    have h := Blk.new ((w.alloc (.cells #[.int .i64 1, .int .i64 0, .int .i64 3, .int .i8 1] 28)).alloc (.cells #[.int .i64 2, .int .i64 3, .int .i64 5, .int .i8 1] 28)) #[.int .i64 1, .int .i64 0, .int .i64 3, .int .i8 2] 28
    simpa using h
  have b0 : Below w.heap.size w (((w.alloc (.cells #[.int .i64 1, .int .i64 0, .int .i64 3, .int .i8 1] 28)).alloc (.cells #[.int .i64 2, .int .i64 3, .int .i64 5, .int .i8 1] 28)).alloc (.cells #[.int .i64 1, .int .i64 0, .int .i64 3, .int .i8 2] 28)) := (two_new w _ _).alloc (by simp; omega) _
  go_wp2_with fail
  refine (Together_any 1 0 3 1 2 3 5 1 _).mono ?_
  rintro e w1 ⟨rfl, hb1⟩
  rw [T1.out]
  have q1 := q0.below hb1 q0.lt
  have r1 := r0.below hb1 r0.lt
  have b1 := below_then b0 hb1
  clear q0 r0 b0 hb1 T1
  obtain ⟨c0, c1, c2, c3⟩ := hold_cells q1
  obtain ⟨d0, d1, d2, d3⟩ := hold_cells r1
  go_wp2_with fail
  refine (Together_any 1 0 3 2 2 3 5 1 _).mono ?_
  rintro e w2 ⟨rfl, hb2⟩
  rw [T2.out]
  have q2 := q1.below hb2 q1.lt
  have r2 := r1.below hb2 r1.lt
  have b2 := below_then b1 hb2
  clear q1 r1 b1 hb2 T2 c0 c1 c2 c3 d0 d1 d2 d3
  obtain ⟨d0, d1, d2, d3⟩ := hold_cells r2
  have q3 := q2.alloc (.cells #[.int .i64 1, .int .i64 0, .int .i64 3, .int .i8 2] 28)
  have s3 := LiesH.one (Blk.new w2 #[.int .i64 1, .int .i64 0, .int .i64 3, .int .i8 2] 28)
  have b3 := b2.alloc b2.size (.cells #[.int .i64 1, .int .i64 0, .int .i64 3, .int .i8 2] 28)
  go_wp2_with fail
  refine (Covers_any _ _ _ _ 1 3 1 _ s3 (by decide)).mono ?_
  rintro e w4 ⟨rfl, hb4⟩
  rw [T3.out]
  have q4 := q3.below hb4 q3.lt
  have b4 := below_then b3 hb4
  clear q2 r2 q3 b2 b3 hb4 s3 T3 d0 d1 d2 d3
  obtain ⟨c0, c1, c2, c3⟩ := hold_cells q4
  go_wp2_with fail
  refine (Hold_any 0 0 6 0 0 0 0 0 2 3 5 1 _).mono ?_
  rintro e w5 ⟨rfl, hb5⟩
  rw [T4.out]
  have q5 := q4.below hb5 q4.lt
  have b5 := below_then b4 hb5
  clear q4 b4 hb5 T4 c0 c1 c2 c3
  obtain ⟨c0, c1, c2, c3⟩ := hold_cells q5
  go_wp2_with fail
  refine (Hold_any 0 0 5 0 0 0 0 0 2 3 5 1 _).mono ?_
  rintro e w6 ⟨rfl, hb6⟩
  rw [T5.out]
  have b6 := below_then b5 hb6
  clear q5 b5 hb6 T5 c0 c1 c2 c3
  go_wp2_with fail
  go_ret
  exact ⟨rfl, b6⟩

end Go.Proofs.Ytphkhgokdnfepaa
