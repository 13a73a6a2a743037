/-
  What the document says of a free.
-/
import Derived.Test.YtdjkomagpihgdaaCmdProg
namespace Go.Proofs.Ytdjkomagpihgdaa
open Go.RowKit
set_option linter.unusedVariables false
set_option linter.unusedSimpArgs false

set_option maxRecDepth 100000 in
set_option maxHeartbeats 4000000 in
theorem wakes_any (w : World) : Calls Try.prog 6 #[] w fun e w' => e = .returned (.bool true) ∧ Below w.heap.size w w' := by
  have hm : cMay ⟨3, 17, 1, 0, 0, 2, 3, 0⟩ = true := by decide
  have hS : cmS ⟨3, 17, 1, 0, 0, 2, 3, 0⟩ = ⟨#[3, 17, 0, 0, 0, 0, 0, 1, 0, 0, 0, 2, 3]⟩ := by
    rw [(cm_yes hm).1]
    rfl
  have HB := Lib.hid (cm_yes hm).2
  have HC := Lib.hid (cr_cm hm)
  have HS := Lib.hid hS
  have hx : cRd (bytesI (cmS ⟨3, 17, 1, 0, 0, 2, 3, 0⟩ ++ ⟨#[120]⟩)) = false := by
    rw [hS, bytesI_append]
    decide
  have HX := Lib.hid (cr_no hx)
  have hz : (cmS ⟨3, 17, 1, 0, 0, 2, 3, 0⟩).size ≤ 200 := by rw [hS]; decide
  have hz2 : (cmS ⟨3, 17, 1, 0, 0, 2, 3, 0⟩ ++ ⟨#[120]⟩).size ≤ 200 := by rw [hS]; decide
  have HZ := Lib.hid hz
  have HZ2 := Lib.hid hz2
  have hq : (cmS ⟨3, 17, 1, 0, 0, 2, 3, 0⟩).toList = [3, 17, 0, 0, 0, 0, 0, 1, 0, 0, 0, 2, 3] := by rw [hS]; kernel_rfl
  have HQ := Lib.hid hq
  clear hm hS hx hz hz2 hq
  go_enter Try.func6, Try.ntmps6
  go_wp2_with fail
  refine (cBytes_any 3 17 1 0 0 2 3 0 _).mono ?_
  rintro e w1 ⟨rfl, hb1⟩
  rw [HB.out]
  obtain ⟨S, hS⟩ : ∃ S, cmS ⟨3, 17, 1, 0, 0, 2, 3, 0⟩ = S := ⟨_, rfl⟩
  rw [hS] at HC HX HZ HZ2 HQ ⊢
  clear hS HS HB
  have hz := HZ.out
  go_wp2_with fail
  refine (cRead_any S _ (by omega)).mono ?_
  rintro e w2 ⟨rfl, hb2⟩
  rw [HC.out.1, HC.out.2]
  have b2 := below_then hb1 hb2
  have p3 := Blk.new w2 #[.int .i8 3, .int .i64 17, .int .i64 1, .int .i64 0, .int .i64 0, .int .i64 2, .int .i64 3, .int .i8 0] 27
  have b3 := b2.alloc b2.size (.cells #[.int .i8 3, .int .i64 17, .int .i64 1, .int .i64 0, .int .i64 0, .int .i64 2, .int .i64 3, .int .i8 0] 27)
  clear hb1 hb2 b2
  rw [show cmdA ⟨3, 17, 1, 0, 0, 2, 3, 0⟩ = #[.int .i8 3, .int .i64 17, .int .i64 1, .int .i64 0, .int .i64 0, .int .i64 2, .int .i64 3, .int .i8 0] from rfl]
  go_wp2_with fail
  obtain ⟨SX, hSX⟩ : ∃ X, S ++ ⟨#[120]⟩ = X := ⟨_, rfl⟩
  rw [hSX] at HX HZ2 ⊢
  clear hSX
  have hz2 := HZ2.out
  refine (cRead_any SX _ (Nat.le_trans hz2 (by decide))).mono ?_
  clear hz2
  rintro e w4 ⟨rfl, hb4⟩
  rw [HX.out.1, HX.out.2]
  have p4 := p3.below hb4 p3.lt
  have b4 := below_then b3 hb4
  have p5 := p4.alloc (.cells #[.int .i8 0, .int .i64 0, .int .i64 0, .int .i64 0, .int .i64 0, .int .i64 0, .int .i64 0, .int .i8 0] 27)
  have b5 := b4.alloc b4.size (.cells #[.int .i8 0, .int .i64 0, .int .i64 0, .int .i64 0, .int .i64 0, .int .i64 0, .int .i64 0, .int .i8 0] 27)
  obtain ⟨c0, c1, c2, c3, c4, c5, c6, c7⟩ := cmd_cells p4
  have l4 := p4.lt
  have hq := HQ.out
  clear p3 b3 hb4
  rw [show cmdA zeroC = #[.int .i8 0, .int .i64 0, .int .i64 0, .int .i64 0, .int .i64 0, .int .i64 0, .int .i64 0, .int .i8 0] from rfl]
  go_wp2_with fail
  refine (cMine_any 3 17 1 0 0 2 3 0 17 1 _).mono ?_
  rintro e w6 ⟨rfl, hb6⟩
  have b6 := below_then b5 hb6
  clear c0 c1 c2 c3 c4 c5 c6 c7 l4 hq p4 p5 b4 b5 hb6
  go_wp2_with fail
  refine (cOf_any 17 _).mono ?_
  rintro e w7 ⟨rfl, rfl⟩
  rw [show cOf 17 = 1 by decide]
  go_wp2_with fail
  refine (cOf_any 15 _).mono ?_
  rintro e w7 ⟨rfl, rfl⟩
  rw [show cOf 15 = -1 by decide]
  go_wp2_with fail
  go_ret
  exact ⟨rfl, b6⟩

end Go.Proofs.Ytdjkomagpihgdaa
