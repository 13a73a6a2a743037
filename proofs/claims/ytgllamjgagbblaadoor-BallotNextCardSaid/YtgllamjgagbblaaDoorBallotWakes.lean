/-
  What the document says of some ballots.
-/
import Derived.Test.YtgllamjgagbblaaDoorBallotRefs
namespace Go.Proofs.YtgllamjgagbblaaDoor
open Go.RowKit
set_option linter.unusedVariables false
set_option linter.unusedSimpArgs false

theorem recS_max {i m b : Int} {v : ByteArray} (h : recMay i m b v = true) : (recS i m b v).size ≤ maxLen := by
  have := recS_size h
  unfold maxLen
  omega
theorem read_rec {i m b : Int} {v : ByteArray} (h : recMay i m b v = true) : readV (recS i m b v) = .tuple #[.agg #[.int .i64 i, .int .i64 m, .int .i64 b, .string v], .int .i64 0] := by
  obtain ⟨h1, h2, h3, h4, h5⟩ := rd_rec h
  unfold readV
  rw [h1, h2, h3, h4, h5]
theorem read_bad {t : ByteArray} (h : rdB t = false) (h2 : ¬ t = ⟨#[]⟩) : readV t = .tuple #[.agg #[.int .i64 0, .int .i64 0, .int .i64 0, .string ⟨#[]⟩], .int .i64 50] := by
  obtain ⟨g1, g2, g3, g4, g5⟩ := rd_bad h h2
  unfold readV
  rw [g1, g2, g3, g4, g5]
theorem rdB_isS {t : ByteArray} (h : isS t = false) : rdB t = false := by
  unfold rdB fldB ofS
  rw [h]
  rfl

set_option maxRecDepth 100000 in
set_option maxHeartbeats 1000000 in
theorem wakes_any (w : World) (ht : TabOk w) : Calls Tryd.prog 6 #[] w fun e w' => e = .returned (.bool true) ∧ Below w.heap.size w w' := by
  have hm : recMay 4 33 17 ⟨#[120]⟩ = true := by decide
  have HV := Lib.hid (rec_yes hm)
  have HR := Lib.hid (read_rec hm)
  have hS := recS_max hm
  have hx : rdB ⟨#[120]⟩ = false := rdB_isS (by decide)
  have HX := Lib.hid (read_bad hx (by decide))
  have N1 : Hid (nextV 3 [] = 19) := by show _ = _; decide
  have N2 : Hid (nextV 3 [19] = 35) := by show _ = _; decide
  have N3 : Hid (nextV 3 [18, 2] = 19) := by show _ = _; decide
  have N4 : Hid (nodeV 35 = 3) := by show _ = _; decide
  have hM : (⟨#[120]⟩ : ByteArray).size ≤ maxLen := by decide
  clear hm hx
  generalize recS 4 33 17 ⟨#[120]⟩ = S at *
  go_enter Tryd.func6, Tryd.ntmps6
  go_wp2_with fail
  refine (bBytes_any 4 33 17 ⟨#[120]⟩ w hM ht).mono ?_
  rintro e w1 ⟨rfl, b1⟩
  rw [HV.out.1, HV.out.2]
  have ht1 := ht.below b1
  go_wp2_with fail
  refine (bRead_any S w1 hS ht1).mono ?_
  rintro e w2 ⟨rfl, hb2⟩
  rw [HR.out]
  have b2 := below_then b1 hb2
  have p3 := Blk.new w2 #[.int .i64 4, .int .i64 33, .int .i64 17, .string ⟨#[120]⟩] 24
  have b3 := b2.alloc b2.size (.cells #[.int .i64 4, .int .i64 33, .int .i64 17, .string ⟨#[120]⟩] 24)
  have ht3 := ht.below b3
  clear b1 hb2 ht1 b2 HR HV hS
  go_wp2_with fail
  generalize w2.alloc (.cells #[.int .i64 4, .int .i64 33, .int .i64 17, .string ⟨#[120]⟩] 24) = w3 at *
  obtain ⟨q, hq⟩ : ∃ q, Hid (w2.heap.size = q) := ⟨_, rfl⟩
  rw [hq.out] at p3
  rw [hq.out]
  refine (bRead_any ⟨#[120]⟩ w3 hM ht3).mono ?_
  rintro e w4 ⟨rfl, hb4⟩
  rw [HX.out]
  have p4 := p3.below hb4 p3.lt
  have b4 := below_then b3 hb4
  have p5 := p4.alloc (.cells #[.int .i64 0, .int .i64 0, .int .i64 0, .string ⟨#[]⟩] 24)
  have b5 := b4.alloc b4.size (.cells #[.int .i64 0, .int .i64 0, .int .i64 0, .string ⟨#[]⟩] 24)
  clear p3 p4 b3 b4 hb4 HX hq ht3
  go_wp2_with fail
  generalize hw5 : w4.alloc (.cells #[.int .i64 0, .int .i64 0, .int .i64 0, .string ⟨#[]⟩] 24) = w5 at *
  clear hw5
  refine (bNext_any 3 0 0 0 none [] w5 Lies.nothing (by omega)).mono ?_
  rintro e w6 ⟨rfl, rfl⟩
  rw [N1.out]
  have hA := lies_new w5 #[.int .i64 19] 3 (0, 0)
  have p6 := p5.alloc (.cells #[.int .i64 19] 3 (0, 0))
  have b6 := b5.alloc b5.size (.cells #[.int .i64 19] 3 (0, 0))
  clear p5 b5
  go_wp2_with fail
  refine (bNext_any 3 _ 1 1 _ [19] _ hA (by omega)).mono ?_
  rintro e w7 ⟨rfl, rfl⟩
  rw [N2.out]
  clear hA
  generalize hw6 : w5.alloc (.cells #[.int .i64 19] 3 (0, 0)) = w6 at *
  clear hw6
  have hA := lies_new w6 #[.int .i64 18, .int .i64 2] 3 (0, 0)
  have p7 := p6.alloc (.cells #[.int .i64 18, .int .i64 2] 3 (0, 0))
  have b7 := b6.alloc b6.size (.cells #[.int .i64 18, .int .i64 2] 3 (0, 0))
  clear p6 b6
  go_wp2_with fail
  refine (bNext_any 3 _ 2 2 _ [18, 2] _ hA (by omega)).mono ?_
  rintro e w8 ⟨rfl, rfl⟩
  rw [N3.out]
  clear hA
  generalize hw7 : w6.alloc (.cells #[.int .i64 18, .int .i64 2] 3 (0, 0)) = w7 at *
  clear hw7
  go_wp2_with fail
  refine (bNode_any 35 _).mono ?_
  rintro e w9 ⟨rfl, rfl⟩
  rw [N4.out]
  obtain ⟨c0, c1, c2, c3⟩ := rec_cells p7
  clear N1 N2 N3 N4 p7
  go_wp2_with fail
  go_ret
  exact ⟨rfl, b7⟩

end Go.Proofs.YtgllamjgagbblaaDoor
