/-
  What the document says of a hold that is freed.
-/
import Derived.Test.YtjknloaolennoaaTabProg
import Derived.Test.YtjknloaolennoaaTabVar
import Derived.Test.YtjknloaolennoaaTabMayB
namespace Go.Proofs.Ytjknloaolennoaa
open Go.RowKit
set_option linter.unusedVariables false
set_option linter.unusedSimpArgs false

theorem lies_blk {w : World} {q : Nat} {cs : Array Value} {T : TypeId} (p : Blk w q cs T) {xs : List Value} (e : cs.toList = xs) {n : Nat} (hn : xs.length = n) : Lies w w.heap.size (some ⟨q, 0, none⟩) n xs := by
  subst e
  refine ⟨hn, fun _ => ⟨⟨q, 0, none⟩, rfl, p.lt, fun j u hj => ?_⟩⟩
  have : (⟨q, 0, none⟩ : Addr).add j = ⟨q, j, none⟩ := by
    unfold Addr.add
    split
    · rename_i h; subst h; rfl
    · simp
  rw [this]
  exact p.cell j u (by simpa using hj)
set_option maxRecDepth 100000 in
theorem lhold_any (k lo hi m : Int) (w : World) : Calls Try.prog 16 #[.int .i64 k, .int .i64 lo, .int .i64 hi, .int .i8 m] w fun e w' => e = .returned (.agg #[.int .i64 k, .int .i64 lo, .int .i64 hi, .int .i8 m]) ∧ Below w.heap.size w w' := by
  go_enter Try.func16, Try.ntmps16
  go_wp2_with fail
  refine bodyPost_ret (results_cell (cs := [.int .i64 k, .int .i64 lo, .int .i64 hi, .int .i8 m]) Try.results16 (by rfl) (Blk.new w #[.int .i64 k, .int .i64 lo, .int .i64 hi, .int .i8 m] 43).range Try.underlying43 rfl (by kernel_rfl)) rfl ?_
  exact ⟨rfl, one_new _ _⟩

def exT : TabM := ⟨[⟨16, 0⟩, ⟨17, 0⟩, ⟨18, 0⟩], [⟨16, ⟨0, 3⟩, 2⟩], [⟨17, ⟨0, 1⟩, 2⟩, ⟨18, ⟨1, 1⟩, 1⟩]⟩
def exO : TabM := ⟨[⟨16, 0⟩, ⟨17, 0⟩, ⟨18, 0⟩], [⟨17, ⟨0, 1⟩, 2⟩], [⟨18, ⟨1, 1⟩, 1⟩]⟩
theorem ex_apply : applyT 4 exT ⟨3, 16, 0, 0, 0, 0, 3, 0⟩ = exO := by decide
theorem ex_may : mayTB 3 4 exT = true := by decide
theorem ex_keys : KeysOk exT.sl := fun x hx => by
  simp [exT] at hx
  rcases hx with rfl | rfl | rfl <;> decide

set_option maxRecDepth 100000 in
set_option maxHeartbeats 2000000 in
theorem twakes_any (w : World) : Calls Try.prog 6 #[] w fun e w' => e = .returned (.bool true) ∧ Below w.heap.size w w' := by
  go_enter Try.func6, Try.ntmps6
  have hex := Lib.hid ex_apply
  have pg := Blk.new w #[.int .i64 0, .int .i64 3, .int .i64 4, .int .i64 0, .int .i64 0, .int .i64 0, .int .i64 0, .int .i64 0] 23
  have bg := one_new w (.cells #[.int .i64 0, .int .i64 3, .int .i64 4, .int .i64 0, .int .i64 0, .int .i64 0, .int .i64 0, .int .i64 0] 23)
  obtain ⟨W1, hW1⟩ : ∃ W, W = w.alloc (.cells #[.int .i64 0, .int .i64 3, .int .i64 4, .int .i64 0, .int .i64 0, .int .i64 0, .int .i64 0, .int .i64 0] 23) := ⟨_, rfl⟩
  have ps := Blk.new W1 #[.int .i64 16, .int .i64 0, .int .i64 17, .int .i64 0, .int .i64 18, .int .i64 0] 48
  have bs := one_new W1 (.cells #[.int .i64 16, .int .i64 0, .int .i64 17, .int .i64 0, .int .i64 18, .int .i64 0] 48)
  rw [← hW1] at pg bg
  go_wp2_with fail
  rw [← hW1]
  refine (lhold_any 16 0 3 2 _).mono ?_
  rintro e w2 ⟨rfl, hb2⟩
  have b2 := below_then (below_then bg bs) hb2
  have pg2 := (pg.below bs pg.lt).below hb2 (by have := pg.lt; have := bs.size; omega)
  have ps2 := ps.below hb2 ps.lt
  clear hb2 bs bg pg ps
  have ph := Blk.new w2 #[.int .i64 16, .int .i64 0, .int .i64 3, .int .i8 2] 43
  have bh := one_new w2 (.cells #[.int .i64 16, .int .i64 0, .int .i64 3, .int .i8 2] 43)
  go_wp2_with fail
  refine (lhold_any 17 0 1 2 _).mono ?_
  rintro e w3 ⟨rfl, hb3⟩
  go_wp2_with fail
  refine (lhold_any 18 1 1 1 _).mono ?_
  rintro e w4 ⟨rfl, hb4⟩
  have b34 := below_then (below_then bh hb3) hb4
  have b4 := below_then b2 b34
  have pg4 := pg2.below b34 pg2.lt
  have ps4 := ps2.below b34 ps2.lt
  have ph4 := (ph.below hb3 ph.lt).below hb4 (Nat.lt_of_lt_of_le ph.lt hb3.size)
  clear hb3 hb4 bh ph b34 b2 pg2 ps2
  have pq := Blk.new w4 #[.int .i64 17, .int .i64 0, .int .i64 1, .int .i8 2, .int .i64 18, .int .i64 1, .int .i64 1, .int .i8 1] 43
  have bq := one_new w4 (.cells #[.int .i64 17, .int .i64 0, .int .i64 1, .int .i8 2, .int .i64 18, .int .i64 1, .int .i64 1, .int .i8 1] 43)
  have e1 : W1.heap.size = w.heap.size + 1 := by rw [hW1]; simp
  rw [e1] at ps4
  clear hW1 e1
  have bt := one_new (w4.alloc (.cells #[.int .i64 17, .int .i64 0, .int .i64 1, .int .i8 2, .int .i64 18, .int .i64 1, .int .i64 1, .int .i8 1] 43)) (.cells #[.slice (some ⟨w.heap.size + 1, 0, none⟩) 3 3, .slice (some ⟨w2.heap.size, 0, none⟩) 1 1, .slice (some ⟨w4.heap.size, 0, none⟩) 2 2] 29)
  have pt := Blk.new (w4.alloc (.cells #[.int .i64 17, .int .i64 0, .int .i64 1, .int .i8 2, .int .i64 18, .int .i64 1, .int .i64 1, .int .i8 1] 43)) #[.slice (some ⟨w.heap.size + 1, 0, none⟩) 3 3, .slice (some ⟨w2.heap.size, 0, none⟩) 1 1, .slice (some ⟨w4.heap.size, 0, none⟩) 2 2] 29
  obtain ⟨g0, g1, g2, g3, g4, g5, g6, g7⟩ := tgeo_cells pg4
  have hlg := pg4.lt
  go_wp2_with fail
  clear g0 g1 g2 g3 g4 g5 g6 g7 hlg
  obtain ⟨W5, hW5⟩ : ∃ W, W = w4.alloc (.cells #[.int .i64 17, .int .i64 0, .int .i64 1, .int .i8 2, .int .i64 18, .int .i64 1, .int .i64 1, .int .i8 1] 43) := ⟨_, rfl⟩
  have e5 : W5.heap.size = w4.heap.size + 1 := by rw [hW5]; simp
  rw [← hW5] at bq pq bt pt ⊢
  rw [e5] at pt bt
  obtain ⟨W6, hW6⟩ : ∃ W, W = W5.alloc (.cells #[.slice (some ⟨w.heap.size + 1, 0, none⟩) 3 3, .slice (some ⟨w2.heap.size, 0, none⟩) 1 1, .slice (some ⟨w4.heap.size, 0, none⟩) 2 2] 29) := ⟨_, rfl⟩
  rw [← hW6] at bt pt ⊢
  clear hW5 hW6
  rw [← e5] at bt
  have b45 := below_then bq bt
  have b6 := below_then b4 b45
  have pg6 := pg4.below b45 pg4.lt
  have ps6 := ps4.below b45 ps4.lt
  have ph6 := ph4.below b45 ph4.lt
  have pq6 := pq.below bt pq.lt
  have hT : TabAt W6 (.agg #[.slice (some ⟨w.heap.size + 1, 0, none⟩) 3 3, .slice (some ⟨w2.heap.size, 0, none⟩) 1 1, .slice (some ⟨w4.heap.size, 0, none⟩) 2 2]) exT := ⟨_, _, _, rfl, ⟨_, 3, rfl, ⟨rfl, lies_blk ps6 rfl rfl⟩, by decide, by decide, fun h => by cases h⟩, ⟨_, 1, rfl, ⟨rfl, lies_blk ph6 rfl rfl⟩, by decide, by decide, fun h => by cases h⟩, ⟨_, 2, rfl, ⟨rfl, lies_blk pq6 rfl rfl⟩, by decide, by decide, fun h => by cases h⟩⟩
  have HT := Lib.hid hT
  clear bq pq bt b45 b4 pg4 ps4 ph4 ps6 ph6 pq6 e5 hT
  refine (tApply_any 0 3 4 0 0 0 0 0 _ exT 3 16 0 0 0 0 3 0 _ HT.out ⟨by decide, by decide, by decide⟩ ⟨by decide, by decide⟩ ⟨3, (mayTB_iff (n := 3)).1 ex_may⟩).mono ?_
  rintro e w7 ⟨v7, rfl, T7, hb7⟩
  rw [hex.out] at T7
  obtain ⟨vS, vH, vQ, rfl, ⟨aS, cS, rfl, _⟩, ⟨aH, cH, rfl, lH, _⟩, ⟨aQ, cQ, rfl, lQ, _⟩⟩ := T7
  rw [show exO.sl.length = 3 from rfl, show exO.ho.length = 1 from rfl, show exO.qu.length = 1 from rfl] at *
  have pg7 := pg6.below hb7 pg6.lt
  have pt7 := pt.below hb7 pt.lt
  have b7 := below_then b6 hb7
  have HT7 := Lib.hid (HT.out.below hb7)
  clear hb7 pg6 pt b6 HT
  obtain ⟨g0, g1, g2, g3, g4, g5, g6, g7⟩ := tgeo_cells pg7
  obtain ⟨t0, t1, t2⟩ := tcells pt7
  have hlg := pg7.lt
  have hlt := pt7.lt
  go_wp2_with fail
  have po := Blk.new w7 #[.slice aS 3 cS, .slice aH 1 cH, .slice aQ 1 cQ] 29
  have bo := one_new w7 (.cells #[.slice aS 3 cS, .slice aH 1 cH, .slice aQ 1 cQ] 29)
  have pg8 := pg7.below bo pg7.lt
  have pt8 := pt7.below bo pt7.lt
  have b8 := below_then b7 bo
  have HT8 := Lib.hid (HT7.out.below bo)
  have lH8 := lH.below bo
  have lQ8 := lQ.below bo
  obtain ⟨o, ho⟩ : ∃ o, w7.heap.size = o := ⟨_, rfl⟩
  rw [ho] at po ⊢
  obtain ⟨W8, hW8⟩ : ∃ W, W = w7.alloc (.cells #[.slice aS 3 cS, .slice aH 1 cH, .slice aQ 1 cQ] 29) := ⟨_, rfl⟩
  rw [← hW8] at po pg8 pt8 b8 HT8 lH8 lQ8 ⊢
  clear hW8 bo pg7 pt7 b7 HT7 lH lQ g0 g1 g2 g3 g4 g5 g6 g7 t0 t1 t2 hlg hlt ho
  refine (tMay_any 0 3 4 0 0 0 0 0 _ exT _ HT8.out ⟨by decide, by decide, by decide⟩ 3 rfl ((mayTB_iff (n := 3)).1 ex_may) ex_keys).mono ?_
  rintro e w9 ⟨rfl, hb9⟩
  have pg9 := pg8.below hb9 pg8.lt
  have pt9 := pt8.below hb9 pt8.lt
  have po9 := po.below hb9 po.lt
  have b9 := below_then b8 hb9
  obtain ⟨aH', eH, hH1, d0, _⟩ := hol_cells (lH8.below hb9) (by decide : 0 < 1) (by decide : 0 < exO.ho.length)
  obtain ⟨aQ', eQ, hQ1, f0, _⟩ := hol_cells (lQ8.below hb9) (by decide : 0 < 1) (by decide : 0 < exO.qu.length)
  subst eH eQ
  rw [show (exO.ho[0]'(by decide)).key = 17 from rfl] at d0
  rw [show (exO.qu[0]'(by decide)).key = 18 from rfl] at f0
  rw [show aH'.add (0 * 4) = aH' by simp [Addr.add]] at d0
  rw [show aQ'.add (0 * 4) = aQ' by simp [Addr.add]] at f0
  obtain ⟨g0, g1, g2, g3, g4, g5, g6, g7⟩ := tgeo_cells pg9
  obtain ⟨t0, t1, t2⟩ := tcells pt9
  obtain ⟨o0, o1, o2⟩ := tcells po9
  have hlg := pg9.lt
  have hlt := pt9.lt
  have hlo := po9.lt
  clear po pg8 pt8 b8 HT8 lH8 lQ8 hb9
  go_wp2_with fail
  refine (tNew_any 0 3 4 0 0 0 0 0 _ (by decide) (by decide)).mono ?_
  rintro e wa ⟨va, rfl, Ta, hba⟩
  obtain ⟨bS, dS, bH, dH, bQ, dQ, rfl⟩ := Ta.shape
  rw [show (newT (Int.toNat 3)).sl.length = 3 from rfl, show (newT (Int.toNat 3)).ho.length = 0 from rfl, show (newT (Int.toNat 3)).qu.length = 0 from rfl]
  have hfd : ∀ W : World, (Instr.field 29 (.agg #[.slice bS 3 dS, .slice bH 0 dH, .slice bQ 0 dQ]) 0).run Try.prog W = .ok (.slice bS 3 dS) W := fun _ => by kernel_rfl
  have ba := below_then b9 hba
  clear Ta g0 g1 g2 g3 g4 g5 g6 g7 t0 t1 t2 o0 o1 o2 d0 f0 hlg hlt hlo pg9 pt9 po9 b9 hba
  go_wp2_with fail
  go_ret
  exact ⟨rfl, ba⟩

end Go.Proofs.Ytjknloaolennoaa
