/-
  geo: what stands at a sector: the program's way.
-/
import Derived.Test.YtaegkpfjopajpaaDoorGeoCalls
import Derived.Deep.CutBlock
namespace Go.Proofs.YtaegkpfjopajpaaDoor
open Go.RowKit
set_option linter.unusedVariables false
set_option linter.unusedSimpArgs false

/-- The regions in the order in which they are asked; the slots' stands apart. -/
def fiveS (g : G) (k : Int) : St := if k = 0 then superS g else if k = 1 then leaseS g else if k = 2 then ballotS g else if k = 3 then logS g else dataS g
def fiveK (k : Int) : Int := if k = 0 then 1 else if k = 1 then 2 else if k = 2 then 3 else if k = 3 then 4 else 7
/-- None of those asked so far has the sector. -/
def NotYet (g : G) (x k : Int) : Prop := ∀ q, 0 ≤ q → q < k → hasV (fiveS g q) x = false
theorem NotYet.zero (g : G) (x : Int) : NotYet g x 0 := fun q h1 h2 => by omega
theorem NotYet.succ {g : G} {x k : Int} (h : NotYet g x k) (hk : hasV (fiveS g k) x = false) : NotYet g x (k + 1) := fun q h1 h2 => by
  by_cases hq : q = k
  · subst hq; exact hk
  · exact h q h1 (by omega)
theorem what_0 {g : G} {x : Int} (h : NotYet g x 0) (hk : hasV (superS g) x = true) : whatV g x = plainW (superS g) (kOf (mayG g) 1) x := by
  unfold whatV; rw [if_pos hk]
theorem what_1 {g : G} {x : Int} (h : NotYet g x 1) (hk : hasV (leaseS g) x = true) : whatV g x = plainW (leaseS g) (kOf (mayG g) 2) x := by
  unfold whatV; rw [if_neg (by rw [show hasV (superS g) x = false from h 0 (by omega) (by omega)]; simp)]; rw [if_pos hk]
theorem what_2 {g : G} {x : Int} (h : NotYet g x 2) (hk : hasV (ballotS g) x = true) : whatV g x = plainW (ballotS g) (kOf (mayG g) 3) x := by
  unfold whatV; rw [if_neg (by rw [show hasV (superS g) x = false from h 0 (by omega) (by omega)]; simp)]; rw [if_neg (by rw [show hasV (leaseS g) x = false from h 1 (by omega) (by omega)]; simp)]; rw [if_pos hk]
theorem what_3 {g : G} {x : Int} (h : NotYet g x 3) (hk : hasV (logS g) x = true) : whatV g x = plainW (logS g) (kOf (mayG g) 4) x := by
  unfold whatV; rw [if_neg (by rw [show hasV (superS g) x = false from h 0 (by omega) (by omega)]; simp)]; rw [if_neg (by rw [show hasV (leaseS g) x = false from h 1 (by omega) (by omega)]; simp)]; rw [if_neg (by rw [show hasV (ballotS g) x = false from h 2 (by omega) (by omega)]; simp)]; rw [if_pos hk]
theorem what_4 {g : G} {x : Int} (h : NotYet g x 4) (hk : hasV (dataS g) x = true) : whatV g x = plainW (dataS g) (kOf (mayG g) 7) x := by
  unfold whatV; rw [if_neg (by rw [show hasV (superS g) x = false from h 0 (by omega) (by omega)]; simp)]; rw [if_neg (by rw [show hasV (leaseS g) x = false from h 1 (by omega) (by omega)]; simp)]; rw [if_neg (by rw [show hasV (ballotS g) x = false from h 2 (by omega) (by omega)]; simp)]; rw [if_neg (by rw [show hasV (logS g) x = false from h 3 (by omega) (by omega)]; simp)]; rw [if_pos hk]
theorem what_5 {g : G} {x : Int} (h : NotYet g x 5) (hk : hasV (slotS g) x = true) : whatV g x = slotW (slotS g) x := by
  unfold whatV; rw [if_neg (by rw [show hasV (superS g) x = false from h 0 (by omega) (by omega)]; simp)]; rw [if_neg (by rw [show hasV (leaseS g) x = false from h 1 (by omega) (by omega)]; simp)]; rw [if_neg (by rw [show hasV (ballotS g) x = false from h 2 (by omega) (by omega)]; simp)]; rw [if_neg (by rw [show hasV (logS g) x = false from h 3 (by omega) (by omega)]; simp)]; rw [if_neg (by rw [show hasV (dataS g) x = false from h 4 (by omega) (by omega)]; simp)]; rw [if_pos hk]
theorem what_6 {g : G} {x : Int} (h : NotYet g x 5) (hk : hasV (slotS g) x = false) : whatV g x = ⟨0, 0, 0⟩ := by
  unfold whatV; rw [if_neg (by rw [show hasV (superS g) x = false from h 0 (by omega) (by omega)]; simp)]; rw [if_neg (by rw [show hasV (leaseS g) x = false from h 1 (by omega) (by omega)]; simp)]; rw [if_neg (by rw [show hasV (ballotS g) x = false from h 2 (by omega) (by omega)]; simp)]; rw [if_neg (by rw [show hasV (logS g) x = false from h 3 (by omega) (by omega)]; simp)]; rw [if_neg (by rw [show hasV (dataS g) x = false from h 4 (by omega) (by omega)]; simp)]; rw [if_neg (by rw [hk]; simp)]

theorem idx_0 (g : G) : ∀ W : World, (Instr.index 96 (.agg #[.int .i64 (superS g).f, .int .i64 (superS g).t, .int .i64 (superS g).e, .int .i8 (kOf (mayG g) 1), .int .i64 (leaseS g).f, .int .i64 (leaseS g).t, .int .i64 (leaseS g).e, .int .i8 (kOf (mayG g) 2), .int .i64 (ballotS g).f, .int .i64 (ballotS g).t, .int .i64 (ballotS g).e, .int .i8 (kOf (mayG g) 3), .int .i64 (logS g).f, .int .i64 (logS g).t, .int .i64 (logS g).e, .int .i8 (kOf (mayG g) 4), .int .i64 (dataS g).f, .int .i64 (dataS g).t, .int .i64 (dataS g).e, .int .i8 (kOf (mayG g) 7)]) (.int .i64 0)).run Tryd.prog W = .ok (.agg #[.int .i64 (superS g).f, .int .i64 (superS g).t, .int .i64 (superS g).e, .int .i8 (kOf (mayG g) 1)]) W := fun _ => by kernel_rfl
theorem idx_1 (g : G) : ∀ W : World, (Instr.index 96 (.agg #[.int .i64 (superS g).f, .int .i64 (superS g).t, .int .i64 (superS g).e, .int .i8 (kOf (mayG g) 1), .int .i64 (leaseS g).f, .int .i64 (leaseS g).t, .int .i64 (leaseS g).e, .int .i8 (kOf (mayG g) 2), .int .i64 (ballotS g).f, .int .i64 (ballotS g).t, .int .i64 (ballotS g).e, .int .i8 (kOf (mayG g) 3), .int .i64 (logS g).f, .int .i64 (logS g).t, .int .i64 (logS g).e, .int .i8 (kOf (mayG g) 4), .int .i64 (dataS g).f, .int .i64 (dataS g).t, .int .i64 (dataS g).e, .int .i8 (kOf (mayG g) 7)]) (.int .i64 1)).run Tryd.prog W = .ok (.agg #[.int .i64 (leaseS g).f, .int .i64 (leaseS g).t, .int .i64 (leaseS g).e, .int .i8 (kOf (mayG g) 2)]) W := fun _ => by kernel_rfl
theorem idx_2 (g : G) : ∀ W : World, (Instr.index 96 (.agg #[.int .i64 (superS g).f, .int .i64 (superS g).t, .int .i64 (superS g).e, .int .i8 (kOf (mayG g) 1), .int .i64 (leaseS g).f, .int .i64 (leaseS g).t, .int .i64 (leaseS g).e, .int .i8 (kOf (mayG g) 2), .int .i64 (ballotS g).f, .int .i64 (ballotS g).t, .int .i64 (ballotS g).e, .int .i8 (kOf (mayG g) 3), .int .i64 (logS g).f, .int .i64 (logS g).t, .int .i64 (logS g).e, .int .i8 (kOf (mayG g) 4), .int .i64 (dataS g).f, .int .i64 (dataS g).t, .int .i64 (dataS g).e, .int .i8 (kOf (mayG g) 7)]) (.int .i64 2)).run Tryd.prog W = .ok (.agg #[.int .i64 (ballotS g).f, .int .i64 (ballotS g).t, .int .i64 (ballotS g).e, .int .i8 (kOf (mayG g) 3)]) W := fun _ => by kernel_rfl
theorem idx_3 (g : G) : ∀ W : World, (Instr.index 96 (.agg #[.int .i64 (superS g).f, .int .i64 (superS g).t, .int .i64 (superS g).e, .int .i8 (kOf (mayG g) 1), .int .i64 (leaseS g).f, .int .i64 (leaseS g).t, .int .i64 (leaseS g).e, .int .i8 (kOf (mayG g) 2), .int .i64 (ballotS g).f, .int .i64 (ballotS g).t, .int .i64 (ballotS g).e, .int .i8 (kOf (mayG g) 3), .int .i64 (logS g).f, .int .i64 (logS g).t, .int .i64 (logS g).e, .int .i8 (kOf (mayG g) 4), .int .i64 (dataS g).f, .int .i64 (dataS g).t, .int .i64 (dataS g).e, .int .i8 (kOf (mayG g) 7)]) (.int .i64 3)).run Tryd.prog W = .ok (.agg #[.int .i64 (logS g).f, .int .i64 (logS g).t, .int .i64 (logS g).e, .int .i8 (kOf (mayG g) 4)]) W := fun _ => by kernel_rfl
theorem idx_4 (g : G) : ∀ W : World, (Instr.index 96 (.agg #[.int .i64 (superS g).f, .int .i64 (superS g).t, .int .i64 (superS g).e, .int .i8 (kOf (mayG g) 1), .int .i64 (leaseS g).f, .int .i64 (leaseS g).t, .int .i64 (leaseS g).e, .int .i8 (kOf (mayG g) 2), .int .i64 (ballotS g).f, .int .i64 (ballotS g).t, .int .i64 (ballotS g).e, .int .i8 (kOf (mayG g) 3), .int .i64 (logS g).f, .int .i64 (logS g).t, .int .i64 (logS g).e, .int .i8 (kOf (mayG g) 4), .int .i64 (dataS g).f, .int .i64 (dataS g).t, .int .i64 (dataS g).e, .int .i8 (kOf (mayG g) 7)]) (.int .i64 4)).run Tryd.prog W = .ok (.agg #[.int .i64 (dataS g).f, .int .i64 (dataS g).t, .int .i64 (dataS g).e, .int .i8 (kOf (mayG g) 7)]) W := fun _ => by kernel_rfl

/-- The regions lie in a block of the call's own. -/
def LayAt (g : G) (b : Nat) (W : World) : Prop := W.cell? ⟨b, 0, none⟩ = some (.int .i64 (superS g).f) ∧ W.cell? ⟨b, 1, none⟩ = some (.int .i64 (superS g).t) ∧ W.cell? ⟨b, 2, none⟩ = some (.int .i64 (superS g).e) ∧ W.cell? ⟨b, 3, none⟩ = some (.int .i8 (kOf (mayG g) 1)) ∧ W.cell? ⟨b, 4, none⟩ = some (.int .i64 (leaseS g).f) ∧ W.cell? ⟨b, 5, none⟩ = some (.int .i64 (leaseS g).t) ∧ W.cell? ⟨b, 6, none⟩ = some (.int .i64 (leaseS g).e) ∧ W.cell? ⟨b, 7, none⟩ = some (.int .i8 (kOf (mayG g) 2)) ∧ W.cell? ⟨b, 8, none⟩ = some (.int .i64 (ballotS g).f) ∧ W.cell? ⟨b, 9, none⟩ = some (.int .i64 (ballotS g).t) ∧ W.cell? ⟨b, 10, none⟩ = some (.int .i64 (ballotS g).e) ∧ W.cell? ⟨b, 11, none⟩ = some (.int .i8 (kOf (mayG g) 3)) ∧ W.cell? ⟨b, 12, none⟩ = some (.int .i64 (logS g).f) ∧ W.cell? ⟨b, 13, none⟩ = some (.int .i64 (logS g).t) ∧ W.cell? ⟨b, 14, none⟩ = some (.int .i64 (logS g).e) ∧ W.cell? ⟨b, 15, none⟩ = some (.int .i8 (kOf (mayG g) 4)) ∧ W.cell? ⟨b, 16, none⟩ = some (.int .i64 (slotS g).f) ∧ W.cell? ⟨b, 17, none⟩ = some (.int .i64 (slotS g).t) ∧ W.cell? ⟨b, 18, none⟩ = some (.int .i64 (slotS g).e) ∧ W.cell? ⟨b, 19, none⟩ = some (.int .i64 (dataS g).f) ∧ W.cell? ⟨b, 20, none⟩ = some (.int .i64 (dataS g).t) ∧ W.cell? ⟨b, 21, none⟩ = some (.int .i64 (dataS g).e) ∧ W.cell? ⟨b, 22, none⟩ = some (.int .i8 (kOf (mayG g) 7))
theorem layAt_of {g : G} {b : Nat} {W : World} (h : W.rangeAt b 0 (layA g).toList) : LayAt g b W := by
  have key : ∀ (j : Nat) (v : Value), (layA g).toList[j]? = some v → W.cell? ⟨b, j, none⟩ = some v := fun j v hv => by
    have := h j v hv
    rwa [Nat.zero_add] at this
  exact ⟨key 0 _ rfl, key 1 _ rfl, key 2 _ rfl, key 3 _ rfl, key 4 _ rfl, key 5 _ rfl, key 6 _ rfl, key 7 _ rfl, key 8 _ rfl, key 9 _ rfl, key 10 _ rfl, key 11 _ rfl, key 12 _ rfl, key 13 _ rfl, key 14 _ rfl, key 15 _ rfl, key 16 _ rfl, key 17 _ rfl, key 18 _ rfl, key 19 _ rfl, key 20 _ rfl, key 21 _ rfl, key 22 _ rfl⟩

theorem layAt_below {g : G} {b : Nat} {W W' : World} (h : LayAt g b W) (hb : Below W.heap.size W W') (hlt : b < W.heap.size) : LayAt g b W' := by
  have key : ∀ o, W'.cell? ⟨b, o, none⟩ = W.cell? ⟨b, o, none⟩ := fun o => hb.cell (p := ⟨b, o, none⟩) hlt
  unfold LayAt at h ⊢
  simp only [key]
  exact h

set_option maxRecDepth 100000 in
set_option maxHeartbeats 4000000 in
theorem what_g (g : G) (x : Int) (w : World) :
    Calls Tryd.prog 54 #[.agg #[.int .i64 g.N, .int .i64 g.S, .int .i64 g.B, .int .i64 g.P, .int .i64 g.J, .int .i64 g.L, .int .i64 g.E, .int .i64 g.T], .int .i64 x] w fun e w' => e = .returned (.tuple #[.int .i8 (whatV g x).k, .int .i64 (whatV g x).a, .int .i64 (whatV g x).b]) ∧ Below w.heap.size w w' := by
  go_enter Tryd.func54, Tryd.ntmps54
  go_wp2_with fail
  refine (lay_any g _).mono ?_
  rintro e w1 ⟨rfl, hb⟩
  have hth : (w1.alloc (.cells zeroA 80)).there w1.heap.size 0 (layA g).size := (Blk.new w1 zeroA 80).there
  have hB0 := boxed hb
  have hle := hB0.size
  clear hb
  go_upto_region 2 with (refine wpList_store_mid (op := ⟨none, .store 80 _ _, _, _, _, none⟩) rfl 80 _ _ (by rfl) w1.heap.size 0 (layA g) (by rfl) (by rfl) (by assumption) (by kernel_rfl) (by kernel_rfl) ?_)
  have hr := World.rangeAt_setCells_same _ _ _ (layA g).toList hth
  have hB1 : Below w.heap.size w ((w1.alloc (.cells zeroA 80)).setCells w1.heap.size 0 (layA g).toList) := setCells_below _ _ (hB0.alloc hle _) hle
  clear hth
  unfold zeroA at hr hB1
  generalize (w1.alloc _).setCells _ _ _ = W0 at hr hB1 ⊢
  have hL := layAt_of hr
  generalize w1.heap.size = b at *
  have hlt : b < W0.heap.size := World.block_lt_of_cell? W0 _ hL.1
  have HL := Lib.hid hL
  have HB := Lib.hid hB1
  clear hr hB0 hB1
  unfold LayAt at hL
  go_upto_block 1 with fail
  clear hL
  go_loopw [23] (fun i wr => ∃ k : Int, 0 ≤ k ∧ k ≤ 5 ∧ i = .int .i64 k ∧ Hid (NotYet g x k) ∧ Below W0.heap.size W0 wr) (fun i _ => (5 - intOf i).toNat)
  case atStart => exact ⟨0, by omega, by omega, rfl, NotYet.zero g x, Below.refl _ _⟩
  case round =>
    obtain ⟨k, hk0, hk5, rfl, HN, hb⟩ := hrel
    rcases (show k = 0 ∨ k = 1 ∨ k = 2 ∨ k = 3 ∨ k = 4 ∨ k = 5 by omega) with rfl | rfl | rfl | rfl | rfl | rfl
    · by_cases hh : hasV (superS g) x = true
      · have HV := Lib.hid (what_0 HN.out hh)
        have HH := Lib.hid hh
        have hi := idx_0 g
        clear hk0 hk5 hh
        go_wp2_with fail
        refine (has_any (superS g) x (superS_small g) _).mono ?_
        rintro e w2 ⟨rfl, hb2⟩
        rw [HH.out]
        obtain ⟨hc, hf⟩ := bcell hb2
        go_wp2_with fail
        refine (plainWhat_any (superS g) (kOf (mayG g) 1) x (superS_small g) HH.out _).mono ?_
        rintro e w3 ⟨rfl, hb3⟩
        go_wp2_with fail
        go_ret3
        exact ⟨by rw [HV.out]; rfl, below_then (below_then (below_then HB.out hb) (boxed hb2)) hb3⟩
      · have hh' : hasV (superS g) x = false := by simpa using hh
        have HN1 := Lib.hid (HN.out.succ (show hasV (fiveS g 0) x = false from hh'))
        have HH := Lib.hid hh'
        have hi := idx_0 g
        clear hk0 hk5 hh hh'
        go_wp2_with fail
        refine (has_any (superS g) x (superS_small g) _).mono ?_
        rintro e w2 ⟨rfl, hb2⟩
        rw [HH.out]
        go_wp2_with fail
        go_roundw
        case rel => exact ⟨1, by omega, by omega, rfl, HN1, below_then hb (boxed hb2)⟩
        case measure => simp [intOf]
    · by_cases hh : hasV (leaseS g) x = true
      · have HV := Lib.hid (what_1 HN.out hh)
        have HH := Lib.hid hh
        have hi := idx_1 g
        clear hk0 hk5 hh
        go_wp2_with fail
        refine (has_any (leaseS g) x (leaseS_small g) _).mono ?_
        rintro e w2 ⟨rfl, hb2⟩
        rw [HH.out]
        obtain ⟨hc, hf⟩ := bcell hb2
        go_wp2_with fail
        refine (plainWhat_any (leaseS g) (kOf (mayG g) 2) x (leaseS_small g) HH.out _).mono ?_
        rintro e w3 ⟨rfl, hb3⟩
        go_wp2_with fail
        go_ret3
        exact ⟨by rw [HV.out]; rfl, below_then (below_then (below_then HB.out hb) (boxed hb2)) hb3⟩
      · have hh' : hasV (leaseS g) x = false := by simpa using hh
        have HN1 := Lib.hid (HN.out.succ (show hasV (fiveS g 1) x = false from hh'))
        have HH := Lib.hid hh'
        have hi := idx_1 g
        clear hk0 hk5 hh hh'
        go_wp2_with fail
        refine (has_any (leaseS g) x (leaseS_small g) _).mono ?_
        rintro e w2 ⟨rfl, hb2⟩
        rw [HH.out]
        go_wp2_with fail
        go_roundw
        case rel => exact ⟨2, by omega, by omega, rfl, HN1, below_then hb (boxed hb2)⟩
        case measure => simp [intOf]
    · by_cases hh : hasV (ballotS g) x = true
      · have HV := Lib.hid (what_2 HN.out hh)
        have HH := Lib.hid hh
        have hi := idx_2 g
        clear hk0 hk5 hh
        go_wp2_with fail
        refine (has_any (ballotS g) x (ballotS_small g) _).mono ?_
        rintro e w2 ⟨rfl, hb2⟩
        rw [HH.out]
        obtain ⟨hc, hf⟩ := bcell hb2
        go_wp2_with fail
        refine (plainWhat_any (ballotS g) (kOf (mayG g) 3) x (ballotS_small g) HH.out _).mono ?_
        rintro e w3 ⟨rfl, hb3⟩
        go_wp2_with fail
        go_ret3
        exact ⟨by rw [HV.out]; rfl, below_then (below_then (below_then HB.out hb) (boxed hb2)) hb3⟩
      · have hh' : hasV (ballotS g) x = false := by simpa using hh
        have HN1 := Lib.hid (HN.out.succ (show hasV (fiveS g 2) x = false from hh'))
        have HH := Lib.hid hh'
        have hi := idx_2 g
        clear hk0 hk5 hh hh'
        go_wp2_with fail
        refine (has_any (ballotS g) x (ballotS_small g) _).mono ?_
        rintro e w2 ⟨rfl, hb2⟩
        rw [HH.out]
        go_wp2_with fail
        go_roundw
        case rel => exact ⟨3, by omega, by omega, rfl, HN1, below_then hb (boxed hb2)⟩
        case measure => simp [intOf]
    · by_cases hh : hasV (logS g) x = true
      · have HV := Lib.hid (what_3 HN.out hh)
        have HH := Lib.hid hh
        have hi := idx_3 g
        clear hk0 hk5 hh
        go_wp2_with fail
        refine (has_any (logS g) x (logS_small g) _).mono ?_
        rintro e w2 ⟨rfl, hb2⟩
        rw [HH.out]
        obtain ⟨hc, hf⟩ := bcell hb2
        go_wp2_with fail
        refine (plainWhat_any (logS g) (kOf (mayG g) 4) x (logS_small g) HH.out _).mono ?_
        rintro e w3 ⟨rfl, hb3⟩
        go_wp2_with fail
        go_ret3
        exact ⟨by rw [HV.out]; rfl, below_then (below_then (below_then HB.out hb) (boxed hb2)) hb3⟩
      · have hh' : hasV (logS g) x = false := by simpa using hh
        have HN1 := Lib.hid (HN.out.succ (show hasV (fiveS g 3) x = false from hh'))
        have HH := Lib.hid hh'
        have hi := idx_3 g
        clear hk0 hk5 hh hh'
        go_wp2_with fail
        refine (has_any (logS g) x (logS_small g) _).mono ?_
        rintro e w2 ⟨rfl, hb2⟩
        rw [HH.out]
        go_wp2_with fail
        go_roundw
        case rel => exact ⟨4, by omega, by omega, rfl, HN1, below_then hb (boxed hb2)⟩
        case measure => simp [intOf]
    · by_cases hh : hasV (dataS g) x = true
      · have HV := Lib.hid (what_4 HN.out hh)
        have HH := Lib.hid hh
        have hi := idx_4 g
        clear hk0 hk5 hh
        go_wp2_with fail
        refine (has_any (dataS g) x (dataS_small g) _).mono ?_
        rintro e w2 ⟨rfl, hb2⟩
        rw [HH.out]
        obtain ⟨hc, hf⟩ := bcell hb2
        go_wp2_with fail
        refine (plainWhat_any (dataS g) (kOf (mayG g) 7) x (dataS_small g) HH.out _).mono ?_
        rintro e w3 ⟨rfl, hb3⟩
        go_wp2_with fail
        go_ret3
        exact ⟨by rw [HV.out]; rfl, below_then (below_then (below_then HB.out hb) (boxed hb2)) hb3⟩
      · have hh' : hasV (dataS g) x = false := by simpa using hh
        have HN1 := Lib.hid (HN.out.succ (show hasV (fiveS g 4) x = false from hh'))
        have HH := Lib.hid hh'
        have hi := idx_4 g
        clear hk0 hk5 hh hh'
        go_wp2_with fail
        refine (has_any (dataS g) x (dataS_small g) _).mono ?_
        rintro e w2 ⟨rfl, hb2⟩
        rw [HH.out]
        go_wp2_with fail
        go_roundw
        case rel => exact ⟨5, by omega, by omega, rfl, HN1, below_then hb (boxed hb2)⟩
        case measure => simp [intOf]
    · by_cases hh : hasV (slotS g) x = true
      · have HV := Lib.hid (what_5 HN.out hh)
        have HH := Lib.hid hh
        have hL : LayAt g b wr := layAt_below HL.out hb hlt
        unfold LayAt at hL
        clear hk0 hk5 hh
        go_wp2_with fail
        refine (has_any (slotS g) x (slotS_small g) _).mono ?_
        rintro e w2 ⟨rfl, hb2⟩
        rw [HH.out]
        clear hL
        have hL : LayAt g b w2 := layAt_below (layAt_below HL.out hb hlt) hb2 (by have := hb.size; omega)
        unfold LayAt at hL
        go_wp2_with fail
        refine (slotWhat_any (slotS g) x (slotS_small g) HH.out _).mono ?_
        rintro e w3 ⟨rfl, hb3⟩
        go_wp2_with fail
        go_ret3
        exact ⟨by rw [HV.out]; rfl, below_then (below_then (below_then HB.out hb) hb2) hb3⟩
      · have hh' : hasV (slotS g) x = false := by simpa using hh
        have HV := Lib.hid (what_6 HN.out hh')
        have HH := Lib.hid hh'
        have hL : LayAt g b wr := layAt_below HL.out hb hlt
        unfold LayAt at hL
        clear hk0 hk5 hh hh'
        go_wp2_with fail
        refine (has_any (slotS g) x (slotS_small g) _).mono ?_
        rintro e w2 ⟨rfl, hb2⟩
        rw [HH.out]
        clear hL
        go_wp2_with fail
        go_ret3
        exact ⟨by rw [HV.out]; rfl, below_then (below_then HB.out hb) hb2⟩

end Go.Proofs.YtaegkpfjopajpaaDoor
