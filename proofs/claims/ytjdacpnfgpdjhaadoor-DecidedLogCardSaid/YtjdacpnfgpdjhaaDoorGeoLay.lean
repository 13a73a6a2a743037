/-
  geo: the regions laid one behind the other.
-/
import Derived.Test.YtjdacpnfgpdjhaaDoorGeoLeaf
import Derived.Deep.DeepCutAuto
namespace Go.Proofs.YtjdacpnfgpdjhaaDoor
open Go.RowKit
set_option linter.unusedVariables false
set_option linter.unusedSimpArgs false

/-- All regions, as they lie in memory: 23 numbers. -/
def layA (g : G) : Array Value := #[.int .i64 (superS g).f, .int .i64 (superS g).t, .int .i64 (superS g).e, .int .i8 (kOf (mayG g) 1),
  .int .i64 (leaseS g).f, .int .i64 (leaseS g).t, .int .i64 (leaseS g).e, .int .i8 (kOf (mayG g) 2),
  .int .i64 (ballotS g).f, .int .i64 (ballotS g).t, .int .i64 (ballotS g).e, .int .i8 (kOf (mayG g) 3),
  .int .i64 (logS g).f, .int .i64 (logS g).t, .int .i64 (logS g).e, .int .i8 (kOf (mayG g) 4),
  .int .i64 (slotS g).f, .int .i64 (slotS g).t, .int .i64 (slotS g).e,
  .int .i64 (dataS g).f, .int .i64 (dataS g).t, .int .i64 (dataS g).e, .int .i8 (kOf (mayG g) 7)]


theorem infoLay : (Tryd.prog.info? 115).map (·.size) = some 23 := by kernel_rfl
def zeroA : Array Value := #[.int .i64 0, .int .i64 0, .int .i64 0, .int .i8 0, .int .i64 0, .int .i64 0, .int .i64 0, .int .i8 0, .int .i64 0, .int .i64 0, .int .i64 0, .int .i8 0,
  .int .i64 0, .int .i64 0, .int .i64 0, .int .i8 0, .int .i64 0, .int .i64 0, .int .i64 0, .int .i64 0, .int .i64 0, .int .i64 0, .int .i8 0]
theorem zeroA_lay {g : G} (h : mayG g = false) : layA g = zeroA := by
  simp [layA, zeroA, superS, leaseS, ballotS, logS, slotS, dataS, stOf_no h, kOf_no h]

set_option maxRecDepth 100000 in
theorem lay_no (g : G) (w : World) (hm : mayG g = false) :
    Calls Tryd.prog 70 #[.agg #[.int .i64 g.N, .int .i64 g.S, .int .i64 g.B, .int .i64 g.P, .int .i64 g.J, .int .i64 g.L, .int .i64 g.E, .int .i64 g.T]] w fun e w' => e = .returned (.agg (layA g)) ∧ Below w.heap.size w w' := by
  have H := Lib.hid hm
  clear hm
  go_enter Tryd.func70, Tryd.ntmps70
  go_wp2_with fail
  refine (may_any g _).mono ?_
  rintro e w1 ⟨rfl, hb⟩
  rw [H.out]
  obtain ⟨hc, hf⟩ := bcell hb
  have h2 : Blk w1 (w.heap.size + 1) zeroA 115 := by
    have h := (Blk.new (w.alloc (.cells #[.int .i64 g.N, .int .i64 g.S, .int .i64 g.B, .int .i64 g.P, .int .i64 g.J, .int .i64 g.L, .int .i64 g.E, .int .i64 g.T] 43)) zeroA 115).below hb (by simp)
    simpa using h
  have hth := h2.there
  have H2 := Lib.hid h2
  clear hc hf h2
  go_upto_region 2 with fail
  go_wp2_with (refine wpList_store_mid (op := ⟨none, .store 115 _ _, _, _, _, none⟩) rfl 115 _ _ (by rfl) (w.heap.size + 1) 0 zeroA (by rfl) (by rfl) (by assumption) (by kernel_rfl) (by kernel_rfl) ?_)
  refine bodyPost_ret (results_cell (cs := zeroA.toList) Tryd.results70 (by rfl) (World.rangeAt_setCells_same _ _ _ _ hth) Tryd.underlying115 rfl (by kernel_rfl)) rfl ⟨by rw [zeroA_lay H.out], ?_⟩
  exact setCells_below _ _ ((((Below.refl _ _).alloc (Nat.le_refl _) _).alloc (by simp) _).trans (hb.mono (by simp; omega))) (by omega)

/-- The regions as numbers: what is laid so far. -/
def GA (g : G) : Array Value := #[.int .i64 g.N, .int .i64 g.S, .int .i64 g.B, .int .i64 g.P, .int .i64 g.J, .int .i64 g.L, .int .i64 g.E, .int .i64 g.T]
def Laid (g : G) (w W : World) (b : Nat) (cs : Array Value) : Prop :=
  Below w.heap.size w W ∧ Blk W w.heap.size (GA g) 43 ∧ Blk W (w.heap.size + 1) zeroA 115 ∧ Blk W b cs 115 ∧ w.heap.size + 1 < b

def L1 (g : G) : Array Value := #[.int .i64 0, .int .i64 1, .int .i64 1, .int .i8 1, .int .i64 0, .int .i64 0, .int .i64 0, .int .i8 0, .int .i64 0, .int .i64 0, .int .i64 0, .int .i8 0, .int .i64 0, .int .i64 0, .int .i64 0, .int .i8 0, .int .i64 0, .int .i64 0, .int .i64 0, .int .i64 0, .int .i64 0, .int .i64 0, .int .i8 0]
def L2 (g : G) : Array Value := #[.int .i64 0, .int .i64 1, .int .i64 1, .int .i8 1, .int .i64 1, .int .i64 g.N, .int .i64 1, .int .i8 2, .int .i64 0, .int .i64 0, .int .i64 0, .int .i8 0, .int .i64 0, .int .i64 0, .int .i64 0, .int .i8 0, .int .i64 0, .int .i64 0, .int .i64 0, .int .i64 0, .int .i64 0, .int .i64 0, .int .i8 0]
def L3 (g : G) : Array Value := #[.int .i64 0, .int .i64 1, .int .i64 1, .int .i8 1, .int .i64 1, .int .i64 g.N, .int .i64 1, .int .i8 2, .int .i64 (1 + g.N), .int .i64 g.N, .int .i64 1, .int .i8 3, .int .i64 0, .int .i64 0, .int .i64 0, .int .i8 0, .int .i64 0, .int .i64 0, .int .i64 0, .int .i64 0, .int .i64 0, .int .i64 0, .int .i8 0]
def L4 (g : G) : Array Value := #[.int .i64 0, .int .i64 1, .int .i64 1, .int .i8 1, .int .i64 1, .int .i64 g.N, .int .i64 1, .int .i8 2, .int .i64 (1 + g.N), .int .i64 g.N, .int .i64 1, .int .i8 3, .int .i64 (1 + 2 * g.N), .int .i64 g.L, .int .i64 1, .int .i8 4, .int .i64 0, .int .i64 0, .int .i64 0, .int .i64 0, .int .i64 0, .int .i64 0, .int .i8 0]
def L5 (g : G) : Array Value := #[.int .i64 0, .int .i64 1, .int .i64 1, .int .i8 1, .int .i64 1, .int .i64 g.N, .int .i64 1, .int .i8 2, .int .i64 (1 + g.N), .int .i64 g.N, .int .i64 1, .int .i8 3, .int .i64 (1 + 2 * g.N), .int .i64 g.L, .int .i64 1, .int .i8 4, .int .i64 (1 + 2 * g.N + g.L), .int .i64 g.S, .int .i64 (1 + g.J), .int .i64 0, .int .i64 0, .int .i64 0, .int .i8 0]
def L6 (g : G) : Array Value := #[.int .i64 0, .int .i64 1, .int .i64 1, .int .i8 1, .int .i64 1, .int .i64 g.N, .int .i64 1, .int .i8 2, .int .i64 (1 + g.N), .int .i64 g.N, .int .i64 1, .int .i8 3, .int .i64 (1 + 2 * g.N), .int .i64 g.L, .int .i64 1, .int .i8 4, .int .i64 (1 + 2 * g.N + g.L), .int .i64 g.S, .int .i64 (1 + g.J), .int .i64 (1 + 2 * g.N + g.L + g.S * (1 + g.J)), .int .i64 g.B, .int .i64 g.P, .int .i8 7]
section
variable {g : G} {w W W' : World} {b o : Nat} {cs : Array Value} {v : Value}
theorem Laid.drew (h : Laid g w W b cs) : Laid g w W.drew b cs := ⟨h.1.drew, h.2.1, h.2.2.1, h.2.2.2.1, h.2.2.2.2⟩
theorem Laid.call (h : Laid g w W b cs) (hb : Below W.heap.size W W') : Laid g w W' b cs :=
  ⟨h.1.trans (hb.mono h.1.size), h.2.1.below hb h.2.1.lt, h.2.2.1.below hb h.2.2.1.lt, h.2.2.2.1.below hb h.2.2.2.1.lt, h.2.2.2.2⟩
theorem Laid.set (h : Laid g w W b cs) (o : Nat) (v : Value) : Laid g w (W.setCell ⟨b, o, none⟩ v) b (cs.setIfInBounds o v) :=
  ⟨h.1.setCell (by have := h.2.2.2.2; show w.heap.size ≤ b; omega) v, h.2.1.other (by have := h.2.2.2.2; omega) o v, h.2.2.1.other (by have := h.2.2.2.2; omega) o v, h.2.2.2.1.set o v, h.2.2.2.2⟩
end

/-- A stretch's end, its number said. -/
theorem end_said (f t e v : Int) (w : World) (hs : 0 ≤ f ∧ f ≤ 4000 ∧ 0 ≤ t ∧ t ≤ 4000 ∧ 0 ≤ e ∧ e ≤ 4000) (hv : f + t * e = v) :
    Calls Tryd.prog 89 #[.agg #[.int .i64 f, .int .i64 t, .int .i64 e]] w fun e w' => e = .returned (.int .i64 v) ∧ Below w.heap.size w w' := by
  subst hv
  exact end_any ⟨f, t, e⟩ hs w

theorem L6_lay {g : G} (h : mayG g = true) : layA g = L6 g := by
  simp [layA, L6, superS, leaseS, ballotS, logS, slotS, dataS, stOf_yes h, kOf_yes h]

theorem s1_of {g : G} {w W : World} {b : Nat} (h : Laid g w W b (L1 g)) : (∃ cs, Laid g w W b cs) ∧ W.cell? ⟨b, 0, none⟩ = some (.int .i64 0) ∧ W.cell? ⟨b, 1, none⟩ = some (.int .i64 1) ∧ W.cell? ⟨b, 2, none⟩ = some (.int .i64 1) ∧ W.cell? ⟨w.heap.size, 0, none⟩ = some (.int .i64 g.N) :=
  ⟨⟨_, h⟩, h.2.2.2.1.cell 0 _ rfl, h.2.2.2.1.cell 1 _ rfl, h.2.2.2.1.cell 2 _ rfl, h.2.1.cell 0 _ rfl⟩
theorem l1_to {g : G} {w W : World} {b : Nat} (h : Laid g w W b (L1 g)) : Laid g w ((((W.setCell ⟨b, 4, none⟩ (.int .i64 1)).setCell ⟨b, 5, none⟩ (.int .i64 g.N)).setCell ⟨b, 6, none⟩ (.int .i64 1)).setCell ⟨b, 7, none⟩ (.int .i8 2)) b (L2 g) := ((((h.set 4 (.int .i64 1)).set 5 (.int .i64 g.N)).set 6 (.int .i64 1)).set 7 (.int .i8 2))
theorem s1_to {g : G} {w W : World} {b : Nat} (h : Laid g w W b (L1 g)) : (∃ cs, Laid g w ((((W.setCell ⟨b, 4, none⟩ (.int .i64 1)).setCell ⟨b, 5, none⟩ (.int .i64 g.N)).setCell ⟨b, 6, none⟩ (.int .i64 1)).setCell ⟨b, 7, none⟩ (.int .i8 2)) b cs) ∧ ((((W.setCell ⟨b, 4, none⟩ (.int .i64 1)).setCell ⟨b, 5, none⟩ (.int .i64 g.N)).setCell ⟨b, 6, none⟩ (.int .i64 1)).setCell ⟨b, 7, none⟩ (.int .i8 2)).cell? ⟨b, 0, none⟩ = some (.int .i64 0) ∧ ((((W.setCell ⟨b, 4, none⟩ (.int .i64 1)).setCell ⟨b, 5, none⟩ (.int .i64 g.N)).setCell ⟨b, 6, none⟩ (.int .i64 1)).setCell ⟨b, 7, none⟩ (.int .i8 2)).cell? ⟨b, 1, none⟩ = some (.int .i64 1) ∧ ((((W.setCell ⟨b, 4, none⟩ (.int .i64 1)).setCell ⟨b, 5, none⟩ (.int .i64 g.N)).setCell ⟨b, 6, none⟩ (.int .i64 1)).setCell ⟨b, 7, none⟩ (.int .i8 2)).cell? ⟨b, 2, none⟩ = some (.int .i64 1) ∧ ((((W.setCell ⟨b, 4, none⟩ (.int .i64 1)).setCell ⟨b, 5, none⟩ (.int .i64 g.N)).setCell ⟨b, 6, none⟩ (.int .i64 1)).setCell ⟨b, 7, none⟩ (.int .i8 2)).cell? ⟨w.heap.size, 0, none⟩ = some (.int .i64 g.N) :=
  ⟨⟨_, l1_to h⟩, (l1_to h).2.2.2.1.cell 0 _ rfl, (l1_to h).2.2.2.1.cell 1 _ rfl, (l1_to h).2.2.2.1.cell 2 _ rfl, (l1_to h).2.1.cell 0 _ rfl⟩
theorem end1 (g : G) (w : World) (b : Nat) (W : World) (hm : Hid (mayG g = true)) (h : Hid (Laid g w W b (L1 g))) :
    Calls Tryd.prog 89 #[.agg #[.int .i64 0, .int .i64 1, .int .i64 1]] W fun e W' => e = .returned (.int .i64 1) ∧ Hid (Laid g w W' b (L1 g)) ∧ (∀ o, W'.frozen? ⟨b, o, none⟩ = false) ∧ W'.cell? ⟨b, 4, none⟩ = some (.int .i64 0) ∧ W'.cell? ⟨b, 5, none⟩ = some (.int .i64 0) ∧ W'.cell? ⟨b, 6, none⟩ = some (.int .i64 0) ∧ W'.cell? ⟨b, 7, none⟩ = some (.int .i8 0) ∧ W'.cell? ⟨b, 0, none⟩ = some (.int .i64 0) ∧ W'.cell? ⟨b, 1, none⟩ = some (.int .i64 1) ∧ W'.cell? ⟨b, 2, none⟩ = some (.int .i64 1) ∧ W'.cell? ⟨w.heap.size, 0, none⟩ = some (.int .i64 g.N) := by
  have hg := of_may hm.out
  have hsb := slots_bd hm.out
  refine (end_said _ _ _ _ W (by omega) ?_).mono fun e W' h' => ⟨h'.1, h.out.call h'.2, fun o => (h.out.call h'.2).2.2.2.1.free o, (h.out.call h'.2).2.2.2.1.cell 4 _ rfl, (h.out.call h'.2).2.2.2.1.cell 5 _ rfl, (h.out.call h'.2).2.2.2.1.cell 6 _ rfl, (h.out.call h'.2).2.2.2.1.cell 7 _ rfl, (h.out.call h'.2).2.2.2.1.cell 0 _ rfl, (h.out.call h'.2).2.2.2.1.cell 1 _ rfl, (h.out.call h'.2).2.2.2.1.cell 2 _ rfl, (h.out.call h'.2).2.1.cell 0 _ rfl⟩
  omega
theorem s2_of {g : G} {w W : World} {b : Nat} (h : Laid g w W b (L2 g)) : (∃ cs, Laid g w W b cs) ∧ W.cell? ⟨b, 4, none⟩ = some (.int .i64 1) ∧ W.cell? ⟨b, 5, none⟩ = some (.int .i64 g.N) ∧ W.cell? ⟨b, 6, none⟩ = some (.int .i64 1) ∧ W.cell? ⟨w.heap.size, 0, none⟩ = some (.int .i64 g.N) :=
  ⟨⟨_, h⟩, h.2.2.2.1.cell 4 _ rfl, h.2.2.2.1.cell 5 _ rfl, h.2.2.2.1.cell 6 _ rfl, h.2.1.cell 0 _ rfl⟩
theorem l2_to {g : G} {w W : World} {b : Nat} (h : Laid g w W b (L2 g)) : Laid g w ((((W.setCell ⟨b, 8, none⟩ (.int .i64 (1 + g.N))).setCell ⟨b, 9, none⟩ (.int .i64 g.N)).setCell ⟨b, 10, none⟩ (.int .i64 1)).setCell ⟨b, 11, none⟩ (.int .i8 3)) b (L3 g) := ((((h.set 8 (.int .i64 (1 + g.N))).set 9 (.int .i64 g.N)).set 10 (.int .i64 1)).set 11 (.int .i8 3))
theorem s2_to {g : G} {w W : World} {b : Nat} (h : Laid g w W b (L2 g)) : (∃ cs, Laid g w ((((W.setCell ⟨b, 8, none⟩ (.int .i64 (1 + g.N))).setCell ⟨b, 9, none⟩ (.int .i64 g.N)).setCell ⟨b, 10, none⟩ (.int .i64 1)).setCell ⟨b, 11, none⟩ (.int .i8 3)) b cs) ∧ ((((W.setCell ⟨b, 8, none⟩ (.int .i64 (1 + g.N))).setCell ⟨b, 9, none⟩ (.int .i64 g.N)).setCell ⟨b, 10, none⟩ (.int .i64 1)).setCell ⟨b, 11, none⟩ (.int .i8 3)).cell? ⟨b, 4, none⟩ = some (.int .i64 1) ∧ ((((W.setCell ⟨b, 8, none⟩ (.int .i64 (1 + g.N))).setCell ⟨b, 9, none⟩ (.int .i64 g.N)).setCell ⟨b, 10, none⟩ (.int .i64 1)).setCell ⟨b, 11, none⟩ (.int .i8 3)).cell? ⟨b, 5, none⟩ = some (.int .i64 g.N) ∧ ((((W.setCell ⟨b, 8, none⟩ (.int .i64 (1 + g.N))).setCell ⟨b, 9, none⟩ (.int .i64 g.N)).setCell ⟨b, 10, none⟩ (.int .i64 1)).setCell ⟨b, 11, none⟩ (.int .i8 3)).cell? ⟨b, 6, none⟩ = some (.int .i64 1) ∧ ((((W.setCell ⟨b, 8, none⟩ (.int .i64 (1 + g.N))).setCell ⟨b, 9, none⟩ (.int .i64 g.N)).setCell ⟨b, 10, none⟩ (.int .i64 1)).setCell ⟨b, 11, none⟩ (.int .i8 3)).cell? ⟨w.heap.size, 0, none⟩ = some (.int .i64 g.N) :=
  ⟨⟨_, l2_to h⟩, (l2_to h).2.2.2.1.cell 4 _ rfl, (l2_to h).2.2.2.1.cell 5 _ rfl, (l2_to h).2.2.2.1.cell 6 _ rfl, (l2_to h).2.1.cell 0 _ rfl⟩
theorem end2 (g : G) (w : World) (b : Nat) (W : World) (hm : Hid (mayG g = true)) (h : Hid (Laid g w W b (L2 g))) :
    Calls Tryd.prog 89 #[.agg #[.int .i64 1, .int .i64 g.N, .int .i64 1]] W fun e W' => e = .returned (.int .i64 (1 + g.N)) ∧ Hid (Laid g w W' b (L2 g)) ∧ (∀ o, W'.frozen? ⟨b, o, none⟩ = false) ∧ W'.cell? ⟨b, 8, none⟩ = some (.int .i64 0) ∧ W'.cell? ⟨b, 9, none⟩ = some (.int .i64 0) ∧ W'.cell? ⟨b, 10, none⟩ = some (.int .i64 0) ∧ W'.cell? ⟨b, 11, none⟩ = some (.int .i8 0) ∧ W'.cell? ⟨b, 4, none⟩ = some (.int .i64 1) ∧ W'.cell? ⟨b, 5, none⟩ = some (.int .i64 g.N) ∧ W'.cell? ⟨b, 6, none⟩ = some (.int .i64 1) ∧ W'.cell? ⟨w.heap.size, 0, none⟩ = some (.int .i64 g.N) := by
  have hg := of_may hm.out
  have hsb := slots_bd hm.out
  refine (end_said _ _ _ _ W (by omega) ?_).mono fun e W' h' => ⟨h'.1, h.out.call h'.2, fun o => (h.out.call h'.2).2.2.2.1.free o, (h.out.call h'.2).2.2.2.1.cell 8 _ rfl, (h.out.call h'.2).2.2.2.1.cell 9 _ rfl, (h.out.call h'.2).2.2.2.1.cell 10 _ rfl, (h.out.call h'.2).2.2.2.1.cell 11 _ rfl, (h.out.call h'.2).2.2.2.1.cell 4 _ rfl, (h.out.call h'.2).2.2.2.1.cell 5 _ rfl, (h.out.call h'.2).2.2.2.1.cell 6 _ rfl, (h.out.call h'.2).2.1.cell 0 _ rfl⟩
  omega
theorem s3_of {g : G} {w W : World} {b : Nat} (h : Laid g w W b (L3 g)) : (∃ cs, Laid g w W b cs) ∧ W.cell? ⟨b, 8, none⟩ = some (.int .i64 (1 + g.N)) ∧ W.cell? ⟨b, 9, none⟩ = some (.int .i64 g.N) ∧ W.cell? ⟨b, 10, none⟩ = some (.int .i64 1) ∧ W.cell? ⟨w.heap.size, 5, none⟩ = some (.int .i64 g.L) :=
  ⟨⟨_, h⟩, h.2.2.2.1.cell 8 _ rfl, h.2.2.2.1.cell 9 _ rfl, h.2.2.2.1.cell 10 _ rfl, h.2.1.cell 5 _ rfl⟩
theorem l3_to {g : G} {w W : World} {b : Nat} (h : Laid g w W b (L3 g)) : Laid g w ((((W.setCell ⟨b, 12, none⟩ (.int .i64 (1 + 2 * g.N))).setCell ⟨b, 13, none⟩ (.int .i64 g.L)).setCell ⟨b, 14, none⟩ (.int .i64 1)).setCell ⟨b, 15, none⟩ (.int .i8 4)) b (L4 g) := ((((h.set 12 (.int .i64 (1 + 2 * g.N))).set 13 (.int .i64 g.L)).set 14 (.int .i64 1)).set 15 (.int .i8 4))
theorem s3_to {g : G} {w W : World} {b : Nat} (h : Laid g w W b (L3 g)) : (∃ cs, Laid g w ((((W.setCell ⟨b, 12, none⟩ (.int .i64 (1 + 2 * g.N))).setCell ⟨b, 13, none⟩ (.int .i64 g.L)).setCell ⟨b, 14, none⟩ (.int .i64 1)).setCell ⟨b, 15, none⟩ (.int .i8 4)) b cs) ∧ ((((W.setCell ⟨b, 12, none⟩ (.int .i64 (1 + 2 * g.N))).setCell ⟨b, 13, none⟩ (.int .i64 g.L)).setCell ⟨b, 14, none⟩ (.int .i64 1)).setCell ⟨b, 15, none⟩ (.int .i8 4)).cell? ⟨b, 8, none⟩ = some (.int .i64 (1 + g.N)) ∧ ((((W.setCell ⟨b, 12, none⟩ (.int .i64 (1 + 2 * g.N))).setCell ⟨b, 13, none⟩ (.int .i64 g.L)).setCell ⟨b, 14, none⟩ (.int .i64 1)).setCell ⟨b, 15, none⟩ (.int .i8 4)).cell? ⟨b, 9, none⟩ = some (.int .i64 g.N) ∧ ((((W.setCell ⟨b, 12, none⟩ (.int .i64 (1 + 2 * g.N))).setCell ⟨b, 13, none⟩ (.int .i64 g.L)).setCell ⟨b, 14, none⟩ (.int .i64 1)).setCell ⟨b, 15, none⟩ (.int .i8 4)).cell? ⟨b, 10, none⟩ = some (.int .i64 1) ∧ ((((W.setCell ⟨b, 12, none⟩ (.int .i64 (1 + 2 * g.N))).setCell ⟨b, 13, none⟩ (.int .i64 g.L)).setCell ⟨b, 14, none⟩ (.int .i64 1)).setCell ⟨b, 15, none⟩ (.int .i8 4)).cell? ⟨w.heap.size, 5, none⟩ = some (.int .i64 g.L) :=
  ⟨⟨_, l3_to h⟩, (l3_to h).2.2.2.1.cell 8 _ rfl, (l3_to h).2.2.2.1.cell 9 _ rfl, (l3_to h).2.2.2.1.cell 10 _ rfl, (l3_to h).2.1.cell 5 _ rfl⟩
theorem end3 (g : G) (w : World) (b : Nat) (W : World) (hm : Hid (mayG g = true)) (h : Hid (Laid g w W b (L3 g))) :
    Calls Tryd.prog 89 #[.agg #[.int .i64 (1 + g.N), .int .i64 g.N, .int .i64 1]] W fun e W' => e = .returned (.int .i64 (1 + 2 * g.N)) ∧ Hid (Laid g w W' b (L3 g)) ∧ (∀ o, W'.frozen? ⟨b, o, none⟩ = false) ∧ W'.cell? ⟨b, 12, none⟩ = some (.int .i64 0) ∧ W'.cell? ⟨b, 13, none⟩ = some (.int .i64 0) ∧ W'.cell? ⟨b, 14, none⟩ = some (.int .i64 0) ∧ W'.cell? ⟨b, 15, none⟩ = some (.int .i8 0) ∧ W'.cell? ⟨b, 8, none⟩ = some (.int .i64 (1 + g.N)) ∧ W'.cell? ⟨b, 9, none⟩ = some (.int .i64 g.N) ∧ W'.cell? ⟨b, 10, none⟩ = some (.int .i64 1) ∧ W'.cell? ⟨w.heap.size, 5, none⟩ = some (.int .i64 g.L) := by
  have hg := of_may hm.out
  have hsb := slots_bd hm.out
  refine (end_said _ _ _ _ W (by omega) ?_).mono fun e W' h' => ⟨h'.1, h.out.call h'.2, fun o => (h.out.call h'.2).2.2.2.1.free o, (h.out.call h'.2).2.2.2.1.cell 12 _ rfl, (h.out.call h'.2).2.2.2.1.cell 13 _ rfl, (h.out.call h'.2).2.2.2.1.cell 14 _ rfl, (h.out.call h'.2).2.2.2.1.cell 15 _ rfl, (h.out.call h'.2).2.2.2.1.cell 8 _ rfl, (h.out.call h'.2).2.2.2.1.cell 9 _ rfl, (h.out.call h'.2).2.2.2.1.cell 10 _ rfl, (h.out.call h'.2).2.1.cell 5 _ rfl⟩
  omega
theorem s4_of {g : G} {w W : World} {b : Nat} (h : Laid g w W b (L4 g)) : (∃ cs, Laid g w W b cs) ∧ W.cell? ⟨b, 12, none⟩ = some (.int .i64 (1 + 2 * g.N)) ∧ W.cell? ⟨b, 13, none⟩ = some (.int .i64 g.L) ∧ W.cell? ⟨b, 14, none⟩ = some (.int .i64 1) ∧ W.cell? ⟨w.heap.size, 1, none⟩ = some (.int .i64 g.S) ∧ W.cell? ⟨w.heap.size, 4, none⟩ = some (.int .i64 g.J) :=
  ⟨⟨_, h⟩, h.2.2.2.1.cell 12 _ rfl, h.2.2.2.1.cell 13 _ rfl, h.2.2.2.1.cell 14 _ rfl, h.2.1.cell 1 _ rfl, h.2.1.cell 4 _ rfl⟩
theorem l4_to {g : G} {w W : World} {b : Nat} (h : Laid g w W b (L4 g)) : Laid g w (((W.setCell ⟨b, 16, none⟩ (.int .i64 (1 + 2 * g.N + g.L))).setCell ⟨b, 17, none⟩ (.int .i64 g.S)).setCell ⟨b, 18, none⟩ (.int .i64 (1 + g.J))) b (L5 g) := (((h.set 16 (.int .i64 (1 + 2 * g.N + g.L))).set 17 (.int .i64 g.S)).set 18 (.int .i64 (1 + g.J)))
theorem s4_to {g : G} {w W : World} {b : Nat} (h : Laid g w W b (L4 g)) : (∃ cs, Laid g w (((W.setCell ⟨b, 16, none⟩ (.int .i64 (1 + 2 * g.N + g.L))).setCell ⟨b, 17, none⟩ (.int .i64 g.S)).setCell ⟨b, 18, none⟩ (.int .i64 (1 + g.J))) b cs) ∧ (((W.setCell ⟨b, 16, none⟩ (.int .i64 (1 + 2 * g.N + g.L))).setCell ⟨b, 17, none⟩ (.int .i64 g.S)).setCell ⟨b, 18, none⟩ (.int .i64 (1 + g.J))).cell? ⟨b, 12, none⟩ = some (.int .i64 (1 + 2 * g.N)) ∧ (((W.setCell ⟨b, 16, none⟩ (.int .i64 (1 + 2 * g.N + g.L))).setCell ⟨b, 17, none⟩ (.int .i64 g.S)).setCell ⟨b, 18, none⟩ (.int .i64 (1 + g.J))).cell? ⟨b, 13, none⟩ = some (.int .i64 g.L) ∧ (((W.setCell ⟨b, 16, none⟩ (.int .i64 (1 + 2 * g.N + g.L))).setCell ⟨b, 17, none⟩ (.int .i64 g.S)).setCell ⟨b, 18, none⟩ (.int .i64 (1 + g.J))).cell? ⟨b, 14, none⟩ = some (.int .i64 1) ∧ (((W.setCell ⟨b, 16, none⟩ (.int .i64 (1 + 2 * g.N + g.L))).setCell ⟨b, 17, none⟩ (.int .i64 g.S)).setCell ⟨b, 18, none⟩ (.int .i64 (1 + g.J))).cell? ⟨w.heap.size, 1, none⟩ = some (.int .i64 g.S) ∧ (((W.setCell ⟨b, 16, none⟩ (.int .i64 (1 + 2 * g.N + g.L))).setCell ⟨b, 17, none⟩ (.int .i64 g.S)).setCell ⟨b, 18, none⟩ (.int .i64 (1 + g.J))).cell? ⟨w.heap.size, 4, none⟩ = some (.int .i64 g.J) :=
  ⟨⟨_, l4_to h⟩, (l4_to h).2.2.2.1.cell 12 _ rfl, (l4_to h).2.2.2.1.cell 13 _ rfl, (l4_to h).2.2.2.1.cell 14 _ rfl, (l4_to h).2.1.cell 1 _ rfl, (l4_to h).2.1.cell 4 _ rfl⟩
theorem end4 (g : G) (w : World) (b : Nat) (W : World) (hm : Hid (mayG g = true)) (h : Hid (Laid g w W b (L4 g))) :
    Calls Tryd.prog 89 #[.agg #[.int .i64 (1 + 2 * g.N), .int .i64 g.L, .int .i64 1]] W fun e W' => e = .returned (.int .i64 (1 + 2 * g.N + g.L)) ∧ Hid (Laid g w W' b (L4 g)) ∧ (∀ o, W'.frozen? ⟨b, o, none⟩ = false) ∧ W'.cell? ⟨b, 16, none⟩ = some (.int .i64 0) ∧ W'.cell? ⟨b, 17, none⟩ = some (.int .i64 0) ∧ W'.cell? ⟨b, 18, none⟩ = some (.int .i64 0) ∧ W'.cell? ⟨b, 12, none⟩ = some (.int .i64 (1 + 2 * g.N)) ∧ W'.cell? ⟨b, 13, none⟩ = some (.int .i64 g.L) ∧ W'.cell? ⟨b, 14, none⟩ = some (.int .i64 1) ∧ W'.cell? ⟨w.heap.size, 1, none⟩ = some (.int .i64 g.S) ∧ W'.cell? ⟨w.heap.size, 4, none⟩ = some (.int .i64 g.J) := by
  have hg := of_may hm.out
  have hsb := slots_bd hm.out
  refine (end_said _ _ _ _ W (by omega) ?_).mono fun e W' h' => ⟨h'.1, h.out.call h'.2, fun o => (h.out.call h'.2).2.2.2.1.free o, (h.out.call h'.2).2.2.2.1.cell 16 _ rfl, (h.out.call h'.2).2.2.2.1.cell 17 _ rfl, (h.out.call h'.2).2.2.2.1.cell 18 _ rfl, (h.out.call h'.2).2.2.2.1.cell 12 _ rfl, (h.out.call h'.2).2.2.2.1.cell 13 _ rfl, (h.out.call h'.2).2.2.2.1.cell 14 _ rfl, (h.out.call h'.2).2.1.cell 1 _ rfl, (h.out.call h'.2).2.1.cell 4 _ rfl⟩
  omega
theorem s5_of {g : G} {w W : World} {b : Nat} (h : Laid g w W b (L5 g)) : (∃ cs, Laid g w W b cs) ∧ W.cell? ⟨b, 16, none⟩ = some (.int .i64 (1 + 2 * g.N + g.L)) ∧ W.cell? ⟨b, 17, none⟩ = some (.int .i64 g.S) ∧ W.cell? ⟨b, 18, none⟩ = some (.int .i64 (1 + g.J)) ∧ W.cell? ⟨w.heap.size, 2, none⟩ = some (.int .i64 g.B) ∧ W.cell? ⟨w.heap.size, 3, none⟩ = some (.int .i64 g.P) :=
  ⟨⟨_, h⟩, h.2.2.2.1.cell 16 _ rfl, h.2.2.2.1.cell 17 _ rfl, h.2.2.2.1.cell 18 _ rfl, h.2.1.cell 2 _ rfl, h.2.1.cell 3 _ rfl⟩
theorem l5_to {g : G} {w W : World} {b : Nat} (h : Laid g w W b (L5 g)) : Laid g w ((((W.setCell ⟨b, 19, none⟩ (.int .i64 (1 + 2 * g.N + g.L + g.S * (1 + g.J)))).setCell ⟨b, 20, none⟩ (.int .i64 g.B)).setCell ⟨b, 21, none⟩ (.int .i64 g.P)).setCell ⟨b, 22, none⟩ (.int .i8 7)) b (L6 g) := ((((h.set 19 (.int .i64 (1 + 2 * g.N + g.L + g.S * (1 + g.J)))).set 20 (.int .i64 g.B)).set 21 (.int .i64 g.P)).set 22 (.int .i8 7))
theorem s5_to {g : G} {w W : World} {b : Nat} (h : Laid g w W b (L5 g)) : (∃ cs, Laid g w ((((W.setCell ⟨b, 19, none⟩ (.int .i64 (1 + 2 * g.N + g.L + g.S * (1 + g.J)))).setCell ⟨b, 20, none⟩ (.int .i64 g.B)).setCell ⟨b, 21, none⟩ (.int .i64 g.P)).setCell ⟨b, 22, none⟩ (.int .i8 7)) b cs) ∧ ((((W.setCell ⟨b, 19, none⟩ (.int .i64 (1 + 2 * g.N + g.L + g.S * (1 + g.J)))).setCell ⟨b, 20, none⟩ (.int .i64 g.B)).setCell ⟨b, 21, none⟩ (.int .i64 g.P)).setCell ⟨b, 22, none⟩ (.int .i8 7)).cell? ⟨b, 16, none⟩ = some (.int .i64 (1 + 2 * g.N + g.L)) ∧ ((((W.setCell ⟨b, 19, none⟩ (.int .i64 (1 + 2 * g.N + g.L + g.S * (1 + g.J)))).setCell ⟨b, 20, none⟩ (.int .i64 g.B)).setCell ⟨b, 21, none⟩ (.int .i64 g.P)).setCell ⟨b, 22, none⟩ (.int .i8 7)).cell? ⟨b, 17, none⟩ = some (.int .i64 g.S) ∧ ((((W.setCell ⟨b, 19, none⟩ (.int .i64 (1 + 2 * g.N + g.L + g.S * (1 + g.J)))).setCell ⟨b, 20, none⟩ (.int .i64 g.B)).setCell ⟨b, 21, none⟩ (.int .i64 g.P)).setCell ⟨b, 22, none⟩ (.int .i8 7)).cell? ⟨b, 18, none⟩ = some (.int .i64 (1 + g.J)) ∧ ((((W.setCell ⟨b, 19, none⟩ (.int .i64 (1 + 2 * g.N + g.L + g.S * (1 + g.J)))).setCell ⟨b, 20, none⟩ (.int .i64 g.B)).setCell ⟨b, 21, none⟩ (.int .i64 g.P)).setCell ⟨b, 22, none⟩ (.int .i8 7)).cell? ⟨w.heap.size, 2, none⟩ = some (.int .i64 g.B) ∧ ((((W.setCell ⟨b, 19, none⟩ (.int .i64 (1 + 2 * g.N + g.L + g.S * (1 + g.J)))).setCell ⟨b, 20, none⟩ (.int .i64 g.B)).setCell ⟨b, 21, none⟩ (.int .i64 g.P)).setCell ⟨b, 22, none⟩ (.int .i8 7)).cell? ⟨w.heap.size, 3, none⟩ = some (.int .i64 g.P) :=
  ⟨⟨_, l5_to h⟩, (l5_to h).2.2.2.1.cell 16 _ rfl, (l5_to h).2.2.2.1.cell 17 _ rfl, (l5_to h).2.2.2.1.cell 18 _ rfl, (l5_to h).2.1.cell 2 _ rfl, (l5_to h).2.1.cell 3 _ rfl⟩
theorem end5 (g : G) (w : World) (b : Nat) (W : World) (hm : Hid (mayG g = true)) (h : Hid (Laid g w W b (L5 g))) :
    Calls Tryd.prog 89 #[.agg #[.int .i64 (1 + 2 * g.N + g.L), .int .i64 g.S, .int .i64 (1 + g.J)]] W fun e W' => e = .returned (.int .i64 (1 + 2 * g.N + g.L + g.S * (1 + g.J))) ∧ Hid (Laid g w W' b (L5 g)) ∧ (∀ o, W'.frozen? ⟨b, o, none⟩ = false) ∧ W'.cell? ⟨b, 19, none⟩ = some (.int .i64 0) ∧ W'.cell? ⟨b, 20, none⟩ = some (.int .i64 0) ∧ W'.cell? ⟨b, 21, none⟩ = some (.int .i64 0) ∧ W'.cell? ⟨b, 22, none⟩ = some (.int .i8 0) ∧ W'.cell? ⟨b, 16, none⟩ = some (.int .i64 (1 + 2 * g.N + g.L)) ∧ W'.cell? ⟨b, 17, none⟩ = some (.int .i64 g.S) ∧ W'.cell? ⟨b, 18, none⟩ = some (.int .i64 (1 + g.J)) ∧ W'.cell? ⟨w.heap.size, 2, none⟩ = some (.int .i64 g.B) ∧ W'.cell? ⟨w.heap.size, 3, none⟩ = some (.int .i64 g.P) := by
  have hg := of_may hm.out
  have hsb := slots_bd hm.out
  refine (end_said _ _ _ _ W (by omega) ?_).mono fun e W' h' => ⟨h'.1, h.out.call h'.2, fun o => (h.out.call h'.2).2.2.2.1.free o, (h.out.call h'.2).2.2.2.1.cell 19 _ rfl, (h.out.call h'.2).2.2.2.1.cell 20 _ rfl, (h.out.call h'.2).2.2.2.1.cell 21 _ rfl, (h.out.call h'.2).2.2.2.1.cell 22 _ rfl, (h.out.call h'.2).2.2.2.1.cell 16 _ rfl, (h.out.call h'.2).2.2.2.1.cell 17 _ rfl, (h.out.call h'.2).2.2.2.1.cell 18 _ rfl, (h.out.call h'.2).2.1.cell 2 _ rfl, (h.out.call h'.2).2.1.cell 3 _ rfl⟩
  rfl
attribute [local go_sem ↓] Go.wp_at_zero Go.wp_at_succ
set_option maxRecDepth 100000 in
set_option maxHeartbeats 4000000 in
theorem lay_yes (g : G) (w : World) (hm : mayG g = true) :
    Calls Tryd.prog 70 #[.agg #[.int .i64 g.N, .int .i64 g.S, .int .i64 g.B, .int .i64 g.P, .int .i64 g.J, .int .i64 g.L, .int .i64 g.E, .int .i64 g.T]] w fun e w' => e = .returned (.agg (layA g)) ∧ Below w.heap.size w w' := by
  have hg := of_may hm
  have HJ := Lib.hid (show IntKind.i64.wrap (1 + g.J) = 1 + g.J from IntWalk.i64_in _ (by omega))
  have H := Lib.hid hm
  clear hm hg
  go_enter Tryd.func70, Tryd.ntmps70
  go_wp2_with fail
  refine (may_any g _).mono ?_
  rintro e w1 ⟨rfl, hb⟩
  rw [H.out]
  have h1 : Blk w1 w.heap.size (GA g) 43 := (((Blk.new w (GA g) 43).alloc _).below hb (by simp; omega))
  have h2 : Blk w1 (w.heap.size + 1) zeroA 115 := by
    have h := (Blk.new (w.alloc (.cells (GA g) 43)) zeroA 115).below hb (by simp)
    simpa using h
  have hB0 : Below w.heap.size w w1 := (((Below.refl _ _).alloc (Nat.le_refl _) _).alloc (by simp) _).trans (hb.mono (by simp; omega))
  have hz := hb.size
  simp only [World.size_alloc] at hz
  have hL : Laid g w (w1.alloc (.cells (L1 g) 115)) w1.heap.size (L1 g) := ⟨hB0.alloc (by omega) _, h1.alloc _, h2.alloc _, Blk.new _ _ _, by omega⟩
  have HL := Lib.hid hL
  clear h1 h2 hB0 hz hb hL
  go_upto_region 5 with fail
  have hL := HL.out
  clear HL
  unfold L1 at hL
  generalize w1.alloc _ = W at hL ⊢
  generalize w1.heap.size = b at *
  change Laid g w W b (L1 g) at hL
  go_cut [] (fun wx => Laid g w wx b (L2 g))
  case first =>
    have hS := (s1_of hL.drew).2
    have HLd := Lib.hid hL.drew
    clear hL
    go_region_with (go_at_call 89; refine (end1 g w b _ H HLd).mono ?_; rintro e W1 ⟨rfl, HN, hN⟩)
    all_goals
      go_wp2_with fail
      go_meet
      exact l1_to HN.out
  case rest =>
  have HL := Lib.hid hcut
  clear hcut hL
  go_upto_region 6 with fail
  have hL := HL.out
  clear HL
  go_cut [] (fun wx => Laid g w wx b (L3 g))
  case first =>
    have hS := (s2_of hL.drew).2
    have HLd := Lib.hid hL.drew
    clear hL
    go_region_with (go_at_call 89; refine (end2 g w b _ H HLd).mono ?_; rintro e W1 ⟨rfl, HN, hN⟩)
    all_goals
      go_wp2_with fail
      go_meet
      exact l2_to HN.out
  case rest =>
  have HL := Lib.hid hcut
  clear hcut hL
  go_upto_region 7 with fail
  have hL := HL.out
  clear HL
  go_cut [] (fun wx => Laid g w wx b (L4 g))
  case first =>
    have hS := (s3_of hL.drew).2
    have HLd := Lib.hid hL.drew
    clear hL
    go_region_with (go_at_call 89; refine (end3 g w b _ H HLd).mono ?_; rintro e W1 ⟨rfl, HN, hN⟩)
    all_goals
      go_wp2_with fail
      go_meet
      exact l3_to HN.out
  case rest =>
  have HL := Lib.hid hcut
  clear hcut hL
  go_upto_region 8 with fail
  have hL := HL.out
  clear HL
  go_cut [] (fun wx => Laid g w wx b (L5 g))
  case first =>
    have hS := (s4_of hL.drew).2
    have HLd := Lib.hid hL.drew
    clear hL
    have hj := HJ.out
    go_region_with (go_at_call 89; refine (end4 g w b _ H HLd).mono ?_; rintro e W1 ⟨rfl, HN, hN⟩)
    all_goals
      go_wp2_with fail
      go_meet
      exact l4_to HN.out
  case rest =>
  have HL := Lib.hid hcut
  clear hcut hL
  go_upto_region 9 with fail
  have hL := HL.out
  clear HL
  go_cut [] (fun wx => Laid g w wx b (L6 g))
  case first =>
    have hS := (s5_of hL.drew).2
    have HLd := Lib.hid hL.drew
    clear hL
    go_region_with (go_at_call 89; refine (end5 g w b _ H HLd).mono ?_; rintro e W1 ⟨rfl, HN, hN⟩)
    all_goals
      go_wp2_with fail
      go_meet
      exact l5_to HN.out
  case rest =>
  have HL := Lib.hid hcut
  clear hcut hL
  have hL := HL.out
  have hr := hL.2.2.2.1.range
  have hth := hL.2.2.1.there
  clear hL
  go_wp2_with (first
    | (refine wpList_load_mid (op := ⟨some 61, .load 115 _, _, _, _, none⟩) rfl 115 _ (by rfl) b 0 (by rfl) (L6 g).toList _ (by assumption) Tryd.underlying115 rfl (by kernel_rfl) ?_)
    | (refine wpList_store_mid (op := ⟨none, .store 115 _ _, _, _, _, none⟩) rfl 115 _ _ (by rfl) (w.heap.size + 1) 0 (L6 g) (by rfl) (by rfl) (by assumption) (by kernel_rfl) (by kernel_rfl) ?_))
  refine bodyPost_ret (results_cell (cs := (L6 g).toList) Tryd.results70 (by rfl) (World.rangeAt_setCells_same _ _ _ _ hth) Tryd.underlying115 rfl (by kernel_rfl)) rfl ⟨by rw [L6_lay H.out], ?_⟩
  exact setCells_below _ _ HL.out.1 (by omega)

theorem lay_any (g : G) (w : World) :
    Calls Tryd.prog 70 #[.agg #[.int .i64 g.N, .int .i64 g.S, .int .i64 g.B, .int .i64 g.P, .int .i64 g.J, .int .i64 g.L, .int .i64 g.E, .int .i64 g.T]] w fun e w' => e = .returned (.agg (layA g)) ∧ Below w.heap.size w w' := by
  by_cases hm : mayG g = true
  · exact lay_yes g w hm
  · exact lay_no g w (by simpa using hm)

end Go.Proofs.YtjdacpnfgpdjhaaDoor
