/-
  super: a geometry's sectors, each with the kind of what stands there: the iterator's contract, for every loop body that keeps what lay when the loop began.
-/
import Derived.RangeFuncNested
import Derived.RangeFuncBound
import Derived.RangeFuncCalls
import Derived.RangeFuncLeaves
import Derived.Shelf.Abstract
import Derived.Shelf.RegionOpen
import Derived.WalkKit
import Derived.OwnWalkIn
import Derived.TacticsInMore
import Derived.LoopNIn
import Derived.LoopIn
import Derived.Test.YtaegkpfjopajpaaDoorSuperMath
import Derived.Test.YtaegkpfjopajpaaDoorGeoRR
import Derived.Test.YtaegkpfjopajpaaDoorGeoWhat
namespace Go.Proofs.YtaegkpfjopajpaaDoor
open Go.RowKit Go.Shelf
set_option linter.unusedVariables false
set_option linter.unusedSimpArgs false
attribute [local go_sem] Oper.semAt_some

/-- What a round is handed. -/
def spotV (g : G) (x : Fin (totN g)) : Array Value := #[.int .i64 ((x.1 : Nat) : Int), .int .i8 (whatV g ((x.1 : Nat) : Int)).k]
def spotsTo (g : G) (k : Nat) : List (Fin (totN g)) := (List.finRange (totN g)).take k
theorem spotsTo_succ (g : G) {k : Nat} (hk : k < totN g) : spotsTo g (k + 1) = spotsTo g k ++ [⟨k, hk⟩] := by
  unfold spotsTo
  rw [List.take_succ_eq_append_getElem (by rw [List.length_finRange]; exact hk), List.getElem_finRange]
  rfl
theorem spotsTo_length (g : G) {k : Nat} (hk : k ≤ totN g) : (spotsTo g k).length = k := by
  unfold spotsTo
  rw [List.length_take, List.length_finRange]
  omega
theorem spotsTo_all (g : G) : spotsTo g (totN g) = List.finRange (totN g) := List.take_of_length_le (by rw [List.length_finRange]; exact Nat.le_refl _)
theorem total_bd (g : G) : totalV g = ((totN g : Nat) : Int) ∧ totN g ≤ 16004000 := by
  have h := endV_bd (dataS_small g)
  unfold totN totalV
  omega
theorem grown_of_below {W W' : World} (h : Below W.heap.size W W') : W.grownBy W' none := ⟨h.os, h.tape, h.output, h.size, fun k hk _ => h.block k hk⟩
theorem abides_below {β : Type} {B : Nat} {J : β → World → Prop} (hJ : AbidesFrom B J) {s : β} {W W' : World} (h : J s W) (hb : Below W.heap.size W W') : J s W' :=
  hJ s W W' none h (grown_of_below hb) (fun r e => by cases e)
theorem GAt.below {g : G} {b B : Nat} {W W' : World} (h : GAt g b W) (hb : Below B W W') (hB : b < B) : GAt g b W' := by
  have key : ∀ o, W'.cell? ⟨b, o, none⟩ = W.cell? ⟨b, o, none⟩ := fun o => hb.cell (p := ⟨b, o, none⟩) hB
  unfold GAt at h ⊢
  simp only [key]
  exact h

/-- A block is as it was. -/
def KeepB (b : Nat) (W W' : World) : Prop := W'.heap[b]? = W.heap[b]?
theorem KeepB.trans {b : Nat} {A B C : World} (h : KeepB b A B) (k : KeepB b B C) : KeepB b A C := Eq.trans k h
theorem KeepB.lt {b : Nat} {W W' : World} (h : KeepB b W W') (hb : b < W.heap.size) : b < W'.heap.size := by
  have h1 : W'.heap[b]? = W.heap[b]? := h
  rw [Array.getElem?_eq_getElem hb] at h1
  exact (Array.getElem?_eq_some_iff.1 h1).1
theorem KeepB.of_below {b B : Nat} {W W' : World} (h : Below B W W') (hb : b < B) : KeepB b W W' := h.block b hb
theorem KeepB.set {b : Nat} {W W' : World} (h : KeepB b W W') {a : Addr} (ha : a.block ≠ b) (v : Value) : KeepB b W (W'.setCell a v) := (Below.heap_setCell W' a v b (fun e => ha e.symm)).trans h
theorem keepB_b {b : Nat} {w : World} (hb : b < w.heap.size) (W : World) (l : Nat) (o o' : Obj) (hl : w.heap.size ≤ l) (h : W.heap[l]? = some o) (_ : o.isCells = false) (_ : o.isWalk = false) : KeepB b W (W.putObj l o') :=
  World.putObj_heap_other (by omega)
theorem GAt.keep {g : G} {b : Nat} {W W' : World} (h : GAt g b W) (hb : KeepB b W W') : GAt g b W' := by
  have key : ∀ o, W'.cell? ⟨b, o, none⟩ = W.cell? ⟨b, o, none⟩ := fun o => World.cell?_of_block (a := ⟨b, o, none⟩) hb
  unfold GAt at h ⊢
  simp only [key]
  exact h

set_option maxRecDepth 100000 in
set_option maxHeartbeats 2000000 in
theorem spots1_in (g : G) (n : Nat) (hn : 1 ≤ n) (l bg : Nat) (J Jx : List (Fin (totN g)) → World → Prop) (W : World) (hJ : AbidesFrom W.heap.size J) (hbg : bg < W.heap.size)
    (hY : ∀ pre x W, J pre W → pre.length < totN g → YieldAt Fence.wide (n - 1) Tryd.prog l (spotV g x) W fun e W' =>
      (e = .returned (.bool true) ∧ J (pre ++ [x]) W' ∧ KeepB bg W W') ∨ (e = .returned (.bool false) ∧ Jx (pre ++ [x]) W'))
    (hG : GAt g bg W) (h0 : J [] W) :
    CallsIn Fence.wide n Tryd.prog 53 #[.func (.yield l) #[] #[], .pointer (some ⟨bg, 0, none⟩)] W fun e W' => (∃ v, e = .returned v) ∧
      ((∃ ys, ys = List.finRange (totN g) ∧ J ys W') ∨ (∃ pre, (∃ k, k ≤ totN g ∧ pre = spotsTo g k) ∧ Jx pre W')) := by
  obtain ⟨hT, hTb⟩ := total_bd g
  have HT := Lib.hid hT
  have hG0 := hG
  unfold GAt at hG0
  obtain ⟨e0, e1, e2, e3, e4, e5, e6, e7⟩ := hG0
  refine callsIn_of_wp Tryd.func53 rfl trivial ?_ rfl
  simp only [Tryd.ntmps53, List.size_toArray, List.length_cons, List.length_nil, Nat.reduceAdd, Nat.reduceSub, Array.replicate_succ, Array.replicate_zero, List.push_toArray, List.append_toArray, List.nil_append, List.cons_append]
  gi_wp2_with (refine ⟨trivial, ?_⟩; gi_at_call 34; refine (callsIn_wide.2 (total_g g _)).mono ?_; rintro e w1 ⟨rfl, hb1⟩; rw [HT.out])
  have hJ1 := abides_below hJ h0 hb1
  have hb1' := KeepB.of_below hb1 hbg
  have HJ := Lib.hid hJ
  have HYY := Lib.hid hY
  have hW1 := hb1.size
  clear e0 e1 e2 e3 e4 e5 e6 e7 hT hJ hY h0
  gi_loopw [9] (fun i wr => ∃ k : Nat, k ≤ totN g ∧ i = .int .i64 (k : Int) ∧ J (spotsTo g k) wr ∧ KeepB bg W wr ∧ bg < wr.heap.size)
    (fun i _ => totN g - (intOf i).toNat)
  case atStart => exact ⟨0, Nat.zero_le _, rfl, hJ1, hb1', by omega⟩
  case round =>
    obtain ⟨k, hk, rfl, hJs, hnx, hbw⟩ := hrel
    by_cases hlt : k < totN g
    · have hGr := hG.keep hnx
      unfold GAt at hGr
      obtain ⟨e0, e1, e2, e3, e4, e5, e6, e7⟩ := hGr
      gi_wp2_with (refine ⟨trivial, ?_⟩; gi_at_call 54; refine (callsIn_wide.2 (what_g g (k : Int) _)).mono ?_; rintro e w2 ⟨rfl, hb2⟩
                   have hJ2 := abides_below HJ.out hJs hb2
                   have hn2 : KeepB bg W w2 := hnx.trans (KeepB.of_below hb2 hbw)
                   have hbw2 : bg < w2.heap.size := Nat.lt_of_lt_of_le hbw hb2.size
                   obtain ⟨fn, tmps, assign, body, hy, hR⟩ := HYY.out (spotsTo g k) ⟨k, hlt⟩ w2 hJ2 (by rw [spotsTo_length g (Nat.le_of_lt hlt)]; exact hlt)
                   dsimp only [spotV] at hy
                   clear HYY HJ hJs hnx e0 e1 e2 e3 e4 e5 e6 e7 hb1 hJ1 hb1' hW1)
      refine hR.mono ?_
      rintro e W3 (⟨rfl, hJ3, hk3⟩ | ⟨rfl, hJx3⟩)
      · gi_wp2
        go_roundw
        case rel => exact ⟨k + 1, by omega, by simp, by rw [spotsTo_succ g hlt]; exact hJ3, hn2.trans hk3, KeepB.lt (hn2.trans hk3) hbg⟩
        case measure => simp [intOf]; omega
      · gi_wp2
        refine bodyPost_ret (results_none rfl _ _ _) rfl ?_
        exact ⟨⟨_, rfl⟩, .inr ⟨_, ⟨k + 1, by omega, (spotsTo_succ g hlt).symm⟩, hJx3⟩⟩
    · obtain rfl : k = totN g := by omega
      gi_wp2
      go_end0
      exact ⟨⟨_, rfl⟩, .inl ⟨_, spotsTo_all g, hJs⟩⟩

theorem spots_any (g : G) (w : World) : Calls Tryd.prog 35 #[.agg #[.int .i64 g.N, .int .i64 g.S, .int .i64 g.B, .int .i64 g.P, .int .i64 g.J, .int .i64 g.L, .int .i64 g.E, .int .i64 g.T]] w fun e w' => e = .returned (.func (.func 53) #[] #[.pointer (some ⟨w.heap.size, 0, none⟩)]) ∧ w' = w.alloc (.cells #[.int .i64 g.N, .int .i64 g.S, .int .i64 g.B, .int .i64 g.P, .int .i64 g.J, .int .i64 g.L, .int .i64 g.E, .int .i64 g.T] 23) := by
  go_enter Tryd.func35, Tryd.ntmps35
  go_wp2_with fail
  go_ret
  exact ⟨rfl, rfl⟩

/-- The iterator stops: all sectors, in their order; or the first of them. -/
theorem spots_stops (g : G) (n : Nat) (hn : 1 ≤ n) (bg : Nat) (w : World) (hbg : bg < w.heap.size) (hG : GAt g bg w) :
    SeqStopsK Fence.wide n Tryd.prog 53 #[.pointer (some ⟨bg, 0, none⟩)] (spotV g) (KeepB bg) (fun ys => ys = List.finRange (totN g))
      (fun pre => ∃ k, k ≤ totN g ∧ pre = spotsTo g k) (totN g) w := fun l J Jx W hW hJ _ hY h0 =>
  spots1_in g n hn l bg J Jx W hJ (Nat.lt_of_lt_of_le hbg hW.size) hY (hG.below hW hbg) h0

end Go.Proofs.YtaegkpfjopajpaaDoor
