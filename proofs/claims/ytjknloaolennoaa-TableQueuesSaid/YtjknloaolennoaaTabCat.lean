/-
  table: two rows of holds one behind the other (slices.Grow, slices.Concat): by contract.
-/
import Derived.Test.YtjknloaolennoaaJoinTabMay
import Derived.Test.YtjknloaolennoaaTabFilt
import Derived.Lib.AppendZerosOnto
namespace Go.Proofs.Ytjknloaolennoaa
open Go.RowKit
set_option linter.unusedVariables false
set_option linter.unusedSimpArgs false

/-- 'append(s, make(..)...)' whose run is known, as a step of a walk. -/
theorem wpl_append2 {P : Program} {ops : Array Oper} {rest : List Oper} {o : Oper} {a : Act} {Q : Exit → Act → World → Prop} {w : World} (hgd : o.guard = none) (s x : Operand) (t t2 : TypeId)
    (ho : o.op = .call { callee := .builtin .append, args := #[s, x], argTypes := #[t, t2] }) {v1 v2 : Value} (hs : a.eval s = v1) (hx : a.eval x = v2) {v' : Value} {w' : World}
    (hr : (Builtin.append_ #[t, t2] o.type #[v1, v2]).run P w = .ok v' w') (h : wpList P ops Q rest (a.put o.dst v') w') : wpList P ops Q (o :: rest) a w :=
  wpList_plain hgd fun K hK => by
    unfold Oper.wp execOp
    simp only [ho, resolve, invoke, builtin, Sem.run_bind, Sem.run_pure, Result.andThen_ok, List.map_toArray, List.map_cons, List.map_nil, hs, hx, hr]
    exact hK _ _ h

set_option maxRecDepth 100000 in
set_option maxHeartbeats 2000000 in
theorem tgrow_any (n : Nat) (w : World) (hn : n ≤ 1000000) :
    Calls Try.prog 65 #[.slice none 0 0, .int .i64 n] w fun e w' => ∃ A c, e = .returned (.slice A 0 c) ∧ w'.ownsRow w.heap.size 43 4 (.slice A 0 c) 0 [] ∧ Below w.heap.size w w' := by
  have h1 : ¬ ((n : Int) < 0) := by omega
  rcases Nat.eq_zero_or_pos n with rfl | hpos
  · go_enter Try.func65, Try.ntmps65
    go_wp2_with fail
    go_ret
    exact ⟨none, 0, rfl, World.ownsRow_nil _ _ _ _, Below.refl _ _⟩
  · obtain ⟨iH, hhi, hh0, hh1, hh2⟩ := info_parts tinfoHold
    have hsz : iH.size = 4 := hh1
    have hcells : (Value.agg #[Value.int .i64 0, .int .i64 0, .int .i64 0, .int .i8 0]).cells = #[Value.int .i64 0, .int .i64 0, .int .i64 0, .int .i8 0] := rfl
    have hfit : Builtin.nextslicecap (0 + n) 0 * iH.bytes ≤ 281474976710656 := growslice_fits (by omega) (by rw [hh2]; omega)
    have hrun := Lib.run_append_grow_zeros (P := Try.prog) w 27 3 27 43 iH _ .i64 .i64 Try.underlying27 Try.underlying3 hhi hh0 none 0 0 [] (by simpa using run_firstCells_none w.drew iH.size 0 0 0) n hpos (by omega) (by omega) (by omega) (by rw [hh2]; omega) hfit
    have hge := grownCap_ge w (0 + n) 0 43
    have hle := grownCap_le_maxLen w (0 + n) 0 43 (by unfold maxLen; omega)
    obtain ⟨G, hG⟩ : ∃ G, grownCap w (0 + n) 0 43 = G := ⟨_, rfl⟩
    rw [hG] at hrun hge hle
    have hb : Below w.heap.size w (w.drew.alloc (.cells (([] : List Value).toArray ++ Builtin.zeroCells (Value.agg #[Value.int .i64 0, .int .i64 0, .int .i64 0, .int .i8 0]).cells n ++ Builtin.zeroCells (Value.agg #[Value.int .i64 0, .int .i64 0, .int .i64 0, .int .i8 0]).cells (G - (0 + n))) 43)) := (Below.refl _ _).drew.alloc (Nat.le_refl _) _
    have hown : (w.drew.alloc (.cells (([] : List Value).toArray ++ Builtin.zeroCells (Value.agg #[Value.int .i64 0, .int .i64 0, .int .i64 0, .int .i8 0]).cells n ++ Builtin.zeroCells (Value.agg #[Value.int .i64 0, .int .i64 0, .int .i64 0, .int .i8 0]).cells (G - (0 + n))) 43)).ownsRow w.heap.size 43 4 (.slice (some ⟨w.heap.size, 0, none⟩) 0 G) 0 [] := by
      refine ⟨rfl, .inr ⟨w.heap.size, G, _, rfl, Nat.le_refl _, heap_alloc_new w.drew _, Nat.zero_le _, hle, ?_, rfl⟩⟩
      rw [Array.size_append, Array.size_append, size_zeroCells, size_zeroCells, hcells]
      simp
      omega
    obtain ⟨W1, hW1⟩ : ∃ W, W = w.drew.alloc (.cells (([] : List Value).toArray ++ Builtin.zeroCells (Value.agg #[Value.int .i64 0, .int .i64 0, .int .i64 0, .int .i8 0]).cells n ++ Builtin.zeroCells (Value.agg #[Value.int .i64 0, .int .i64 0, .int .i64 0, .int .i8 0]).cells (G - (0 + n))) 43) := ⟨_, rfl⟩
    rw [← hW1] at hb hown hrun
    rw [Nat.zero_add] at hrun
    have HO := Lib.hid (And.intro hown hb)
    unfold maxLen at hle
    clear hW1 hown hb hfit hcells hG hhi hh0 hh1 hh2 hsz
    go_enter Try.func65, Try.ntmps65
    go_wp2_with (at_builtin; refine wpl_append2 rfl _ _ 27 3 rfl rfl rfl hrun ?_)
    go_ret
    exact ⟨_, _, rfl, HO.out.1, HO.out.2⟩

/-- How long, behind k of two rows. -/
def catLen (a b : Nat) : Nat → Nat
  | 0 => 0
  | 1 => a
  | _ => a + b
def catRow (l m : List HoldM) : Nat → List HoldM
  | 0 => []
  | 1 => l
  | _ => l ++ m
set_option maxRecDepth 100000 in
set_option maxHeartbeats 4000000 in
theorem tconcat_any (q : Nat) (aH : Option Addr) (nH cH : Nat) (ho : List HoldM) (aQ : Option Addr) (nQ cQ : Nat) (qu : List HoldM) (w : World) (hq : Blk w q #[.slice aH nH cH, .slice aQ nQ cQ] 27) (lH : LiesH w w.heap.size aH nH ho) (lQ : LiesH w w.heap.size aQ nQ qu)
    (hcH : aH = none → cH = 0) (hcQ : aQ = none → cQ = 0) (hn : nH + nQ ≤ 1000000) :
    Calls Try.prog 52 #[.slice (some ⟨q, 0, none⟩) 2 2] w fun e w' => ∃ A c, e = .returned (.slice A (nH + nQ) c) ∧ w'.ownsRow w.heap.size 43 4 (.slice A (nH + nQ) c) (nH + nQ) (holV (ho ++ qu)) ∧ Below w.heap.size w w' := by
  have HH : Hid (∀ W, Below w.heap.size w W → LiesH W W.heap.size aH nH ho) := fun W h => lH.below h
  have HQ : Hid (∀ W, Below w.heap.size w W → LiesH W W.heap.size aQ nQ qu) := fun W h => lQ.below h
  have HB : Hid (∀ W, Below w.heap.size w W → Blk W q #[.slice aH nH cH, .slice aQ nQ cQ] 27) := fun W h => hq.below h hq.lt
  have HG : Hid (∀ W, Calls Try.prog 65 #[.slice none 0 0, .int .i64 ((nH : Int) + (nQ : Int))] W fun e w' => ∃ A c, e = .returned (.slice A 0 c) ∧ w'.ownsRow W.heap.size 43 4 (.slice A 0 c) 0 [] ∧ Below W.heap.size W w') := fun W => by have h := tgrow_any (nH + nQ) W hn; rw [Int.natCast_add] at h; exact h
  have HC := Lib.hid (And.intro hcH hcQ)
  have HLN := Lib.hid (And.intro lH.1 lQ.1)
  obtain ⟨i0, hi0, hz0, hz1, hz2⟩ := info_parts tinfoHold
  have hlq := hq.lt
  have q0 := hq.cell 0 _ rfl
  have q1 := hq.cell 1 _ rfl
  clear hq lH lQ hcH hcQ
  go_enter Try.func52, Try.ntmps52
  go_wp2_with fail
  go_loopw [3, 11] (fun u i wr => ∃ k : Nat, k ≤ 2 ∧ u = .int .i64 (catLen nH nQ k) ∧ i = .int .i64 k ∧ wr = w) (fun _ i _ => 2 - (intOf i).toNat)
  case atStart => exact ⟨0, by omega, rfl, rfl, rfl⟩
  case round =>
    obtain ⟨k, hk, rfl, rfl, rfl⟩ := hrel
    rcases (by omega : k = 0 ∨ k = 1 ∨ k = 2) with rfl | rfl | rfl
    · simp only [catLen]
      go_wp2_with fail
      go_roundw
      case rel => exact ⟨1, by omega, by simp [catLen], by go_num, by first | rfl | trivial⟩
      case measure => simp [intOf]
    · simp only [catLen]
      have hs : wrap64 ((nH : Int) + (nQ : Int)) = (nH : Int) + (nQ : Int) := by unfold wrap64; omega
      go_wp2_with fail
      go_roundw
      case rel => exact ⟨2, by omega, by simp [catLen], by go_num, by first | rfl | trivial⟩
      case measure => simp [intOf]
    · simp only [catLen]
      clear q0 q1
      obtain ⟨w0, rfl⟩ : ∃ W, W = wr := ⟨_, rfl⟩
      go_wp2_with fail
      refine (HG.out _).mono ?_
      rintro e w1 ⟨A, c, rfl, hO1, hb1⟩
      clear HG
      go_wp2_with fail
      go_loopw [6, 27] (fun u i wr => ∃ (k : Nat) (A1 : Option Addr) (c1 : Nat), k ≤ 2 ∧ u = .slice A1 (catLen nH nQ k) c1 ∧ i = .int .i64 k ∧ wr.ownsRow w0.heap.size 43 4 (.slice A1 (catLen nH nQ k) c1) (catLen nH nQ k) (holV (catRow ho qu k)) ∧ Below w0.heap.size w0 wr) (fun _ i _ => 2 - (intOf i).toNat)
      case atStart => exact ⟨0, A, c, by omega, rfl, rfl, hO1, hb1⟩
      case round =>
        clear hO1 hb1
        obtain ⟨k, A1, c1, hk, rfl, rfl, hO, hb⟩ := hrel
        have hB := HB.out _ hb
        have q0 := hB.cell 0 _ rfl
        have q1 := hB.cell 1 _ rfl
        have hlq := hB.lt
        rcases (by omega : k = 0 ∨ k = 1 ∨ k = 2) with rfl | rfl | rfl
        · simp only [catLen, catRow] at hO ⊢
          obtain ⟨A2, c2, w2, hrun, hown2, hb2⟩ := append_behind (P := Try.prog) wr wr.heap.size w0.heap.size 27 27 43 i0 _ 4 32 Try.underlying27 hi0 hz0 hz1 hz2 rfl (by omega) (.slice A1 0 c1) 0 (holV ([])) hO hb.size aH nH cH (holV ho) (HH.out _ hb).2 (holV_one _) (by unfold maxLen; omega) (by omega) HC.out.1
          have HO2 : Hid (w2.ownsRow w0.heap.size 43 4 (.slice A2 (0 + nH) c2) (0 + nH) (holV (ho)) ∧ Below w0.heap.size w0 w2) := ⟨by have h := hown2; rwa [show holV ([] : List HoldM) = [] from rfl, List.nil_append] at h, hb.trans hb2⟩
          clear hown2 hb2 hO
          go_wp2_with (at_builtin; refine wpl_append rfl _ _ 27 rfl rfl rfl hrun ?_)
          go_roundw
          case rel => exact ⟨1, A2, c2, by omega, by simp [catLen], by go_num, by simpa [catRow, catLen] using HO2.out.1, HO2.out.2⟩
          case measure => simp [intOf]
        · simp only [catLen, catRow] at hO ⊢
          obtain ⟨A2, c2, w2, hrun, hown2, hb2⟩ := append_behind (P := Try.prog) wr wr.heap.size w0.heap.size 27 27 43 i0 _ 4 32 Try.underlying27 hi0 hz0 hz1 hz2 rfl (by omega) (.slice A1 nH c1) nH (holV (ho)) hO hb.size aQ nQ cQ (holV qu) (HQ.out _ hb).2 (holV_one _) (by unfold maxLen; omega) (by omega) HC.out.2
          have HO2 : Hid (w2.ownsRow w0.heap.size 43 4 (.slice A2 (nH + nQ) c2) (nH + nQ) (holV (ho ++ qu)) ∧ Below w0.heap.size w0 w2) := ⟨by rw [holV_append]; exact hown2, hb.trans hb2⟩
          clear hown2 hb2 hO
          go_wp2_with (at_builtin; refine wpl_append rfl _ _ 27 rfl rfl rfl hrun ?_)
          go_roundw
          case rel => exact ⟨2, A2, c2, by omega, by simp [catLen], by go_num, by simpa [catRow, catLen] using HO2.out.1, HO2.out.2⟩
          case measure => simp [intOf]
        · simp only [catLen, catRow] at hO ⊢
          have HO2 := Lib.hid (And.intro hO hb)
          clear q0 q1 hO hb
          go_wp2_with fail
          go_ret
          exact ⟨_, _, rfl, HO2.out.1, HO2.out.2⟩

end Go.Proofs.Ytjknloaolennoaa
