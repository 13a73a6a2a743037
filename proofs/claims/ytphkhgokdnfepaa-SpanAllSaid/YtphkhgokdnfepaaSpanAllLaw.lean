/-
  The statement SpanAll: where all go together no block is covered by two keys, one of them alone, and whoever fits may be put behind: for every geometry, row of holds, hold and block the call answers true and leaves its arguments as they were. No conditions.
-/
import Derived.Test.YtphkhgokdnfepaaSpanWakes
import Derived.Test.YtphkhgokdnfepaaGeoArg
import Derived.Test.YtphkhgokdnfepaaOwnRows
import Derived.Deep.RegionHeld3
import Derived.Deep.DeepCutAuto
import Derived.Deep.CutBlock
import Derived.BigQuiet
import Derived.ProofKit
import Derived.ShutString
import Derived.ChangeOld
import Derived.Below
namespace Go.Proofs.Ytphkhgokdnfepaa.spanAll
open Go.ChangeShapes Go.WideShapes Go.ChangeAt Go.RowKit
open Go.ChangeMaps (open_string shut_string)
set_option linter.unusedVariables false
set_option linter.unusedSimpArgs false

theorem own : ownKnob Try.prog.godebug = none := by kernel_rfl
theorem laidOut : laidOutB Try.prog = true := by kernel_rfl

theorem geo_cells {w : World} {q : Nat} {N S B P J L E T : Int} {U : TypeId} (p : Blk w q #[.int .i64 N, .int .i64 S, .int .i64 B, .int .i64 P, .int .i64 J, .int .i64 L, .int .i64 E, .int .i64 T] U) :
    w.cell? ⟨q, 0, none⟩ = some (.int .i64 N) ∧ w.cell? ⟨q, 1, none⟩ = some (.int .i64 S) ∧ w.cell? ⟨q, 2, none⟩ = some (.int .i64 B) ∧ w.cell? ⟨q, 3, none⟩ = some (.int .i64 P) ∧ w.cell? ⟨q, 4, none⟩ = some (.int .i64 J) ∧ w.cell? ⟨q, 5, none⟩ = some (.int .i64 L) ∧ w.cell? ⟨q, 6, none⟩ = some (.int .i64 E) ∧ w.cell? ⟨q, 7, none⟩ = some (.int .i64 T) :=
  ⟨p.cell 0 _ rfl, p.cell 1 _ rfl, p.cell 2 _ rfl, p.cell 3 _ rfl, p.cell 4 _ rfl, p.cell 5 _ rfl, p.cell 6 _ rfl, p.cell 7 _ rfl⟩
theorem more_lies {w : World} {B n c : Nat} {A : Option Addr} {l : List HoldM} (hl : l.length = n) (h : w.ownsRow B 28 4 (.slice A n c) n (holV l)) : Hid (∀ W, Below w.heap.size w W → LiesH W W.heap.size A n l) := fun W hb => ⟨hl, ow_lies (ow_up h hb)⟩
theorem infoHold : (Try.prog.info? 28).map (fun i => (i.zero, i.size, i.bytes)) = some (some (.agg #[.int .i64 0, .int .i64 0, .int .i64 0, .int .i8 0]), 4, 32) := by kernel_rfl
theorem atHold {w W0 wr : World} {N S B P J L E T kx lx hx mx : Int} {k : Nat} {ad : Addr} {r : Bool} (hS : Hid (∀ W, Below wr.heap.size wr W → (W.cell? ⟨w.heap.size, 0, none⟩ = some (.int .i64 N) ∧ W.cell? ⟨w.heap.size, 1, none⟩ = some (.int .i64 S) ∧ W.cell? ⟨w.heap.size, 2, none⟩ = some (.int .i64 B) ∧ W.cell? ⟨w.heap.size, 3, none⟩ = some (.int .i64 P) ∧ W.cell? ⟨w.heap.size, 4, none⟩ = some (.int .i64 J) ∧ W.cell? ⟨w.heap.size, 5, none⟩ = some (.int .i64 L) ∧ W.cell? ⟨w.heap.size, 6, none⟩ = some (.int .i64 E) ∧ W.cell? ⟨w.heap.size, 7, none⟩ = some (.int .i64 T)) ∧ (W.cell? (ad.add (k * 4)) = some (.int .i64 kx) ∧ W.cell? ⟨(ad.add (k * 4)).block, (ad.add (k * 4)).off + 1, none⟩ = some (.int .i64 lx) ∧ W.cell? ⟨(ad.add (k * 4)).block, (ad.add (k * 4)).off + 2, none⟩ = some (.int .i64 hx) ∧ W.cell? ⟨(ad.add (k * 4)).block, (ad.add (k * 4)).off + 3, none⟩ = some (.int .i8 mx)) ∧ Below wr.heap.size wr W)) (hr : sHoldB B ⟨kx, ⟨lx, hx⟩, mx⟩ = r) (W : World) (h : (W.cell? ⟨w.heap.size, 0, none⟩ = some (.int .i64 N) ∧ W.cell? ⟨w.heap.size, 1, none⟩ = some (.int .i64 S) ∧ W.cell? ⟨w.heap.size, 2, none⟩ = some (.int .i64 B) ∧ W.cell? ⟨w.heap.size, 3, none⟩ = some (.int .i64 P) ∧ W.cell? ⟨w.heap.size, 4, none⟩ = some (.int .i64 J) ∧ W.cell? ⟨w.heap.size, 5, none⟩ = some (.int .i64 L) ∧ W.cell? ⟨w.heap.size, 6, none⟩ = some (.int .i64 E) ∧ W.cell? ⟨w.heap.size, 7, none⟩ = some (.int .i64 T)) ∧ (W.cell? (ad.add (k * 4)) = some (.int .i64 kx) ∧ W.cell? ⟨(ad.add (k * 4)).block, (ad.add (k * 4)).off + 1, none⟩ = some (.int .i64 lx) ∧ W.cell? ⟨(ad.add (k * 4)).block, (ad.add (k * 4)).off + 2, none⟩ = some (.int .i64 hx) ∧ W.cell? ⟨(ad.add (k * 4)).block, (ad.add (k * 4)).off + 3, none⟩ = some (.int .i8 mx)) ∧ Below wr.heap.size wr W) :
    Calls Try.prog 12 #[.agg #[.int .i64 N, .int .i64 S, .int .i64 B, .int .i64 P, .int .i64 J, .int .i64 L, .int .i64 E, .int .i64 T], .agg #[.int .i64 kx, .int .i64 lx, .int .i64 hx, .int .i8 mx]] W fun e W => e = .returned (.bool r) ∧ (W.cell? ⟨w.heap.size, 0, none⟩ = some (.int .i64 N) ∧ W.cell? ⟨w.heap.size, 1, none⟩ = some (.int .i64 S) ∧ W.cell? ⟨w.heap.size, 2, none⟩ = some (.int .i64 B) ∧ W.cell? ⟨w.heap.size, 3, none⟩ = some (.int .i64 P) ∧ W.cell? ⟨w.heap.size, 4, none⟩ = some (.int .i64 J) ∧ W.cell? ⟨w.heap.size, 5, none⟩ = some (.int .i64 L) ∧ W.cell? ⟨w.heap.size, 6, none⟩ = some (.int .i64 E) ∧ W.cell? ⟨w.heap.size, 7, none⟩ = some (.int .i64 T)) ∧ (W.cell? (ad.add (k * 4)) = some (.int .i64 kx) ∧ W.cell? ⟨(ad.add (k * 4)).block, (ad.add (k * 4)).off + 1, none⟩ = some (.int .i64 lx) ∧ W.cell? ⟨(ad.add (k * 4)).block, (ad.add (k * 4)).off + 2, none⟩ = some (.int .i64 hx) ∧ W.cell? ⟨(ad.add (k * 4)).block, (ad.add (k * 4)).off + 3, none⟩ = some (.int .i8 mx)) ∧ Below wr.heap.size wr W :=
  (refHold_any N S B P J L E T kx lx hx mx W).mono (by rw [hr]; rintro e w' ⟨rfl, hy⟩; exact ⟨rfl, hS.out _ (h.2.2.trans (hy.mono h.2.2.size))⟩)

set_option maxRecDepth 100000 in
set_option maxHeartbeats 4000000 in
theorem walk (g : G) (A : Option Addr) (n c : Nat) (l : List HoldM) (x : HoldM) (b : Int) (w : World) (hl : IsHolds w A n c l) (wx : HoldBd x) (wb : (Lit.int .i64 b).wf = true) :
    Calls Try.prog 5 #[.agg #[.int .i64 g.N, .int .i64 g.S, .int .i64 g.B, .int .i64 g.P, .int .i64 g.J, .int .i64 g.L, .int .i64 g.E, .int .i64 g.T], .slice A n c, .agg #[.int .i64 x.key, .int .i64 x.s.lo, .int .i64 x.s.hi, .int .i8 x.m], .int .i64 b] w fun e w' => e = .returned (.bool true) ∧ Below w.heap.size w w' := by
  clear wx wb
  obtain ⟨N, S, B, P, J, L, E, T⟩ := g
  obtain ⟨kh, ⟨lh, hh⟩, mh⟩ := x
  simp only
  obtain ⟨hA, hn, hnc, hc, -⟩ := hl
  obtain ⟨W0, hW⟩ : ∃ W0, W0 = (w.alloc (.cells #[.int .i64 N, .int .i64 S, .int .i64 B, .int .i64 P, .int .i64 J, .int .i64 L, .int .i64 E, .int .i64 T] 23)).alloc (.cells #[.int .i64 kh, .int .i64 lh, .int .i64 hh, .int .i8 mh] 28) := ⟨_, rfl⟩
  obtain ⟨hbw, p0, p1⟩ : Below w.heap.size w W0 ∧ Blk W0 w.heap.size #[.int .i64 N, .int .i64 S, .int .i64 B, .int .i64 P, .int .i64 J, .int .i64 L, .int .i64 E, .int .i64 T] 23 ∧ Blk W0 (w.heap.size + 1) #[.int .i64 kh, .int .i64 lh, .int .i64 hh, .int .i8 mh] 28 := hW ▸ ⟨two_new w _ _, blk2 w _ _ _ _⟩
  have HL : Hid (l.length = n) := hA.1
  have HA : Hid (∀ W, Below W0.heap.size W0 W → LiesH W W.heap.size A n l) := fun W h => hA.below (below_then hbw h)
  have HN := Lib.hid hn
  have HNC := Lib.hid (And.intro hnc hc)
  have P0 := Lib.hid p0
  have P1 := Lib.hid p1
  have l0 := p0.lt
  have l1 := p1.lt
  clear hA hn hnc hc p0 p1
  by_cases g1 : 40 < n
  · go_enter Try.func5, Try.ntmps5
    go_wp2_with fail
    rw [← hW]
    clear hW
    go_wp2_with fail
    refine (wakes_any _).mono ?_
    rintro e w6 ⟨rfl, hb6⟩
    go_wp2_with fail
    go_ret
    exact ⟨rfl, below_then hbw (below_then (Below.refl _ _) hb6)⟩
  · have g2 : n ≤ 40 := by omega
    clear g1
    go_enter Try.func5, Try.ntmps5
    go_upto_region 3 with fail
    rw [← hW]
    clear hW
    go_wp2_with fail
    go_loopw [9] (fun i wr => ∃ k : Nat, k ≤ n ∧ i = .int .i64 k ∧ Below W0.heap.size W0 wr) (fun i _ => n - (intOf i).toNat)
    case atStart => exact ⟨0, Nat.zero_le _, rfl, Below.refl _ _⟩
    case round =>
      obtain ⟨k, hk, rfl, hb⟩ := hrel
      have l0' : w.heap.size < wr.heap.size := Nat.lt_of_lt_of_le l0 hb.size
      by_cases hlt : k < n
      · have hkl : k < l.length := by rw [HL.out]; exact hlt
        obtain ⟨ad, e1, had, c0, c1, c2, c3⟩ := hol_cells (HA.out _ hb) hlt hkl
        subst e1
        obtain ⟨kx, lx, hx, mx, hxx⟩ : ∃ kx lx hx' mx, l[k] = (⟨kx, ⟨lx, hx'⟩, mx⟩ : HoldM) := ⟨_, _, _, _, rfl⟩
        rw [hxx] at c0 c1 c2 c3
        clear hxx hkl
        have hS : Hid (∀ W, Below wr.heap.size wr W → (W.cell? ⟨w.heap.size, 0, none⟩ = some (.int .i64 N) ∧ W.cell? ⟨w.heap.size, 1, none⟩ = some (.int .i64 S) ∧ W.cell? ⟨w.heap.size, 2, none⟩ = some (.int .i64 B) ∧ W.cell? ⟨w.heap.size, 3, none⟩ = some (.int .i64 P) ∧ W.cell? ⟨w.heap.size, 4, none⟩ = some (.int .i64 J) ∧ W.cell? ⟨w.heap.size, 5, none⟩ = some (.int .i64 L) ∧ W.cell? ⟨w.heap.size, 6, none⟩ = some (.int .i64 E) ∧ W.cell? ⟨w.heap.size, 7, none⟩ = some (.int .i64 T)) ∧ (W.cell? (ad.add (k * 4)) = some (.int .i64 kx) ∧ W.cell? ⟨(ad.add (k * 4)).block, (ad.add (k * 4)).off + 1, none⟩ = some (.int .i64 lx) ∧ W.cell? ⟨(ad.add (k * 4)).block, (ad.add (k * 4)).off + 2, none⟩ = some (.int .i64 hx) ∧ W.cell? ⟨(ad.add (k * 4)).block, (ad.add (k * 4)).off + 3, none⟩ = some (.int .i8 mx)) ∧ Below wr.heap.size wr W) := fun W h =>
          ⟨geo_cells ((P0.out.below hb l0).below h l0'), ⟨(h.cell (by rw [add_block]; exact had)).trans c0, (h.cell (by show (ad.add (k * 4)).block < _; rw [add_block]; exact had)).trans c1, (h.cell (by show (ad.add (k * 4)).block < _; rw [add_block]; exact had)).trans c2, (h.cell (by show (ad.add (k * 4)).block < _; rw [add_block]; exact had)).trans c3⟩, h⟩
        have hD := hS.out _ (Below.refl wr.heap.size wr).drew
        obtain ⟨r, hr⟩ : ∃ r, Hid (sHoldB B ⟨kx, ⟨lx, hx⟩, mx⟩ = r) := ⟨_, rfl⟩
        clear c0 c1 c2 c3
        go_upto_region 6 with fail
        go_region_held3 (fun W => (W.cell? ⟨w.heap.size, 0, none⟩ = some (.int .i64 N) ∧ W.cell? ⟨w.heap.size, 1, none⟩ = some (.int .i64 S) ∧ W.cell? ⟨w.heap.size, 2, none⟩ = some (.int .i64 B) ∧ W.cell? ⟨w.heap.size, 3, none⟩ = some (.int .i64 P) ∧ W.cell? ⟨w.heap.size, 4, none⟩ = some (.int .i64 J) ∧ W.cell? ⟨w.heap.size, 5, none⟩ = some (.int .i64 L) ∧ W.cell? ⟨w.heap.size, 6, none⟩ = some (.int .i64 E) ∧ W.cell? ⟨w.heap.size, 7, none⟩ = some (.int .i64 T)) ∧ (W.cell? (ad.add (k * 4)) = some (.int .i64 kx) ∧ W.cell? ⟨(ad.add (k * 4)).block, (ad.add (k * 4)).off + 1, none⟩ = some (.int .i64 lx) ∧ W.cell? ⟨(ad.add (k * 4)).block, (ad.add (k * 4)).off + 2, none⟩ = some (.int .i64 hx) ∧ W.cell? ⟨(ad.add (k * 4)).block, (ad.add (k * 4)).off + 3, none⟩ = some (.int .i8 mx)) ∧ Below wr.heap.size wr W) (first | assumption)
          (first
            | (go_at_call 12; (with_reducible refine (atHold (w := w) (W0 := W0) hS hr.out _ ?_).mono ?_); assumption; rintro e w2 ⟨rfl, hN⟩))
        have hb3 : Below W0.heap.size W0 w2 := below_then hb hN.2.2
        clear hN hD hS
        cases r
        · clear hr
          go_wp2_with fail
          refine (wakes_any _).mono ?_
          rintro e w6 ⟨rfl, hb6⟩
          go_wp2_with fail
          go_ret
          exact ⟨rfl, below_then hbw (below_then hb3 hb6)⟩
        · clear hr
          go_wp2_with fail
          go_roundw
          case rel => exact ⟨k + 1, by omega, by go_num, hb3⟩
          case measure => simp [intOf]; omega
      · obtain rfl : n = k := by omega
        clear hlt
        go_wp2_with fail
        refine (All_any A n c l _ (HA.out _ hb) HN.out HNC.out.1 HNC.out.2).mono ?_
        rintro e w2 ⟨rfl, hx2⟩
        have hb2 := below_then hb hx2
        clear hx2 hb l0'
        obtain ⟨r, hr⟩ : ∃ r, Hid (sAll l = r) := ⟨_, rfl⟩
        rw [hr.out]
        cases r
        · clear hr
          go_wp2_with fail
          refine (wakes_any _).mono ?_
          rintro e w6 ⟨rfl, hb6⟩
          go_wp2_with fail
          go_ret
          exact ⟨rfl, below_then hbw (below_then hb2 hb6)⟩
        · go_wp2_with fail
          go_loopw [10] (fun i wr => ∃ k : Nat, k ≤ n ∧ i = .int .i64 k ∧ Below W0.heap.size W0 wr) (fun i _ => n - (intOf i).toNat)
          case atStart => exact ⟨0, Nat.zero_le _, rfl, hb2⟩
          case round =>
            obtain ⟨i, hi, rfl, hbi⟩ := hrel
            by_cases hlt : i < n
            · have hil : i < l.length := by rw [HL.out]; exact hlt
              obtain ⟨ki, li, hi', mi, hxi⟩ : ∃ kx lx hx' mx, l[i] = (⟨kx, ⟨lx, hx'⟩, mx⟩ : HoldM) := ⟨_, _, _, _, rfl⟩
              have HXI : Hid (∃ h : i < l.length, l[i] = (⟨ki, ⟨li, hi'⟩, mi⟩ : HoldM)) := ⟨hil, hxi⟩
              clear hxi hil
              go_wp2_with fail
              go_loopw [11] (fun j wr => ∃ k : Nat, k ≤ n ∧ j = .int .i64 k ∧ Below W0.heap.size W0 wr) (fun j _ => n - (intOf j).toNat)
              case atStart => exact ⟨0, Nat.zero_le _, rfl, hbi⟩
              case round =>
                obtain ⟨j, hj, rfl, hbj⟩ := hrel
                by_cases hlj : j < n
                · have hjl : j < l.length := by rw [HL.out]; exact hlj
                  obtain ⟨ad, e1, had, c0, -, -, -⟩ := hol_cells (HA.out _ hbj) hlt HXI.out.1
                  subst e1
                  obtain ⟨ad', e1, -, d0, -, -, -⟩ := hol_cells (HA.out _ hbj) hlj hjl
                  injection e1 with e1
                  subst e1
                  rw [HXI.out.2] at c0
                  obtain ⟨kj, lj, hj', mj, hxj⟩ : ∃ kx lx hx' mx, l[j] = (⟨kx, ⟨lx, hx'⟩, mx⟩ : HoldM) := ⟨_, _, _, _, rfl⟩
                  rw [hxj] at d0
                  simp only at c0 d0
                  clear hxj hjl
                  go_upto_region 16 with fail
                  go_quiet (fail)
                  cases hne : ki != kj with
                  | false =>
                    clear c0 d0
                    go_wp2_with fail
                    go_roundw
                    case rel => exact ⟨j + 1, by omega, by go_num, hbj.trans (drewN_below _ _ _)⟩
                    case measure => simp [intOf]; omega
                  | true =>
                    have hne' := hne
                    obtain ⟨r1, hr1⟩ : ∃ r, Hid (sCov l ki b 2 = r) := ⟨_, rfl⟩
                    clear c0 d0
                    go_wp2_with fail
                    refine (Covers_any _ n c l ki b 2 _ (HA.out _ (hbj.trans (drewN_below _ _ _))) HN.out).mono ?_
                    rintro e w3 ⟨rfl, hx3⟩
                    have hb3 := below_then (hbj.trans (drewN_below _ _ _)) hx3
                    rw [hr1.out]
                    cases r1
                    · clear hx3
                      go_wp2_with fail
                      go_roundw
                      case rel => exact ⟨j + 1, by omega, by go_num, hb3⟩
                      case measure => simp [intOf]; omega
                    · have HF : Hid (sCov l kj b 1 = false) := s_all_cov hr.out (by intro h; subst h; simp at hne') hr1.out
                      clear hx3 hne hne'
                      go_wp2_with fail
                      refine (Covers_any _ n c l kj b 1 _ (HA.out _ hb3) HN.out).mono ?_
                      rintro e w4 ⟨rfl, hx4⟩
                      have hb4 := below_then hb3 hx4
                      rw [HF.out]
                      clear hx4
                      go_wp2_with fail
                      go_roundw
                      case rel => exact ⟨j + 1, by omega, by go_num, hb4⟩
                      case measure => simp [intOf]; omega
                · have hjn : j = n := by omega
                  obtain ⟨ad, e1, had, c0, c1, c2, c3⟩ := hol_cells (HA.out _ hbj) hlt HXI.out.1
                  subst e1
                  rw [HXI.out.2] at c0 c1 c2 c3
                  have HF : Hid (sFits ⟨ki, ⟨li, hi'⟩, mi⟩ l = true) := by
                    show _ = _
                    rw [← HXI.out.2]
                    exact s_all_fits hr.out _
                  clear hlj
                  go_wp2_with fail
                  refine (Fits_any ki li hi' mi _ n c l _ (HA.out _ hbj) HN.out).mono ?_
                  rintro e w3 ⟨rfl, hx3⟩
                  rw [HF.out]
                  go_wp2_with fail
                  go_roundw
                  case rel => exact ⟨i + 1, by omega, by go_num, below_then hbj hx3⟩
                  case measure => simp [intOf]; omega
            · obtain rfl : n = i := by omega
              clear hlt
              go_upto_region 21 with fail
              go_cut [14] (fun v wx => ∃ A' c', v = .slice A' (n + 1) c' ∧ wx.ownsRow W0.heap.size 28 4 (.slice A' (n + 1) c') (n + 1) (holV (l ++ [⟨kh, ⟨lh, hh⟩, mh⟩])) ∧ Below W0.heap.size W0 wx)
              case first =>
                obtain ⟨V0, zV0⟩ : ∃ V, V = wr.drew := ⟨_, rfl⟩
                have hbi' : Below W0.heap.size W0 V0 := zV0 ▸ hbi.drew
                have hS2 : Hid (∀ W, Below V0.heap.size V0 W → (W.cell? ⟨w.heap.size + 1, 0, none⟩ = some (.int .i64 kh) ∧ W.cell? ⟨w.heap.size + 1, 1, none⟩ = some (.int .i64 lh) ∧ W.cell? ⟨w.heap.size + 1, 2, none⟩ = some (.int .i64 hh) ∧ W.cell? ⟨w.heap.size + 1, 3, none⟩ = some (.int .i8 mh)) ∧ Below V0.heap.size V0 W) := fun W h => ⟨hold_cells ((P1.out.below hbi' l1).below h (Nat.lt_of_lt_of_le l1 hbi'.size)), h⟩
                have bV0 := Below.refl V0.heap.size V0
                obtain ⟨i0, hi0, hz0, hz1, hz2⟩ := info_parts infoHold
                refine wp_region_held_drew (S := (fun W => (W.cell? ⟨w.heap.size + 1, 0, none⟩ = some (.int .i64 kh) ∧ W.cell? ⟨w.heap.size + 1, 1, none⟩ = some (.int .i64 lh) ∧ W.cell? ⟨w.heap.size + 1, 2, none⟩ = some (.int .i64 hh) ∧ W.cell? ⟨w.heap.size + 1, 3, none⟩ = some (.int .i8 mh)) ∧ Below V0.heap.size V0 W)) (by kernel_rfl) ?_ (fun hHeld => ?_)
                focus (rw [← zV0]; exact hS2.out _ (Below.refl _ _))
                rw [← zV0] at hHeld ⊢
                clear zV0
                refine wpAnyH_take (i := 1) (oi := ⟨some 82, _, _, _, _, _⟩) (v := ?_) rfl (by kernel_rfl) (by kernel_rfl) (by kernel_rfl) (fun _ _ _ h => h) (Or.inl ⟨by rfl, ?_⟩) (by assumption) ?_
                rotate_left
                focus (intro wq hSq; (try dsimp only at hSq); go_simp; try with_reducible rfl)
                try simp only [Act.put, List.setIfInBounds_toArray, List.set_cons_zero, List.set_cons_succ]
                refine wpAnyH_take (i := 3) (oi := ⟨some 84, _, _, _, _, _⟩) (v := ?_) rfl (by kernel_rfl) (by kernel_rfl) (by kernel_rfl) (fun _ _ _ h => h) (Or.inl ⟨by rfl, ?_⟩) (by assumption) ?_
                rotate_left
                focus (intro wq hSq; (try dsimp only at hSq); go_simp; try with_reducible rfl)
                try simp only [Act.put, List.setIfInBounds_toArray, List.set_cons_zero, List.set_cons_succ]
                refine wpAnyH_ready (rs := [0, 4]) (by kernel_rfl) (by simp) ?_
                refine AllReadyH.cons (o := ⟨some 81, _, _, _, _, _⟩) rfl (fun K hK => ?_) (AllReadyH.cons (o := ⟨some 85, _, _, _, _, _⟩) rfl (fun K hK => ?_) AllReadyH.nil)
                · have bV1 : Below V0.heap.size V0 (V0.alloc (.cells #[] 28)) := bV0.alloc bV0.size _
                  have litV1 : (V0.alloc (.cells #[] 28)).ownsRow V0.heap.size 28 4 (.slice (some ⟨V0.heap.size, 0, none⟩) 0 0) 0 [] := World.ownsRow_lit V0 #[] 0 bV0.size (Nat.zero_le _) rfl
                  have upV1 := one_new V0 (.cells #[] 28)
                  go_simp
                  refine hK.out _ _ ?_ (fun hHeld => ?_)
                  focus (exact hS2.out _ bV1)
                  clear hK K
                  try simp only [Act.put, List.setIfInBounds_toArray, List.set_cons_zero, List.set_cons_succ]
                  obtain ⟨V1, zV1⟩ : ∃ W, W = V0.alloc (.cells #[] 28) := ⟨_, rfl⟩
                  rw [← zV1] at bV1 litV1 upV1 ⊢
                  clear zV1 hHeld
                  refine wpAnyH_ready (rs := [2, 4]) (by kernel_rfl) (by simp) ?_
                  refine AllReadyH.cons (o := ⟨some 83, _, _, _, _, _⟩) rfl (fun K hK => ?_) (AllReadyH.cons (o := ⟨some 85, _, _, _, _, _⟩) rfl (fun K hK => ?_) AllReadyH.nil)
                  · obtain ⟨A1, c1, V2, hrun, accV2, upV2⟩ := append_first (P := Try.prog) V1 V1.heap.size V0.heap.size 29 29 28 i0 _ 4 32 Try.underlying29 hi0 hz0 hz1 hz2 rfl (by omega) V0.heap.size litV1 bV1.size A n c (holV l) (HA.out _ (below_then hbi' bV1)).2 HN.out (by omega)
                    have bV2 : Below V0.heap.size V0 V2 := below_then bV1 upV2
                    refine step_append rfl (.tmp 81) (.tmp 82) 29 rfl (by simp [Act.eval, Act.put]) (by simp [Act.eval, Act.put]) hrun ?_
                    refine hK.out _ _ ?_ (fun hHeld => ?_)
                    focus (exact hS2.out _ bV2)
                    clear hK K hrun hHeld
                    try simp only [Act.put, List.setIfInBounds_toArray, List.set_cons_zero, List.set_cons_succ]
                    refine wpAnyH_ready (rs := [4]) (by kernel_rfl) (by simp) ?_
                    refine AllReadyH.cons (o := ⟨some 85, _, _, _, _, _⟩) rfl (fun K hK => ?_) AllReadyH.nil
                    have bV3 : Below V0.heap.size V0 (V2.alloc (.cells #[.int .i64 kh, .int .i64 lh, .int .i64 hh, .int .i8 mh] 28)) := bV2.alloc bV2.size _
                    have oneV3 := LiesH.one (Blk.new V2 #[.int .i64 kh, .int .i64 lh, .int .i64 hh, .int .i8 mh] 28)
                    have upV3 := one_new V2 (.cells #[.int .i64 kh, .int .i64 lh, .int .i64 hh, .int .i8 mh] 28)
                    go_simp
                    refine hK.out _ _ ?_ (fun hHeld => ?_)
                    focus (exact hS2.out _ bV3)
                    clear hK K
                    try simp only [Act.put, List.setIfInBounds_toArray, List.set_cons_zero, List.set_cons_succ]
                    obtain ⟨V3, zV3⟩ : ∃ W, W = V2.alloc (.cells #[.int .i64 kh, .int .i64 lh, .int .i64 hh, .int .i8 mh] 28) := ⟨_, rfl⟩
                    rw [← zV3] at bV3 oneV3 upV3 ⊢
                    clear zV3 hHeld
                    refine wpAnyH_ready (rs := [5]) (by kernel_rfl) (by simp) ?_
                    refine AllReadyH.cons (o := ⟨some 86, _, _, _, _, _⟩) rfl (fun K hK => ?_) AllReadyH.nil
                    obtain ⟨A2, c2, V4, hrun, accV4, upV4⟩ := append_behind (P := Try.prog) V3 V3.heap.size V0.heap.size 29 29 28 i0 _ 4 32 Try.underlying29 hi0 hz0 hz1 hz2 rfl (by omega) (.slice A1 n c1) n (holV l) (ow_up accV2 upV3) bV3.size (some ⟨V2.heap.size, 0, none⟩) 1 1 (holV [⟨kh, ⟨lh, hh⟩, mh⟩]) oneV3.2 (holV_one _) (by have := HN.out; unfold maxLen; omega) (by omega) (fun h => by cases h)
                    have bV4 : Below V0.heap.size V0 V4 := bV3.trans upV4
                    refine step_append rfl (.tmp 83) (.tmp 85) 29 rfl (by simp [Act.eval, Act.put]) (by simp [Act.eval, Act.put]) hrun ?_
                    refine hK.out _ _ ?_ (fun hHeld => ?_)
                    focus (exact hS2.out _ bV4)
                    clear hK K hrun hHeld
                    try simp only [Act.put, List.setIfInBounds_toArray, List.set_cons_zero, List.set_cons_succ]
                    have hHeld := hS2.out _ bV4
                    refine wpAnyH_take (i := 6) (oi := ⟨some 14, _, _, _, _, _⟩) (v := ?_) rfl (by kernel_rfl) (by kernel_rfl) (by kernel_rfl) (fun _ _ _ h => h) (Or.inl ⟨by rfl, ?_⟩) (by assumption) ?_
                    rotate_left
                    focus (intro wq hSq; (try dsimp only at hSq); go_simp; try with_reducible rfl)
                    try simp only [Act.put, List.setIfInBounds_toArray, List.set_cons_zero, List.set_cons_succ]
                    refine wpAnyH_done (by kernel_rfl) ?_ _
                    go_wp2_with fail
                    go_meet
                    exact ⟨_, _, rfl, by rw [holV_append]; exact ow_less accV4 hbi'.size, below_then hbi' bV4⟩
                  · have bV2 : Below V0.heap.size V0 (V1.alloc (.cells #[.int .i64 kh, .int .i64 lh, .int .i64 hh, .int .i8 mh] 28)) := bV1.alloc bV1.size _
                    have oneV2 := LiesH.one (Blk.new V1 #[.int .i64 kh, .int .i64 lh, .int .i64 hh, .int .i8 mh] 28)
                    have upV2 := one_new V1 (.cells #[.int .i64 kh, .int .i64 lh, .int .i64 hh, .int .i8 mh] 28)
                    go_simp
                    refine hK.out _ _ ?_ (fun hHeld => ?_)
                    focus (exact hS2.out _ bV2)
                    clear hK K
                    try simp only [Act.put, List.setIfInBounds_toArray, List.set_cons_zero, List.set_cons_succ]
                    obtain ⟨V2, zV2⟩ : ∃ W, W = V1.alloc (.cells #[.int .i64 kh, .int .i64 lh, .int .i64 hh, .int .i8 mh] 28) := ⟨_, rfl⟩
                    rw [← zV2] at bV2 oneV2 upV2 ⊢
                    clear zV2 hHeld
                    refine wpAnyH_ready (rs := [2]) (by kernel_rfl) (by simp) ?_
                    refine AllReadyH.cons (o := ⟨some 83, _, _, _, _, _⟩) rfl (fun K hK => ?_) AllReadyH.nil
                    obtain ⟨A1, c1, V3, hrun, accV3, upV3⟩ := append_first (P := Try.prog) V2 V2.heap.size V0.heap.size 29 29 28 i0 _ 4 32 Try.underlying29 hi0 hz0 hz1 hz2 rfl (by omega) V0.heap.size (ow_up litV1 upV2) bV2.size A n c (holV l) (HA.out _ (below_then hbi' bV2)).2 HN.out (by omega)
                    have bV3 : Below V0.heap.size V0 V3 := below_then bV2 upV3
                    refine step_append rfl (.tmp 81) (.tmp 82) 29 rfl (by simp [Act.eval, Act.put]) (by simp [Act.eval, Act.put]) hrun ?_
                    refine hK.out _ _ ?_ (fun hHeld => ?_)
                    focus (exact hS2.out _ bV3)
                    clear hK K hrun hHeld
                    try simp only [Act.put, List.setIfInBounds_toArray, List.set_cons_zero, List.set_cons_succ]
                    refine wpAnyH_ready (rs := [5]) (by kernel_rfl) (by simp) ?_
                    refine AllReadyH.cons (o := ⟨some 86, _, _, _, _, _⟩) rfl (fun K hK => ?_) AllReadyH.nil
                    obtain ⟨A2, c2, V4, hrun, accV4, upV4⟩ := append_behind (P := Try.prog) V3 V3.heap.size V0.heap.size 29 29 28 i0 _ 4 32 Try.underlying29 hi0 hz0 hz1 hz2 rfl (by omega) (.slice A1 n c1) n (holV l) accV3 bV3.size (some ⟨V1.heap.size, 0, none⟩) 1 1 (holV [⟨kh, ⟨lh, hh⟩, mh⟩]) (oneV2.below upV3).2 (holV_one _) (by have := HN.out; unfold maxLen; omega) (by omega) (fun h => by cases h)
                    have bV4 : Below V0.heap.size V0 V4 := bV3.trans upV4
                    refine step_append rfl (.tmp 83) (.tmp 85) 29 rfl (by simp [Act.eval, Act.put]) (by simp [Act.eval, Act.put]) hrun ?_
                    refine hK.out _ _ ?_ (fun hHeld => ?_)
                    focus (exact hS2.out _ bV4)
                    clear hK K hrun hHeld
                    try simp only [Act.put, List.setIfInBounds_toArray, List.set_cons_zero, List.set_cons_succ]
                    have hHeld := hS2.out _ bV4
                    refine wpAnyH_take (i := 6) (oi := ⟨some 14, _, _, _, _, _⟩) (v := ?_) rfl (by kernel_rfl) (by kernel_rfl) (by kernel_rfl) (fun _ _ _ h => h) (Or.inl ⟨by rfl, ?_⟩) (by assumption) ?_
                    rotate_left
                    focus (intro wq hSq; (try dsimp only at hSq); go_simp; try with_reducible rfl)
                    try simp only [Act.put, List.setIfInBounds_toArray, List.set_cons_zero, List.set_cons_succ]
                    refine wpAnyH_done (by kernel_rfl) ?_ _
                    go_wp2_with fail
                    go_meet
                    exact ⟨_, _, rfl, by rw [holV_append]; exact ow_less accV4 hbi'.size, below_then hbi' bV4⟩
                · have bV1 : Below V0.heap.size V0 (V0.alloc (.cells #[.int .i64 kh, .int .i64 lh, .int .i64 hh, .int .i8 mh] 28)) := bV0.alloc bV0.size _
                  have oneV1 := LiesH.one (Blk.new V0 #[.int .i64 kh, .int .i64 lh, .int .i64 hh, .int .i8 mh] 28)
                  have upV1 := one_new V0 (.cells #[.int .i64 kh, .int .i64 lh, .int .i64 hh, .int .i8 mh] 28)
                  go_simp
                  refine hK.out _ _ ?_ (fun hHeld => ?_)
                  focus (exact hS2.out _ bV1)
                  clear hK K
                  try simp only [Act.put, List.setIfInBounds_toArray, List.set_cons_zero, List.set_cons_succ]
                  obtain ⟨V1, zV1⟩ : ∃ W, W = V0.alloc (.cells #[.int .i64 kh, .int .i64 lh, .int .i64 hh, .int .i8 mh] 28) := ⟨_, rfl⟩
                  rw [← zV1] at bV1 oneV1 upV1 ⊢
                  clear zV1 hHeld
                  refine wpAnyH_ready (rs := [0]) (by kernel_rfl) (by simp) ?_
                  refine AllReadyH.cons (o := ⟨some 81, _, _, _, _, _⟩) rfl (fun K hK => ?_) AllReadyH.nil
                  have bV2 : Below V0.heap.size V0 (V1.alloc (.cells #[] 28)) := bV1.alloc bV1.size _
                  have litV2 : (V1.alloc (.cells #[] 28)).ownsRow V0.heap.size 28 4 (.slice (some ⟨V1.heap.size, 0, none⟩) 0 0) 0 [] := World.ownsRow_lit V1 #[] 0 bV1.size (Nat.zero_le _) rfl
                  have upV2 := one_new V1 (.cells #[] 28)
                  go_simp
                  refine hK.out _ _ ?_ (fun hHeld => ?_)
                  focus (exact hS2.out _ bV2)
                  clear hK K
                  try simp only [Act.put, List.setIfInBounds_toArray, List.set_cons_zero, List.set_cons_succ]
                  obtain ⟨V2, zV2⟩ : ∃ W, W = V1.alloc (.cells #[] 28) := ⟨_, rfl⟩
                  rw [← zV2] at bV2 litV2 upV2 ⊢
                  clear zV2 hHeld
                  refine wpAnyH_ready (rs := [2]) (by kernel_rfl) (by simp) ?_
                  refine AllReadyH.cons (o := ⟨some 83, _, _, _, _, _⟩) rfl (fun K hK => ?_) AllReadyH.nil
                  obtain ⟨A1, c1, V3, hrun, accV3, upV3⟩ := append_first (P := Try.prog) V2 V2.heap.size V0.heap.size 29 29 28 i0 _ 4 32 Try.underlying29 hi0 hz0 hz1 hz2 rfl (by omega) V1.heap.size litV2 bV2.size A n c (holV l) (HA.out _ (below_then hbi' bV2)).2 HN.out (by omega)
                  have bV3 : Below V0.heap.size V0 V3 := below_then bV2 upV3
                  refine step_append rfl (.tmp 81) (.tmp 82) 29 rfl (by simp [Act.eval, Act.put]) (by simp [Act.eval, Act.put]) hrun ?_
                  refine hK.out _ _ ?_ (fun hHeld => ?_)
                  focus (exact hS2.out _ bV3)
                  clear hK K hrun hHeld
                  try simp only [Act.put, List.setIfInBounds_toArray, List.set_cons_zero, List.set_cons_succ]
                  refine wpAnyH_ready (rs := [5]) (by kernel_rfl) (by simp) ?_
                  refine AllReadyH.cons (o := ⟨some 86, _, _, _, _, _⟩) rfl (fun K hK => ?_) AllReadyH.nil
                  obtain ⟨A2, c2, V4, hrun, accV4, upV4⟩ := append_behind (P := Try.prog) V3 V3.heap.size V0.heap.size 29 29 28 i0 _ 4 32 Try.underlying29 hi0 hz0 hz1 hz2 rfl (by omega) (.slice A1 n c1) n (holV l) accV3 bV3.size (some ⟨V0.heap.size, 0, none⟩) 1 1 (holV [⟨kh, ⟨lh, hh⟩, mh⟩]) ((oneV1.below upV2).below upV3).2 (holV_one _) (by have := HN.out; unfold maxLen; omega) (by omega) (fun h => by cases h)
                  have bV4 : Below V0.heap.size V0 V4 := bV3.trans upV4
                  refine step_append rfl (.tmp 83) (.tmp 85) 29 rfl (by simp [Act.eval, Act.put]) (by simp [Act.eval, Act.put]) hrun ?_
                  refine hK.out _ _ ?_ (fun hHeld => ?_)
                  focus (exact hS2.out _ bV4)
                  clear hK K hrun hHeld
                  try simp only [Act.put, List.setIfInBounds_toArray, List.set_cons_zero, List.set_cons_succ]
                  have hHeld := hS2.out _ bV4
                  refine wpAnyH_take (i := 6) (oi := ⟨some 14, _, _, _, _, _⟩) (v := ?_) rfl (by kernel_rfl) (by kernel_rfl) (by kernel_rfl) (fun _ _ _ h => h) (Or.inl ⟨by rfl, ?_⟩) (by assumption) ?_
                  rotate_left
                  focus (intro wq hSq; (try dsimp only at hSq); go_simp; try with_reducible rfl)
                  try simp only [Act.put, List.setIfInBounds_toArray, List.set_cons_zero, List.set_cons_succ]
                  refine wpAnyH_done (by kernel_rfl) ?_ _
                  go_wp2_with fail
                  go_meet
                  exact ⟨_, _, rfl, by rw [holV_append]; exact ow_less accV4 hbi'.size, below_then hbi' bV4⟩
              case rest =>
                obtain ⟨A', c', rfl, hown, hbx⟩ := hcut
                obtain ⟨A2, c2, e1, h1, h2⟩ := ow_shape hown
                injection e1 with e2 _ e3
                subst e2 e3
                have HO := more_lies (by rw [List.length_append, HL.out]; rfl) hown
                have HB := Lib.hid (And.intro h1 h2)
                have HQ := Lib.hid (s_all_more (x := ⟨kh, ⟨lh, hh⟩, mh⟩) hr.out)
                obtain ⟨r, hr2⟩ : ∃ r, Hid (sFits ⟨kh, ⟨lh, hh⟩, mh⟩ l = r) := ⟨_, rfl⟩
                rw [hr2.out] at HQ
                have l1' := Nat.lt_of_lt_of_le l1 hbx.size
                obtain ⟨d0, d1, d2, d3⟩ := hold_cells (P1.out.below hbx l1)
                have e1 : (r == r) = true := by simp
                clear hown h1 h2 hr
                go_wp2_with fail
                refine (Fits_any kh lh hh mh A n c l _ (HA.out _ hbx) HN.out).mono ?_
                rintro e w3 ⟨rfl, hx3⟩
                rw [hr2.out]
                clear d0 d1 d2 d3
                go_wp2_with fail
                refine (All_any A' (n + 1) c' _ _ (HO.out _ hx3) (by have := HB.out; omega) HB.out.1 HB.out.2).mono ?_
                rintro e w4 ⟨rfl, hx4⟩
                rw [HQ.out]
                have hb4 := below_then (below_then hbx hx3) hx4
                clear hx3 hx4
                go_wp2_with fail
                refine (wakes_any _).mono ?_
                rintro e w5 ⟨rfl, hx5⟩
                go_wp2_with fail
                go_ret
                exact ⟨rfl, below_then hbw (below_then hb4 hx5)⟩

/-! ### THE ROW's STEP -/
set_option maxRecDepth 100000 in
theorem lifted (os : Os) (started : os.Started) (H : Type) (enc : TypeId × Value → H) :
    ReturnsInHanded {} Try.checked os 5 .any (Rows.spanAllSpec.pre6 enc Try.prog Try.f5 Rows.spanAllRow.domain false) (Rows.spanAllSpec.post enc Try.prog Try.f5 false true false false) := by
  refine returnsInHanded_of_change (C := Try.checked) own started (by kernel_rfl) Try.func5
    (ChangeSpec.witness6 (enc := enc) (C := Try.checked) false ⟨#[], #[.agg #[.int .i64 0, .int .i64 0, .int .i64 0, .int .i64 0, .int .i64 0, .int .i64 0, .int .i64 0, .int .i64 0], .slice none 0 0, .agg #[.int .i64 0, .int .i64 0, .int .i64 0, .int .i8 0], .int .i64 0], []⟩ 8 (by kernel_rfl) (by kernel_rfl) (by kernel_rfl) (by kernel_rfl)) ?_
  intro W base args ds gs before hval0 hW hcnd _
  have hval : ∀ (j : Nat) t v, Try.f5.params[j]? = some t → args[j]? = some v → Value.okWide Try.prog W .any base t v := hval0
  have hW' := hW
  obtain ⟨p, q, hA0, hV, rfl, hfz, hnd⟩ := hW
  have hA : DataW.TrodAll enc Try.prog W 0 (fun _ => true) true Try.f5.params.toList args.toList ds p := hA0
  rw [Try.params5] at hA hval
  obtain ⟨v0, vs0, d0, ds0, p0, q0, hargs, rfl, rfl, h0, r0⟩ := trodAll_cons hA
  obtain ⟨v1, vs1, d1, ds1, p1, q1, rfl, rfl, rfl, h1, r1⟩ := trodAll_cons r0
  obtain ⟨v2, vs2, d2, ds2, p2, q2, rfl, rfl, rfl, h2, r2⟩ := trodAll_cons r1
  obtain ⟨v3, vs3, d3, ds3, p3, q3, rfl, rfl, rfl, h3, r3⟩ := trodAll_cons r2
  obtain ⟨rfl, rfl, rfl⟩ := trodAll_nil r3
  obtain rfl : args = #[v0, v1, v2, v3] := by cases args; simp_all
  obtain ⟨rfl, rfl⟩ := trodVars_none hV
  have k0 := h0
  have lt0 : ∀ x ∈ p0, x.block < W.heap.size := by obtain ⟨m, hm⟩ := k0; exact DataW.trod_lt m _ _ _ hm
  obtain ⟨g0, rfl⟩ := open_geo (hval 0 23 v0 rfl rfl) h0
  have k1 := h1
  have lt1 : ∀ x ∈ p1, x.block < W.heap.size := by obtain ⟨m, hm⟩ := k1; exact DataW.trod_lt m _ _ _ hm
  obtain ⟨a1, len1, cap1, L1, rfl, w1⟩ := open_holds (hval 1 29 v1 rfl rfl) h1
  have k2 := h2
  have lt2 : ∀ x ∈ p2, x.block < W.heap.size := by obtain ⟨m, hm⟩ := k2; exact DataW.trod_lt m _ _ _ hm
  obtain ⟨g2, rfl, w2⟩ := open_hold (hval 2 28 v2 rfl rfl) h2
  obtain ⟨a3, rfl, rfl, rfl, w3⟩ := open_int Try.underlying3 (hval 3 3 v3 rfl rfl) h3
  clear hA0 hval0
  refine (walk g0 a1 len1 cap1 L1 g2 a3 W w1 w2 w3).mono fun e W' ⟨he, bel⟩ => ?_
  subst he
  exact ⟨_, rfl, _, _, _, [], _, [], hW', trodAll_mk1 (shut_bool Try.underlying4 _), (trodAll_cons_mk (Below.trod laidOut (by kernel_rfl) (of_decide_eq_true (by kernel_rfl)) k0 bel lt0) (trodAll_cons_mk (Below.trod laidOut (by kernel_rfl) (of_decide_eq_true (by kernel_rfl)) k1 bel lt1) (trodAll_cons_mk (Below.trod laidOut (by kernel_rfl) (of_decide_eq_true (by kernel_rfl)) k2 bel lt2) (trodAll_cons_mk (shut_int Try.underlying3 w3) trodAll_mk0)))), rfl, bel.frame _, fun h => by cases h⟩

theorem over : Rows.spanAllRow.holds Try.pinned (OpenSpec.ofChange Rows.spanAllSpec) :=
  OpenClaim.holds_of_wide 5 Try.f5 rfl rfl rfl rfl rfl rfl rfl ⟨rfl, rfl, rfl, rfl, rfl⟩ rfl rfl rfl rfl rfl (by kernel_rfl) Try.func5 (by kernel_rfl)
    (of_decide_eq_true (by kernel_rfl)) (by unfold Func.isWrapper; first | (rw [if_pos (by decide +kernel)]; kernel_rfl) | (rw [if_neg (by decide +kernel)]; exact ⟨rfl, rfl⟩))
    (fun os started H enc _ => lifted os started H enc)

/-- The statement. -/
theorem proved : Rows.SpanAllSaid := over
#print axioms proved

end Go.Proofs.Ytphkhgokdnfepaa.spanAll
