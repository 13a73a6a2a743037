/-
  The statement SpanBlocks: two spans overlap just if some block is of both, and overlapping and going together go either way: for every two holds the call answers true and leaves its arguments as they were. No conditions.
-/
import Derived.Test.YtphkhgokdnfepaaSpanWakes
import Derived.Test.YtphkhgokdnfepaaGeoArg
import Derived.Deep.RegionHeld3
import Derived.Deep.DeepCutAuto
import Derived.Deep.CutBlock
import Derived.ProofKit
import Derived.ShutString
import Derived.ChangeOld
import Derived.Below
namespace Go.Proofs.Ytphkhgokdnfepaa.spanBlocks
open Go.ChangeShapes Go.WideShapes Go.ChangeAt Go.RowKit
open Go.ChangeMaps (open_string shut_string)
set_option linter.unusedVariables false
set_option linter.unusedSimpArgs false

theorem own : ownKnob Try.prog.godebug = none := by kernel_rfl
theorem laidOut : laidOutB Try.prog = true := by kernel_rfl

theorem span2_cells {w : World} {q : Nat} {a b c d : Int} {T : TypeId} (p : Blk w q #[.int .i64 a, .int .i64 b, .int .i64 c, .int .i64 d] T) :
    w.cell? ⟨q, 0, none⟩ = some (.int .i64 a) ∧ w.cell? ⟨q, 1, none⟩ = some (.int .i64 b) ∧ w.cell? ⟨q, 2, none⟩ = some (.int .i64 c) ∧ w.cell? ⟨q, 3, none⟩ = some (.int .i64 d) :=
  ⟨p.cell 0 _ rfl, p.cell 1 _ rfl, p.cell 2 _ rfl, p.cell 3 _ rfl⟩
theorem some_yes {a b : SpanM} {k : Nat} (h : sSome a b k = true) : sSome a b (k + 1) = true := by rw [s_some_succ, h]; rfl
theorem some_no {la ha lb hb : Int} {k : Nat} (h : sSome ⟨la, ha⟩ ⟨lb, hb⟩ k = false) (h2 : decide (la ≤ (k : Int)) = false ∨ decide ((k : Int) ≤ ha) = false ∨ decide (lb ≤ (k : Int)) = false ∨ decide ((k : Int) ≤ hb) = false) : sSome ⟨la, ha⟩ ⟨lb, hb⟩ (k + 1) = false := by
  rw [s_some_succ, h]
  rcases h2 with h2 | h2 | h2 | h2 <;> simp only [h2] <;> simp
theorem some_on {la ha lb hb : Int} {k : Nat} (h1 : decide (la ≤ (k : Int)) = true) (h2 : decide ((k : Int) ≤ ha) = true) (h3 : decide (lb ≤ (k : Int)) = true) (h4 : decide ((k : Int) ≤ hb) = true) : sSome ⟨la, ha⟩ ⟨lb, hb⟩ (k + 1) = true := by
  rw [s_some_succ, h1, h2, h3, h4]; simp
def OkS (lo hi : Int) : Prop := 0 ≤ lo ∧ lo ≤ hi ∧ hi < 64

set_option maxRecDepth 100000 in
set_option maxHeartbeats 4000000 in
theorem walk (x y : HoldM) (w : World) (wx : HoldBd x) (wy : HoldBd y) :
    Calls Try.prog 4 #[.agg #[.int .i64 x.key, .int .i64 x.s.lo, .int .i64 x.s.hi, .int .i8 x.m], .agg #[.int .i64 y.key, .int .i64 y.s.lo, .int .i64 y.s.hi, .int .i8 y.m]] w fun e w' => e = .returned (.bool true) ∧ Below w.heap.size w w' := by
  clear wx wy
  obtain ⟨ka, ⟨la, ha⟩, ma⟩ := x
  obtain ⟨kb, ⟨lb, hb⟩, mb⟩ := y
  simp only
  obtain ⟨W0, hW⟩ : ∃ W0, W0 = (w.alloc (.cells #[.int .i64 ka, .int .i64 la, .int .i64 ha, .int .i8 ma] 28)).alloc (.cells #[.int .i64 kb, .int .i64 lb, .int .i64 hb, .int .i8 mb] 28) := ⟨_, rfl⟩
  obtain ⟨hbw, p0, p1⟩ : Below w.heap.size w W0 ∧ Blk W0 w.heap.size #[.int .i64 ka, .int .i64 la, .int .i64 ha, .int .i8 ma] 28 ∧ Blk W0 (w.heap.size + 1) #[.int .i64 kb, .int .i64 lb, .int .i64 hb, .int .i8 mb] 28 := hW ▸ ⟨two_new w _ _, blk2 w _ _ _ _⟩
  obtain ⟨c0, c1, c2, c3⟩ := hold_cells p0
  obtain ⟨d0, d1, d2, d3⟩ := hold_cells p1
  go_enter Try.func4, Try.ntmps4
  go_upto_region 1 with fail
  rw [← hW]
  clear hW
  obtain ⟨W1, hW1⟩ : ∃ W1, W1 = W0.alloc (.cells #[.int .i64 la, .int .i64 ha, .int .i64 lb, .int .i64 hb] 25) := ⟨_, rfl⟩
  have hb1 : Below w.heap.size w W1 := hW1 ▸ hbw.alloc hbw.size _
  have q0 : Blk W1 w.heap.size #[.int .i64 ka, .int .i64 la, .int .i64 ha, .int .i8 ma] 28 := hW1 ▸ p0.alloc _
  have q1 : Blk W1 (w.heap.size + 1) #[.int .i64 kb, .int .i64 lb, .int .i64 hb, .int .i8 mb] 28 := hW1 ▸ p1.alloc _
  have q2 : Blk W1 W0.heap.size #[.int .i64 la, .int .i64 ha, .int .i64 lb, .int .i64 hb] 25 := hW1 ▸ Blk.new W0 _ _
  go_upto_region 2 with fail
  rw [← hW1]
  clear hW1 c0 c1 c2 c3 d0 d1 d2 d3 p0 p1
  have l2 := q2.lt
  generalize W0.heap.size = bs at *
  go_loopw [16] (fun i wr => Below W1.heap.size W1 wr ∧ (i = .int .i64 0 ∨ (i = .int .i64 1 ∧ Hid (OkS la ha)) ∨ (i = .int .i64 2 ∧ Hid (OkS la ha) ∧ Hid (OkS lb hb)))) (fun i _ => 2 - (intOf i).toNat)
  case atStart => exact ⟨Below.refl _ _, .inl rfl⟩
  case round =>
    obtain ⟨hbr, hrel⟩ := hrel
    have lr : bs < wr.heap.size := Nat.lt_of_lt_of_le l2 hbr.size
    obtain ⟨c0, c1, c2, c3⟩ := span2_cells (q2.below hbr l2)
    rcases hrel with rfl | ⟨rfl, HA⟩ | ⟨rfl, HA, HB⟩
    · have hb4 := hbr.alloc hbr.size (.cells #[.int .i64 la, .int .i64 ha] 25)
      by_cases g1 : la < 0
      · go_wp2_with fail
        refine (wakes_any _).mono ?_
        rintro e w6 ⟨rfl, hb6⟩
        go_wp2_with fail
        go_ret
        exact ⟨rfl, below_then hb1 (below_then hb4 hb6)⟩
      · by_cases g2 : ha < la
        · have e1 : decide (la < 0) = false := decide_eq_false g1
          clear g1
          go_wp2_with fail
          refine (wakes_any _).mono ?_
          rintro e w6 ⟨rfl, hb6⟩
          go_wp2_with fail
          go_ret
          exact ⟨rfl, below_then hb1 (below_then hb4 hb6)⟩
        · by_cases g3 : 64 ≤ ha
          · have e1 : decide (la < 0) = false := decide_eq_false g1
            have e2 : decide (ha < la) = false := decide_eq_false g2
            clear g1 g2
            go_wp2_with fail
            refine (wakes_any _).mono ?_
            rintro e w6 ⟨rfl, hb6⟩
            go_wp2_with fail
            go_ret
            exact ⟨rfl, below_then hb1 (below_then hb4 hb6)⟩
          · have HX : Hid (OkS la ha) := ⟨by omega, by omega, by omega⟩
            have e1 : decide (la < 0) = false := decide_eq_false (by omega)
            have e2 : decide (ha < la) = false := decide_eq_false (by omega)
            have e3 : decide (64 ≤ ha) = false := decide_eq_false (by omega)
            clear g1 g2 g3
            go_wp2_with fail
            go_roundw
            case rel => exact ⟨hb4, .inr (.inl ⟨rfl, HX⟩)⟩
            case measure => simp [intOf]
    · have hb4 := hbr.alloc hbr.size (.cells #[.int .i64 lb, .int .i64 hb] 25)
      by_cases g1 : lb < 0
      · go_wp2_with fail
        refine (wakes_any _).mono ?_
        rintro e w6 ⟨rfl, hb6⟩
        go_wp2_with fail
        go_ret
        exact ⟨rfl, below_then hb1 (below_then hb4 hb6)⟩
      · by_cases g2 : hb < lb
        · have e1 : decide (lb < 0) = false := decide_eq_false g1
          clear g1
          go_wp2_with fail
          refine (wakes_any _).mono ?_
          rintro e w6 ⟨rfl, hb6⟩
          go_wp2_with fail
          go_ret
          exact ⟨rfl, below_then hb1 (below_then hb4 hb6)⟩
        · by_cases g3 : 64 ≤ hb
          · have e1 : decide (lb < 0) = false := decide_eq_false g1
            have e2 : decide (hb < lb) = false := decide_eq_false g2
            clear g1 g2
            go_wp2_with fail
            refine (wakes_any _).mono ?_
            rintro e w6 ⟨rfl, hb6⟩
            go_wp2_with fail
            go_ret
            exact ⟨rfl, below_then hb1 (below_then hb4 hb6)⟩
          · have HX : Hid (OkS lb hb) := ⟨by omega, by omega, by omega⟩
            have e1 : decide (lb < 0) = false := decide_eq_false (by omega)
            have e2 : decide (hb < lb) = false := decide_eq_false (by omega)
            have e3 : decide (64 ≤ hb) = false := decide_eq_false (by omega)
            clear g1 g2 g3
            go_wp2_with fail
            go_roundw
            case rel => exact ⟨hb4, .inr (.inr ⟨rfl, HA, HX⟩)⟩
            case measure => simp [intOf]
    · have hb2 := below_then hb1 hbr
      have r0 := q0.below hbr q0.lt
      have r1 := q1.below hbr q1.lt
      clear c0 c1 c2 c3 lr hbr q0 q1 q2 l2 hb1
      have l0 := r0.lt
      have l1 := r1.lt
      obtain ⟨c0, c1, c2, c3⟩ := hold_cells r0
      obtain ⟨d0, d1, d2, d3⟩ := hold_cells r1
      go_wp2_with fail
      go_loopw [7, 8] (fun s i wq => wq = wr ∧ ∃ k : Nat, k ≤ 64 ∧ i = .int .i64 k ∧ ∃ s' : Bool, s = .bool s' ∧ Hid (sSome ⟨la, ha⟩ ⟨lb, hb⟩ k = s')) (fun _ i _ => 64 - (intOf i).toNat)
      case atStart => exact ⟨rfl, 0, Nat.zero_le _, rfl, _, rfl, rfl⟩
      case round =>
        obtain ⟨rfl, k, hk, rfl, s', rfl, HS⟩ := hrel
        by_cases hlt : k < 64
        · cases s' with
          | true =>
            have HN := Lib.hid (some_yes HS.out)
            clear HS
            go_wp2_with fail
            go_roundw
            case rel => exact ⟨trivial, k + 1, by omega, by go_num, _, rfl, HN⟩
            case measure => simp [intOf]; omega
          | false =>
            cases t0 : decide (la ≤ (k : Int)) with
            | false =>
              have HN := Lib.hid (some_no HS.out (.inl t0))
              clear HS
              go_wp2_with fail
              go_roundw
              case rel => exact ⟨trivial, k + 1, by omega, by go_num, _, rfl, HN⟩
              case measure => simp [intOf]; omega
            | true =>
              cases t1 : decide ((k : Int) ≤ ha) with
              | false =>
                have HN := Lib.hid (some_no HS.out (.inr (.inl t1)))
                clear HS
                go_wp2_with fail
                go_roundw
                case rel => exact ⟨trivial, k + 1, by omega, by go_num, _, rfl, HN⟩
                case measure => simp [intOf]; omega
              | true =>
                cases t2 : decide (lb ≤ (k : Int)) with
                | false =>
                  have HN := Lib.hid (some_no HS.out (.inr (.inr (.inl t2))))
                  clear HS
                  go_wp2_with fail
                  go_roundw
                  case rel => exact ⟨trivial, k + 1, by omega, by go_num, _, rfl, HN⟩
                  case measure => simp [intOf]; omega
                | true =>
                  cases t3 : decide ((k : Int) ≤ hb) with
                  | false =>
                    have HN := Lib.hid (some_no HS.out (.inr (.inr (.inr t3))))
                    clear HS
                    go_wp2_with fail
                    go_roundw
                    case rel => exact ⟨trivial, k + 1, by omega, by go_num, _, rfl, HN⟩
                    case measure => simp [intOf]; omega
                  | true =>
                    have HN := Lib.hid (some_on (la := la) (ha := ha) (lb := lb) (hb := hb) t0 t1 t2 t3)
                    clear HS
                    go_wp2_with fail
                    go_roundw
                    case rel => exact ⟨trivial, k + 1, by omega, by go_num, _, rfl, HN⟩
                    case measure => simp [intOf]; omega
        · have hk64 : k = 64 := by omega
          subst hk64
          have HO : Hid (sOv ⟨la, ha⟩ ⟨lb, hb⟩ = s') := (s_some_all (a := ⟨la, ha⟩) (b := ⟨lb, hb⟩) HA.out.1 HA.out.2.1 HA.out.2.2 HB.out.1 HB.out.2.1 HB.out.2.2).symm.trans HS.out
          have HO2 : Hid (sOv ⟨lb, hb⟩ ⟨la, ha⟩ = s') := (s_ov_comm _ _).trans HO.out
          clear HS HA HB
          cases hke : ka == kb with
          | true =>
            have HT : Hid (sTog ⟨ka, ⟨la, ha⟩, ma⟩ ⟨kb, ⟨lb, hb⟩, mb⟩ = true) := tog_key (by simpa using hke)
            have HU : Hid (sTog ⟨kb, ⟨lb, hb⟩, mb⟩ ⟨ka, ⟨la, ha⟩, ma⟩ = true) := (s_tog_comm _ _).trans HT.out
            have t1 := HT.out
            have e1 : (s' == s') = true := by simp
            have t2 := HU.out
            go_wp2_with fail
            refine (Overlap_any la ha lb hb _).mono ?_
            rintro e w1 ⟨rfl, hx1⟩
            rw [HO.out]
            have x1 := below_then hb2 hx1
            obtain ⟨f0, f1, f2, f3⟩ := hold_cells (r0.below hx1 l0)
            obtain ⟨g0, g1, g2, g3⟩ := hold_cells (r1.below hx1 l1)
            clear c0 c1 c2 c3 d0 d1 d2 d3
            go_wp2_with fail
            refine (Overlap_any lb hb la ha _).mono ?_
            rintro e w2 ⟨rfl, hx2⟩
            rw [HO2.out]
            have x2 := below_then x1 hx2
            have hx3 := below_then hx1 hx2
            obtain ⟨c0, c1, c2, c3⟩ := hold_cells (r0.below hx3 l0)
            obtain ⟨d0, d1, d2, d3⟩ := hold_cells (r1.below hx3 l1)
            clear f0 f1 f2 f3 g0 g1 g2 g3
            go_wp2_with fail
            refine (Together_any ka la ha ma kb lb hb mb _).mono ?_
            rintro e w3 ⟨rfl, hx4⟩
            rw [HT.out]
            have x3 := below_then x2 hx4
            have hx5 := below_then hx3 hx4
            obtain ⟨f0, f1, f2, f3⟩ := hold_cells (r0.below hx5 l0)
            obtain ⟨g0, g1, g2, g3⟩ := hold_cells (r1.below hx5 l1)
            clear c0 c1 c2 c3 d0 d1 d2 d3
            go_wp2_with fail
            refine (Together_any kb lb hb mb ka la ha ma _).mono ?_
            rintro e w4 ⟨rfl, hx6⟩
            rw [HU.out]
            have x4 := below_then x3 hx6
            clear f0 f1 f2 f3 g0 g1 g2 g3
            go_wp2_with fail
            refine (wakes_any _).mono ?_
            rintro e w5 ⟨rfl, hx7⟩
            go_wp2_with fail
            go_ret
            exact ⟨rfl, below_then x4 hx7⟩
          | false =>
            cases s' with
            | false =>
              have HT : Hid (sTog ⟨ka, ⟨la, ha⟩, ma⟩ ⟨kb, ⟨lb, hb⟩, mb⟩ = true) := tog_ov hke HO.out
              have HU : Hid (sTog ⟨kb, ⟨lb, hb⟩, mb⟩ ⟨ka, ⟨la, ha⟩, ma⟩ = true) := (s_tog_comm _ _).trans HT.out
              have t1 := HT.out
              have t2 := HU.out
              go_wp2_with fail
              refine (Overlap_any la ha lb hb _).mono ?_
              rintro e w1 ⟨rfl, hx1⟩
              rw [HO.out]
              have x1 := below_then hb2 hx1
              obtain ⟨f0, f1, f2, f3⟩ := hold_cells (r0.below hx1 l0)
              obtain ⟨g0, g1, g2, g3⟩ := hold_cells (r1.below hx1 l1)
              clear c0 c1 c2 c3 d0 d1 d2 d3
              go_wp2_with fail
              refine (Overlap_any lb hb la ha _).mono ?_
              rintro e w2 ⟨rfl, hx2⟩
              rw [HO2.out]
              have x2 := below_then x1 hx2
              have hx3 := below_then hx1 hx2
              obtain ⟨c0, c1, c2, c3⟩ := hold_cells (r0.below hx3 l0)
              obtain ⟨d0, d1, d2, d3⟩ := hold_cells (r1.below hx3 l1)
              clear f0 f1 f2 f3 g0 g1 g2 g3
              go_wp2_with fail
              refine (Together_any ka la ha ma kb lb hb mb _).mono ?_
              rintro e w3 ⟨rfl, hx4⟩
              rw [HT.out]
              have x3 := below_then x2 hx4
              have hx5 := below_then hx3 hx4
              obtain ⟨f0, f1, f2, f3⟩ := hold_cells (r0.below hx5 l0)
              obtain ⟨g0, g1, g2, g3⟩ := hold_cells (r1.below hx5 l1)
              clear c0 c1 c2 c3 d0 d1 d2 d3
              go_wp2_with fail
              refine (Together_any kb lb hb mb ka la ha ma _).mono ?_
              rintro e w4 ⟨rfl, hx6⟩
              rw [HU.out]
              have x4 := below_then x3 hx6
              clear f0 f1 f2 f3 g0 g1 g2 g3
              go_wp2_with fail
              refine (wakes_any _).mono ?_
              rintro e w5 ⟨rfl, hx7⟩
              go_wp2_with fail
              go_ret
              exact ⟨rfl, below_then x4 hx7⟩
            | true =>
              have hm := tog_m (ma := ma) (mb := mb) hke HO.out
              cases hma : ma == 1 with
              | false =>
                rw [hma] at hm
                have HT : Hid (sTog ⟨ka, ⟨la, ha⟩, ma⟩ ⟨kb, ⟨lb, hb⟩, mb⟩ = false) := hm
                have HU : Hid (sTog ⟨kb, ⟨lb, hb⟩, mb⟩ ⟨ka, ⟨la, ha⟩, ma⟩ = false) := (s_tog_comm _ _).trans HT.out
                clear hm
                have t1 := HT.out
                have t2 := HU.out
                go_wp2_with fail
                refine (Overlap_any la ha lb hb _).mono ?_
                rintro e w1 ⟨rfl, hx1⟩
                rw [HO.out]
                have x1 := below_then hb2 hx1
                obtain ⟨f0, f1, f2, f3⟩ := hold_cells (r0.below hx1 l0)
                obtain ⟨g0, g1, g2, g3⟩ := hold_cells (r1.below hx1 l1)
                clear c0 c1 c2 c3 d0 d1 d2 d3
                go_wp2_with fail
                refine (Overlap_any lb hb la ha _).mono ?_
                rintro e w2 ⟨rfl, hx2⟩
                rw [HO2.out]
                have x2 := below_then x1 hx2
                have hx3 := below_then hx1 hx2
                obtain ⟨c0, c1, c2, c3⟩ := hold_cells (r0.below hx3 l0)
                obtain ⟨d0, d1, d2, d3⟩ := hold_cells (r1.below hx3 l1)
                clear f0 f1 f2 f3 g0 g1 g2 g3
                go_wp2_with fail
                refine (Together_any ka la ha ma kb lb hb mb _).mono ?_
                rintro e w3 ⟨rfl, hx4⟩
                rw [HT.out]
                have x3 := below_then x2 hx4
                have hx5 := below_then hx3 hx4
                obtain ⟨f0, f1, f2, f3⟩ := hold_cells (r0.below hx5 l0)
                obtain ⟨g0, g1, g2, g3⟩ := hold_cells (r1.below hx5 l1)
                clear c0 c1 c2 c3 d0 d1 d2 d3
                go_wp2_with fail
                refine (Together_any kb lb hb mb ka la ha ma _).mono ?_
                rintro e w4 ⟨rfl, hx6⟩
                rw [HU.out]
                have x4 := below_then x3 hx6
                clear f0 f1 f2 f3 g0 g1 g2 g3
                go_wp2_with fail
                refine (wakes_any _).mono ?_
                rintro e w5 ⟨rfl, hx7⟩
                go_wp2_with fail
                go_ret
                exact ⟨rfl, below_then x4 hx7⟩
              | true =>
                rw [hma] at hm
                cases hmb : mb == 1 with
                | false =>
                  rw [hmb] at hm
                  have HT : Hid (sTog ⟨ka, ⟨la, ha⟩, ma⟩ ⟨kb, ⟨lb, hb⟩, mb⟩ = false) := hm
                  have HU : Hid (sTog ⟨kb, ⟨lb, hb⟩, mb⟩ ⟨ka, ⟨la, ha⟩, ma⟩ = false) := (s_tog_comm _ _).trans HT.out
                  clear hm
                  have t1 := HT.out
                  have t2 := HU.out
                  go_wp2_with fail
                  refine (Overlap_any la ha lb hb _).mono ?_
                  rintro e w1 ⟨rfl, hx1⟩
                  rw [HO.out]
                  have x1 := below_then hb2 hx1
                  obtain ⟨f0, f1, f2, f3⟩ := hold_cells (r0.below hx1 l0)
                  obtain ⟨g0, g1, g2, g3⟩ := hold_cells (r1.below hx1 l1)
                  clear c0 c1 c2 c3 d0 d1 d2 d3
                  go_wp2_with fail
                  refine (Overlap_any lb hb la ha _).mono ?_
                  rintro e w2 ⟨rfl, hx2⟩
                  rw [HO2.out]
                  have x2 := below_then x1 hx2
                  have hx3 := below_then hx1 hx2
                  obtain ⟨c0, c1, c2, c3⟩ := hold_cells (r0.below hx3 l0)
                  obtain ⟨d0, d1, d2, d3⟩ := hold_cells (r1.below hx3 l1)
                  clear f0 f1 f2 f3 g0 g1 g2 g3
                  go_wp2_with fail
                  refine (Together_any ka la ha ma kb lb hb mb _).mono ?_
                  rintro e w3 ⟨rfl, hx4⟩
                  rw [HT.out]
                  have x3 := below_then x2 hx4
                  have hx5 := below_then hx3 hx4
                  obtain ⟨f0, f1, f2, f3⟩ := hold_cells (r0.below hx5 l0)
                  obtain ⟨g0, g1, g2, g3⟩ := hold_cells (r1.below hx5 l1)
                  clear c0 c1 c2 c3 d0 d1 d2 d3
                  go_wp2_with fail
                  refine (Together_any kb lb hb mb ka la ha ma _).mono ?_
                  rintro e w4 ⟨rfl, hx6⟩
                  rw [HU.out]
                  have x4 := below_then x3 hx6
                  clear f0 f1 f2 f3 g0 g1 g2 g3
                  go_wp2_with fail
                  refine (wakes_any _).mono ?_
                  rintro e w5 ⟨rfl, hx7⟩
                  go_wp2_with fail
                  go_ret
                  exact ⟨rfl, below_then x4 hx7⟩
                | true =>
                  rw [hmb] at hm
                  have HT : Hid (sTog ⟨ka, ⟨la, ha⟩, ma⟩ ⟨kb, ⟨lb, hb⟩, mb⟩ = true) := hm
                  have HU : Hid (sTog ⟨kb, ⟨lb, hb⟩, mb⟩ ⟨ka, ⟨la, ha⟩, ma⟩ = true) := (s_tog_comm _ _).trans HT.out
                  clear hm
                  have t1 := HT.out
                  have t2 := HU.out
                  go_wp2_with fail
                  refine (Overlap_any la ha lb hb _).mono ?_
                  rintro e w1 ⟨rfl, hx1⟩
                  rw [HO.out]
                  have x1 := below_then hb2 hx1
                  obtain ⟨f0, f1, f2, f3⟩ := hold_cells (r0.below hx1 l0)
                  obtain ⟨g0, g1, g2, g3⟩ := hold_cells (r1.below hx1 l1)
                  clear c0 c1 c2 c3 d0 d1 d2 d3
                  go_wp2_with fail
                  refine (Overlap_any lb hb la ha _).mono ?_
                  rintro e w2 ⟨rfl, hx2⟩
                  rw [HO2.out]
                  have x2 := below_then x1 hx2
                  have hx3 := below_then hx1 hx2
                  obtain ⟨c0, c1, c2, c3⟩ := hold_cells (r0.below hx3 l0)
                  obtain ⟨d0, d1, d2, d3⟩ := hold_cells (r1.below hx3 l1)
                  clear f0 f1 f2 f3 g0 g1 g2 g3
                  go_wp2_with fail
                  refine (Together_any ka la ha ma kb lb hb mb _).mono ?_
                  rintro e w3 ⟨rfl, hx4⟩
                  rw [HT.out]
                  have x3 := below_then x2 hx4
                  have hx5 := below_then hx3 hx4
                  obtain ⟨f0, f1, f2, f3⟩ := hold_cells (r0.below hx5 l0)
                  obtain ⟨g0, g1, g2, g3⟩ := hold_cells (r1.below hx5 l1)
                  clear c0 c1 c2 c3 d0 d1 d2 d3
                  go_wp2_with fail
                  refine (Together_any kb lb hb mb ka la ha ma _).mono ?_
                  rintro e w4 ⟨rfl, hx6⟩
                  rw [HU.out]
                  have x4 := below_then x3 hx6
                  clear f0 f1 f2 f3 g0 g1 g2 g3
                  go_wp2_with fail
                  refine (wakes_any _).mono ?_
                  rintro e w5 ⟨rfl, hx7⟩
                  go_wp2_with fail
                  go_ret
                  exact ⟨rfl, below_then x4 hx7⟩

/-! ### THE ROW's STEP -/
set_option maxRecDepth 100000 in
theorem lifted (os : Os) (started : os.Started) (H : Type) (enc : TypeId × Value → H) :
    ReturnsInHanded {} Try.checked os 4 .any (Rows.spanBlocksSpec.pre6 enc Try.prog Try.f4 Rows.spanBlocksRow.domain false) (Rows.spanBlocksSpec.post enc Try.prog Try.f4 false true false false) := by
  refine returnsInHanded_of_change (C := Try.checked) own started (by kernel_rfl) Try.func4
    (ChangeSpec.witness6 (enc := enc) (C := Try.checked) false ⟨#[], #[.agg #[.int .i64 0, .int .i64 0, .int .i64 0, .int .i8 0], .agg #[.int .i64 0, .int .i64 0, .int .i64 0, .int .i8 0]], []⟩ 8 (by kernel_rfl) (by kernel_rfl) (by kernel_rfl) (by kernel_rfl)) ?_
  intro W base args ds gs before hval0 hW hcnd _
  have hval : ∀ (j : Nat) t v, Try.f4.params[j]? = some t → args[j]? = some v → Value.okWide Try.prog W .any base t v := hval0
  have hW' := hW
  obtain ⟨p, q, hA0, hV, rfl, hfz, hnd⟩ := hW
  have hA : DataW.TrodAll enc Try.prog W 0 (fun _ => true) true Try.f4.params.toList args.toList ds p := hA0
  rw [Try.params4] at hA hval
  obtain ⟨v0, vs0, d0, ds0, p0, q0, hargs, rfl, rfl, h0, r0⟩ := trodAll_cons hA
  obtain ⟨v1, vs1, d1, ds1, p1, q1, rfl, rfl, rfl, h1, r1⟩ := trodAll_cons r0
  obtain ⟨rfl, rfl, rfl⟩ := trodAll_nil r1
  obtain rfl : args = #[v0, v1] := by cases args; simp_all
  obtain ⟨rfl, rfl⟩ := trodVars_none hV
  have k0 := h0
  have lt0 : ∀ x ∈ p0, x.block < W.heap.size := by obtain ⟨m, hm⟩ := k0; exact DataW.trod_lt m _ _ _ hm
  obtain ⟨g0, rfl, w0⟩ := open_hold (hval 0 28 v0 rfl rfl) h0
  have k1 := h1
  have lt1 : ∀ x ∈ p1, x.block < W.heap.size := by obtain ⟨m, hm⟩ := k1; exact DataW.trod_lt m _ _ _ hm
  obtain ⟨g1, rfl, w1⟩ := open_hold (hval 1 28 v1 rfl rfl) h1
  clear hA0 hval0
  refine (walk g0 g1 W w0 w1).mono fun e W' ⟨he, bel⟩ => ?_
  subst he
  exact ⟨_, rfl, _, _, _, [], _, [], hW', trodAll_mk1 (shut_bool Try.underlying4 _), (trodAll_cons_mk (Below.trod laidOut (by kernel_rfl) (of_decide_eq_true (by kernel_rfl)) k0 bel lt0) (trodAll_cons_mk (Below.trod laidOut (by kernel_rfl) (of_decide_eq_true (by kernel_rfl)) k1 bel lt1) trodAll_mk0)), rfl, bel.frame _, fun h => by cases h⟩

theorem over : Rows.spanBlocksRow.holds Try.pinned (OpenSpec.ofChange Rows.spanBlocksSpec) :=
  OpenClaim.holds_of_wide 4 Try.f4 rfl rfl rfl rfl rfl rfl rfl ⟨rfl, rfl, rfl, rfl, rfl⟩ rfl rfl rfl rfl rfl (by kernel_rfl) Try.func4 (by kernel_rfl)
    (of_decide_eq_true (by kernel_rfl)) (by unfold Func.isWrapper; first | (rw [if_pos (by decide +kernel)]; kernel_rfl) | (rw [if_neg (by decide +kernel)]; exact ⟨rfl, rfl⟩))
    (fun os started H enc _ => lifted os started H enc)

/-- The statement. -/
theorem proved : Rows.SpanBlocksSaid := over
#print axioms proved

end Go.Proofs.Ytphkhgokdnfepaa.spanBlocks
