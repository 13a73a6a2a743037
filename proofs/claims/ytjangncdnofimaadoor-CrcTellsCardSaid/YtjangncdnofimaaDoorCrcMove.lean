/-
  crc: what one byte's moving multiplies by; a register moved by many bytes, either way; Move, Back, Both.
-/
import Derived.Test.YtjangncdnofimaaDoorCrcTimes
namespace Go.Proofs.YtjangncdnofimaaDoor
open Go.RowKit
set_option linter.unusedVariables false
set_option linter.unusedSimpArgs false

theorem high_lt : 2147483648 < 4294967296 := by omega

set_option maxRecDepth 100000 in
theorem byteForth_any (w : World) :
    Calls Tryd.prog 25 #[] w fun e w' => e = .returned (.int .u32 (mv false 8 2147483648 : Nat)) ∧ Below w.heap.size w w' := by
  go_enter Tryd.func25, Tryd.ntmps25
  go_wp2_with fail
  go_loopw [2] (fun i wr => ∃ k : Nat, k ≤ 8 ∧ i = .int .i64 k ∧ RegAt wr w.heap.size 36 (stN k 2147483648) ∧ Below w.heap.size w wr) (fun i _ => 8 - (intOf i).toNat)
  case atStart => exact ⟨0, Nat.zero_le _, rfl, RegAt.new w _ 2147483648, (Below.refl _ _).alloc (Nat.le_refl _) _⟩
  case round =>
    obtain ⟨k, hk, rfl, hr, hb⟩ := hrel
    by_cases hlt : k < 8
    · have HG := Lib.hid hr
      clear hr
      go_wp2_with fail
      refine (forth_any _ _ _ _ (stN_lt high_lt k) HG.out).mono ?_
      rintro e w1 ⟨rfl, hr1, ho1⟩
      have HR := Lib.hid hr1
      rw [← stN_succ'] at HR
      have hb1 := hb.trans (ho1.below hb.size (Nat.le_refl _))
      clear hr1 ho1
      go_wp2_with fail
      go_roundw
      case rel => exact ⟨k + 1, by omega, by go_num, HR.out, hb1⟩
      case measure => simp [intOf]; omega
    · obtain rfl : k = 8 := by omega
      have hc := hr.cell
      clear hr
      go_wp2_with fail
      go_ret
      exact ⟨rfl, hb⟩

set_option maxRecDepth 100000 in
theorem byteBack_any (w : World) :
    Calls Tryd.prog 27 #[] w fun e w' => e = .returned (.int .u32 (mv true 8 2147483648 : Nat)) ∧ Below w.heap.size w w' := by
  go_enter Tryd.func27, Tryd.ntmps27
  go_wp2_with fail
  go_loopw [2] (fun i wr => ∃ k : Nat, k ≤ 8 ∧ i = .int .i64 k ∧ RegAt wr w.heap.size 36 (bkN k 2147483648) ∧ Below w.heap.size w wr) (fun i _ => 8 - (intOf i).toNat)
  case atStart => exact ⟨0, Nat.zero_le _, rfl, RegAt.new w _ 2147483648, (Below.refl _ _).alloc (Nat.le_refl _) _⟩
  case round =>
    obtain ⟨k, hk, rfl, hr, hb⟩ := hrel
    by_cases hlt : k < 8
    · have HG := Lib.hid hr
      clear hr
      go_wp2_with fail
      refine (back_any _ _ _ _ (bkN_lt high_lt k) HG.out).mono ?_
      rintro e w1 ⟨rfl, hr1, ho1⟩
      have HR := Lib.hid hr1
      rw [← bkN_succ'] at HR
      have hb1 := hb.trans (ho1.below hb.size (Nat.le_refl _))
      clear hr1 ho1
      go_wp2_with fail
      go_roundw
      case rel => exact ⟨k + 1, by omega, by go_num, HR.out, hb1⟩
      case measure => simp [intOf]; omega
    · obtain rfl : k = 8 := by omega
      have hc := hr.cell
      clear hr
      go_wp2_with fail
      go_ret
      exact ⟨rfl, hb⟩

/-- What moving's loop keeps: n is to come, m bits are the factor's. -/
def MoveRel (d : Bool) (w : World) (b : Nat) (T : TypeId) (x N : Nat) (n : Int) (m R : Nat) (wr : World) : Prop :=
  R < 4294967296 ∧ RegAt wr b T R ∧ RegAt wr w.heap.size 36 (mv d m 2147483648) ∧ Only b w wr ∧ mv d (m * n.toNat) R = mv d N x ∧ b < w.heap.size

theorem Only.new {b c : Nat} {w w' w'' : World} (h : Only b w w') (k : Only c w' w'') (hc : w.heap.size ≤ c) : Only b w w'' :=
  ⟨k.os.trans h.os, k.tape.trans h.tape, k.output.trans h.output, Nat.le_trans h.size k.size, fun i hi hn => (k.block i (Nat.lt_of_lt_of_le hi h.size) (by intro e; injection e with e; omega)).trans (h.block i hi hn)⟩

theorem move_next {d : Bool} {w wr w1 : World} {b x N m R R' : Nat} {T : TypeId} {n : Int} (h : MoveRel d w b T x N n m R wr) (hn : 0 < n) (h1 : RegAt w1 b T R') (hR : R' = (if n % 2 = 1 then mv d m R else R))
    (h2 : RegAt w1 w.heap.size 36 (tm 32 (mv d m 2147483648) (mv d m 2147483648))) (h3 : Only b w w1) : MoveRel d w b T x N (n / 2) (m + m) R' w1 := by
  obtain ⟨k1, k2, k3, k4, k5, k6⟩ := h
  rw [tm_mv d m (mv_lt d m high_lt), ← mv_add] at h2
  refine ⟨by rw [hR]; split; exact mv_lt d m k1; exact k1, h1, h2, h3, ?_, k6⟩
  rw [hR, ← k5]
  split
  · rename_i ho
    rw [← mv_add]
    congr 1
    have e : n.toNat = 2 * (n / 2).toNat + 1 := by omega
    rw [e, Nat.mul_add, Nat.mul_one, Nat.add_mul, Nat.mul_comm 2, ← Nat.mul_assoc]
    omega
  · rename_i ho
    congr 1
    have e : n.toNat = 2 * (n / 2).toNat := by omega
    rw [e, Nat.add_mul, Nat.mul_comm 2, ← Nat.mul_assoc]
    omega

set_option maxRecDepth 100000 in
set_option maxHeartbeats 1000000 in
theorem move_any (d : Bool) (b : Nat) (T : TypeId) (x m : Nat) (n : Int) (w : World) (hx : x < 4294967296) (hn : n ≤ 9223372036854775807) (hr : RegAt w b T x) :
    Calls Tryd.prog 24 #[.pointer (some ⟨b, 0, none⟩), .int .u32 (mv d m 2147483648 : Nat), .int .i64 n] w fun e w' => e = .returned (.tuple #[]) ∧ RegAt w' b T (mv d (m * n.toNat) x) ∧ Only b w w' := by
  have HR : ∀ W, W = w.alloc (.cells #[.int .u32 (mv d m 2147483648 : Nat)] 36) → Hid (MoveRel d w b T x (m * n.toNat) n m x W) := by
    rintro W rfl
    exact ⟨hx, ((Only.refl w.heap.size w).alloc _).reg hr (Nat.ne_of_lt hr.lt), RegAt.new w _ _, (Only.refl b w).alloc _, rfl, hr.lt⟩
  have HS := HR _ rfl
  clear HR hr
  go_enter Tryd.func24, Tryd.ntmps24
  go_wp2_with fail
  go_loopw [2] (fun v wr => ∃ (q : Int) (M R : Nat), q ≤ 9223372036854775807 ∧ v = .int .i64 q ∧ Hid (MoveRel d w b T x (m * n.toNat) q M R wr)) (fun v _ => (intOf v).toNat)
  case atStart => exact ⟨n, m, x, hn, rfl, HS⟩
  case round =>
    clear HS
    obtain ⟨q, M, R, hq, rfl, HR⟩ := hrel
    by_cases hp : 0 < q
    · have hl := i64_low q
      by_cases ho : q % 2 = 1
      · rw [ho] at hl
        have HO := Lib.hid ho
        clear ho
        have hc := HR.out.2.2.1.cell
        go_wp2_with fail
        refine (times_any b T R _ _ HR.out.1 (mv_lt d M high_lt) HR.out.2.1).mono ?_
        rintro e w1 ⟨rfl, hr1, ho1⟩
        have hf1 := ho1.reg HR.out.2.2.1 (Nat.ne_of_gt HR.out.2.2.2.2.2)
        have HG := Lib.hid hr1
        have HF := Lib.hid hf1
        have HQ := Lib.hid (HR.out.2.2.2.1.trans ho1)
        have hc1 := hf1.cell
        clear hr1 hf1 ho1 hc
        go_wp2_with fail
        refine (times_any w.heap.size _ _ _ _ (mv_lt d M high_lt) (mv_lt d M high_lt) HF.out).mono ?_
        rintro e w2 ⟨rfl, hr2, ho2⟩
        have HN := Lib.hid (move_next HR.out hp (ho2.reg HG.out (Nat.ne_of_lt HR.out.2.2.2.2.2)) (by rw [if_pos HO.out, tm_mv d M HR.out.1]) hr2 (HQ.out.new ho2 (Nat.le_refl _)))
        clear hr2 ho2 hc1 HG HF HQ HO hl HR
        go_wp2_with fail
        go_roundw
        case rel => exact ⟨_, _, _, by omega, rfl, HN⟩
        case measure => simp [intOf]; omega
      · rw [show q % 2 = 0 by omega] at hl
        have HO := Lib.hid ho
        clear ho
        have hc1 := HR.out.2.2.1.cell
        go_wp2_with fail
        refine (times_any w.heap.size _ _ _ _ (mv_lt d M high_lt) (mv_lt d M high_lt) HR.out.2.2.1).mono ?_
        rintro e w2 ⟨rfl, hr2, ho2⟩
        have HN := Lib.hid (move_next HR.out hp (ho2.reg HR.out.2.1 (Nat.ne_of_lt HR.out.2.2.2.2.2)) (by rw [if_neg HO.out]) hr2 (HR.out.2.2.2.1.new ho2 (Nat.le_refl _)))
        clear hr2 ho2 hc1 HO hl HR
        go_wp2_with fail
        go_roundw
        case rel => exact ⟨_, _, _, by omega, rfl, HN⟩
        case measure => simp [intOf]; omega
    · have HE : Hid (RegAt wr b T (mv d (m * n.toNat) x) ∧ Only b w wr) := by
        obtain ⟨k1, k2, k3, k4, k5, k6⟩ := HR.out
        rw [show q.toNat = 0 by omega, Nat.mul_zero, mv_zero] at k5
        rw [← k5]
        exact ⟨k2, k4⟩
      clear HR
      go_wp2_with fail
      go_end0
      exact ⟨rfl, HE.out.1, HE.out.2⟩

/-- Moved by so many bytes, either way, of whatever number. -/
def movedBy (d : Bool) (x n : Int) : Nat := mv d (8 * n.toNat) (r32 x)
theorem movedBy_lt (d : Bool) (x n : Int) : movedBy d x n < 4294967296 := mv_lt d _ (r32_lt x)

set_option maxRecDepth 100000 in
theorem Move_any (x n : Int) (w : World) (hn : n ≤ 9223372036854775807) :
    Calls Tryd.prog 13 #[.int .i64 x, .int .i64 n] w fun e w' => e = .returned (.int .i64 (movedBy false x n : Nat)) ∧ Below w.heap.size w w' := by
  have hx := r32_cast x
  have hlt := r32_lt x
  have hw := w64 _ (movedBy_lt false x n)
  have HX := Lib.hid hx
  go_enter Tryd.func13, Tryd.ntmps13
  go_wp2_with fail
  have hreg := RegAt.new w 36 (r32 x)
  have HG := Lib.hid hreg
  clear hreg
  refine (byteForth_any _).mono ?_
  rintro e w1 ⟨rfl, hb1⟩
  have hb01 : Below w.heap.size w w1 := ((Below.refl _ _).alloc (Nat.le_refl _) _).trans (hb1.mono (by simp))
  have HG1 : Hid (RegAt w1 w.heap.size 36 (r32 x)) := (hb1.block _ (by simp)).trans HG.out
  clear HG hb1
  go_wp2_with fail
  refine (move_any false _ _ _ 8 n _ hlt hn HG1.out).mono ?_
  rintro e w2 ⟨rfl, hr2, ho2⟩
  have hc := hr2.cell
  have hb02 := hb01.trans (ho2.below hb01.size (Nat.le_refl _))
  rw [show mv false (8 * n.toNat) (r32 x) = movedBy false x n from rfl] at hc
  clear hr2 ho2 hb01 HG1
  go_wp2_with fail
  go_ret
  exact ⟨ret_int hw, hb02⟩

set_option maxRecDepth 100000 in
theorem Back_any (x n : Int) (w : World) (hn : n ≤ 9223372036854775807) :
    Calls Tryd.prog 15 #[.int .i64 x, .int .i64 n] w fun e w' => e = .returned (.int .i64 (movedBy true x n : Nat)) ∧ Below w.heap.size w w' := by
  have hx := r32_cast x
  have hlt := r32_lt x
  have hw := w64 _ (movedBy_lt true x n)
  have HX := Lib.hid hx
  go_enter Tryd.func15, Tryd.ntmps15
  go_wp2_with fail
  have hreg := RegAt.new w 36 (r32 x)
  have HG := Lib.hid hreg
  clear hreg
  refine (byteBack_any _).mono ?_
  rintro e w1 ⟨rfl, hb1⟩
  have hb01 : Below w.heap.size w w1 := ((Below.refl _ _).alloc (Nat.le_refl _) _).trans (hb1.mono (by simp))
  have HG1 : Hid (RegAt w1 w.heap.size 36 (r32 x)) := (hb1.block _ (by simp)).trans HG.out
  clear HG hb1
  go_wp2_with fail
  refine (move_any true _ _ _ 8 n _ hlt hn HG1.out).mono ?_
  rintro e w2 ⟨rfl, hr2, ho2⟩
  have hc := hr2.cell
  have hb02 := hb01.trans (ho2.below hb01.size (Nat.le_refl _))
  rw [show mv true (8 * n.toNat) (r32 x) = movedBy true x n from rfl] at hc
  clear hr2 ho2 hb01 HG1
  go_wp2_with fail
  go_ret
  exact ⟨ret_int hw, hb02⟩

set_option maxRecDepth 100000 in
theorem Both_any (x y n : Int) (w : World) (hn : n ≤ 9223372036854775807) :
    Calls Tryd.prog 17 #[.int .i64 x, .int .i64 y, .int .i64 n] w fun e w' => e = .returned (.int .i64 (movedBy false x n ^^^ r32 y : Nat)) ∧ Below w.heap.size w w' := by
  have hx := r32_cast y
  have hw := w64 _ (r32_lt y)
  have hxor := i64_xor_nat (movedBy false x n) (r32 y) (Nat.lt_trans (movedBy_lt false x n) (by omega)) (Nat.lt_trans (r32_lt y) (by omega))
  go_enter Tryd.func17, Tryd.ntmps17
  go_wp2_with fail
  refine (Move_any x n _ hn).mono ?_
  rintro e w1 ⟨rfl, hb1⟩
  go_wp2_with fail
  go_ret
  exact ⟨rfl, hb1⟩

end Go.Proofs.YtjangncdnofimaaDoor
