/-
  The program's commands: what is read, and its numbers taken one behind the other: by contract.
-/
import Derived.Test.YtjdacpnfgpdjhaaDoorJoinCmdRefOf
import Derived.Test.YtjdacpnfgpdjhaaDoorCmdOut
import Derived.Test.YtjdacpnfgpdjhaaDoorJoinNumRefRow
import Derived.Deep.QuietTactic
import Derived.BigQuiet
namespace Go.Proofs.YtjdacpnfgpdjhaaDoor
open Go.RowKit
set_option linter.unusedVariables false
set_option linter.unusedSimpArgs false

/-- What is read, in a block of its own: the command so far, the text, how far it is taken, whether a number was none. -/
def RdAt (w : World) (q : Nat) (c : CmdM) (s : ByteArray) (p : Nat) (bad : Bool) : Prop :=
  Blk w q #[.int .i8 c.kind, .int .i64 c.by_, .int .i64 c.serial, .int .i64 c.dead, .int .i64 c.was, .int .i64 c.lo, .int .i64 c.hi, .int .i8 c.mode, .string s, .int .i64 p, .bool bad] 79
theorem RdAt.cells {w : World} {q p : Nat} {k b s d a lo hi m : Int} {t : ByteArray} {bad : Bool} (h : RdAt w q ⟨k, b, s, d, a, lo, hi, m⟩ t p bad) :
    w.cell? ⟨q, 0, none⟩ = some (.int .i8 k) ∧ w.cell? ⟨q, 1, none⟩ = some (.int .i64 b) ∧ w.cell? ⟨q, 2, none⟩ = some (.int .i64 s) ∧ w.cell? ⟨q, 3, none⟩ = some (.int .i64 d) ∧
    w.cell? ⟨q, 4, none⟩ = some (.int .i64 a) ∧ w.cell? ⟨q, 5, none⟩ = some (.int .i64 lo) ∧ w.cell? ⟨q, 6, none⟩ = some (.int .i64 hi) ∧ w.cell? ⟨q, 7, none⟩ = some (.int .i8 m) := by
  unfold RdAt at h
  exact ⟨h.cell 0 _ rfl, h.cell 1 _ rfl, h.cell 2 _ rfl, h.cell 3 _ rfl, h.cell 4 _ rfl, h.cell 5 _ rfl, h.cell 6 _ rfl, h.cell 7 _ rfl⟩
theorem RdAt.more {w : World} {q p : Nat} {c : CmdM} {t : ByteArray} {bad : Bool} (h : RdAt w q c t p bad) :
    w.cell? ⟨q, 8, none⟩ = some (.string t) ∧ w.cell? ⟨q, 9, none⟩ = some (.int .i64 p) ∧ w.cell? ⟨q, 10, none⟩ = some (.bool bad) := by
  unfold RdAt at h
  exact ⟨h.cell 8 _ rfl, h.cell 9 _ rfl, h.cell 10 _ rfl⟩
theorem RdAt.frees {w : World} {q p : Nat} {c : CmdM} {t : ByteArray} {bad : Bool} (h : RdAt w q c t p bad) :
    w.frozen? ⟨q, 0, none⟩ = false ∧ w.frozen? ⟨q, 1, none⟩ = false ∧ w.frozen? ⟨q, 2, none⟩ = false ∧ w.frozen? ⟨q, 3, none⟩ = false ∧
    w.frozen? ⟨q, 4, none⟩ = false ∧ w.frozen? ⟨q, 5, none⟩ = false ∧ w.frozen? ⟨q, 6, none⟩ = false ∧ w.frozen? ⟨q, 7, none⟩ = false := by
  unfold RdAt at h
  exact ⟨h.free 0, h.free 1, h.free 2, h.free 3, h.free 4, h.free 5, h.free 6, h.free 7⟩
theorem RdAt.lt {w : World} {q p : Nat} {c : CmdM} {t : ByteArray} {bad : Bool} (h : RdAt w q c t p bad) : q < w.heap.size := by
  unfold RdAt at h
  exact h.lt
theorem RdAt.below {w w' : World} {q p : Nat} {c : CmdM} {t : ByteArray} {bad : Bool} (h : RdAt w q c t p bad) (hb : Below w.heap.size w w') : RdAt w' q c t p bad := by
  have hl := h.lt
  unfold RdAt at h ⊢
  exact h.below hb hl

/-- Is the number at a place none? -/
def badV (l : List Int) (p X : Nat) : Bool := !(getErr l p X == 0)

set_option maxRecDepth 100000 in
theorem rtake_any (X : Nat) (x : Int) (q p : Nat) (k b s d a lo hi m : Int) (t : ByteArray) (bad : Bool) (w : World) (h : RdAt w q ⟨k, b, s, d, a, lo, hi, m⟩ t p bad) (ht : t.size ≤ 17592186044416) (hp : p ≤ 1000) (hX : X ≤ 6) :
    Calls Tryd.prog 59 #[.pointer (some ⟨q, 0, none⟩), .int .i64 x, .int .i64 X] w fun e w' => e = .returned (.int .i64 (getVal (bytesI t) p X)) ∧ RdAt w' q ⟨k, b, s, d, a, lo, hi, m⟩ t (p + X) (bad || badV (bytesI t) p X) ∧ Below q w w' := by
  obtain ⟨c8, c9, c10⟩ := h.more
  have hq := h.lt
  have f9 : w.frozen? ⟨q, 9, none⟩ = false := by unfold RdAt at h; exact h.free 9
  have f10 : w.frozen? ⟨q, 10, none⟩ = false := by unfold RdAt at h; exact h.free 10
  have hM : t.size ≤ maxLen := by unfold maxLen; omega
  have HG : Hid (getVal (bytesI t) p X = getVal (bytesI t) p X) := rfl
  obtain ⟨gv, hgv⟩ : ∃ y, getVal (bytesI t) p X = y := ⟨_, rfl⟩
  obtain ⟨ge, hge⟩ : ∃ y, getErr (bytesI t) p X = y := ⟨_, rfl⟩
  have C : ∀ n, Calls Tryd.prog 81 #[.string t, .int .i64 p, .int .i64 X] (w.drewN n) fun e w' => e = .returned (.tuple #[.int .i64 gv, .int .i64 ge]) ∧ w' = w.drewN n := fun n =>
    (numGet_any t p X _ hM (by omega) (by omega)).mono (by
      rintro e w' ⟨rfl, rfl⟩
      refine ⟨?_, rfl⟩
      rw [getOut, hgv, hge])
  have HB : Hid (badV (bytesI t) p X = !(ge == 0)) := by show _ = _; unfold badV; rw [hge]
  rw [hgv]
  clear hgv hge hM HG
  have F : ∀ (n : Nat) (bd : Bool), RdAt (((w.drewN n).setCell ⟨q, 9, none⟩ (.int .i64 ((p : Int) + X))).setCell ⟨q, 10, none⟩ (.bool bd)) q ⟨k, b, s, d, a, lo, hi, m⟩ t (p + X) bd ∧ Below q w (((w.drewN n).setCell ⟨q, 9, none⟩ (.int .i64 ((p : Int) + X))).setCell ⟨q, 10, none⟩ (.bool bd)) := fun n bd => by
    have h0 : Blk (w.drewN n) q #[.int .i8 k, .int .i64 b, .int .i64 s, .int .i64 d, .int .i64 a, .int .i64 lo, .int .i64 hi, .int .i8 m, .string t, .int .i64 p, .bool bad] 79 := h
    have e1 : ((p : Int) + X) = ((p + X : Nat) : Int) := by omega
    rw [e1]
    exact ⟨(h0.set 9 _).set 10 _, (((drewN_below w n q)).setCell (Nat.le_refl q) _).setCell (Nat.le_refl q) _⟩
  have F := Lib.hid F
  clear h
  go_enter Tryd.func59, Tryd.ntmps59
  go_wp2_with fail
  go_quiet ((go_at_call 81; exact Calls.quiet_of_same (C _)))
  clear C
  cases bad with
  | true =>
    go_wp2_with fail
    go_ret
    refine ⟨rfl, ?_⟩
    rw [Bool.true_or]
    exact F.out _ _
  | false =>
    go_wp2_with fail
    go_ret
    refine ⟨rfl, ?_⟩
    rw [Bool.false_or, HB.out]
    exact F.out _ _

theorem RdAt.set0 {w : World} {q p : Nat} {k b s d a lo hi m : Int} {t : ByteArray} {bad : Bool} (h : RdAt w q ⟨k, b, s, d, a, lo, hi, m⟩ t p bad) (v : Int) : RdAt (w.setCell ⟨q, 0, none⟩ (.int .i8 v)) q ⟨v, b, s, d, a, lo, hi, m⟩ t p bad := Blk.set h 0 _
theorem RdAt.set1 {w : World} {q p : Nat} {k b s d a lo hi m : Int} {t : ByteArray} {bad : Bool} (h : RdAt w q ⟨k, b, s, d, a, lo, hi, m⟩ t p bad) (v : Int) : RdAt (w.setCell ⟨q, 1, none⟩ (.int .i64 v)) q ⟨k, v, s, d, a, lo, hi, m⟩ t p bad := Blk.set h 1 _
theorem RdAt.set2 {w : World} {q p : Nat} {k b s d a lo hi m : Int} {t : ByteArray} {bad : Bool} (h : RdAt w q ⟨k, b, s, d, a, lo, hi, m⟩ t p bad) (v : Int) : RdAt (w.setCell ⟨q, 2, none⟩ (.int .i64 v)) q ⟨k, b, v, d, a, lo, hi, m⟩ t p bad := Blk.set h 2 _
theorem RdAt.set3 {w : World} {q p : Nat} {k b s d a lo hi m : Int} {t : ByteArray} {bad : Bool} (h : RdAt w q ⟨k, b, s, d, a, lo, hi, m⟩ t p bad) (v : Int) : RdAt (w.setCell ⟨q, 3, none⟩ (.int .i64 v)) q ⟨k, b, s, v, a, lo, hi, m⟩ t p bad := Blk.set h 3 _
theorem RdAt.set4 {w : World} {q p : Nat} {k b s d a lo hi m : Int} {t : ByteArray} {bad : Bool} (h : RdAt w q ⟨k, b, s, d, a, lo, hi, m⟩ t p bad) (v : Int) : RdAt (w.setCell ⟨q, 4, none⟩ (.int .i64 v)) q ⟨k, b, s, d, v, lo, hi, m⟩ t p bad := Blk.set h 4 _
theorem RdAt.set5 {w : World} {q p : Nat} {k b s d a lo hi m : Int} {t : ByteArray} {bad : Bool} (h : RdAt w q ⟨k, b, s, d, a, lo, hi, m⟩ t p bad) (v : Int) : RdAt (w.setCell ⟨q, 5, none⟩ (.int .i64 v)) q ⟨k, b, s, d, a, v, hi, m⟩ t p bad := Blk.set h 5 _
theorem RdAt.set6 {w : World} {q p : Nat} {k b s d a lo hi m : Int} {t : ByteArray} {bad : Bool} (h : RdAt w q ⟨k, b, s, d, a, lo, hi, m⟩ t p bad) (v : Int) : RdAt (w.setCell ⟨q, 6, none⟩ (.int .i64 v)) q ⟨k, b, s, d, a, lo, v, m⟩ t p bad := Blk.set h 6 _
theorem RdAt.set7 {w : World} {q p : Nat} {k b s d a lo hi m : Int} {t : ByteArray} {bad : Bool} (h : RdAt w q ⟨k, b, s, d, a, lo, hi, m⟩ t p bad) (v : Int) : RdAt (w.setCell ⟨q, 7, none⟩ (.int .i8 v)) q ⟨k, b, s, d, a, lo, hi, v⟩ t p bad := Blk.set h 7 _

/-! ### What is taken of a text, whatever it is -/
def gv (l : List Int) (p X : Nat) : Int := getVal l p X
def tkK (l : List Int) : Int := IntKind.i8.wrap (gv l 0 1)
def tkC (l : List Int) : CmdM :=
  ⟨tkK l, gv l 1 6, gv l 7 4, if hasDeadB (tkK l) = true then gv l 11 6 else 0, if hasWasB (tkK l) = true then gv l 17 6 else 0,
   if hasSpanB (tkK l) = true then gv l 11 1 else 0, if hasSpanB (tkK l) = true then gv l 12 1 else 0, if hasModeB (tkK l) = true then IntKind.i8.wrap (gv l 13 1) else 0⟩
def tkB (l : List Int) : Bool :=
  badV l 0 1 || badV l 1 6 || badV l 7 4 || (hasSpanB (tkK l) && (badV l 11 1 || badV l 12 1)) || (hasModeB (tkK l) && badV l 13 1) || (hasDeadB (tkK l) && badV l 11 6) || (hasWasB (tkK l) && badV l 17 6)

set_option maxRecDepth 100000 in
set_option maxHeartbeats 1000000 in
theorem eachTake_any (q : Nat) (t : ByteArray) (w : World) (h : RdAt w q ⟨0, 0, 0, 0, 0, 0, 0, 0⟩ t 0 false) (ht : t.size ≤ 17592186044416) :
    Calls Tryd.prog 57 #[.pointer (some ⟨q, 0, none⟩), .func (.func 59) #[.pointer (some ⟨q, 0, none⟩)] #[]] w fun e w' => e = .returned (.tuple #[]) ∧ RdAt w' q (tkC (bytesI t)) t (cLen (tkK (bytesI t))) (tkB (bytesI t)) ∧ Below q w w' := by
  obtain ⟨c0, c1, c2, c3, c4, c5, c6, c7⟩ := h.cells
  obtain ⟨f0, f1, f2, f3, f4, f5, f6, f7⟩ := h.frees
  have hq := h.lt
  go_enter Tryd.func57, Tryd.ntmps57
  go_wp2_with fail
  refine (rtake_any 1 0 q 0 0 0 0 0 0 0 0 0 t (false) _ h ht (by omega) (by omega)).mono ?_
  rintro e w1 ⟨rfl, P1, b1⟩
  rw [show getVal (bytesI t) ((0 : Nat) : Int) ((1 : Nat) : Int) = gv (bytesI t) 0 1 from rfl]
  obtain ⟨v1, hv1⟩ : ∃ v, Hid (gv (bytesI t) 0 1 = v) := ⟨_, rfl⟩
  rw [hv1.out]
  clear h c0 c1 c2 c3 c4 c5 c6 c7 f0 f1 f2 f3 f4 f5 f6 f7 hq
  obtain ⟨c0, c1, c2, c3, c4, c5, c6, c7⟩ := P1.cells
  obtain ⟨f0, f1, f2, f3, f4, f5, f6, f7⟩ := P1.frees
  have hq := P1.lt
  have Q1 := P1.set0 (IntKind.i8.wrap v1)
  have d1 : Below q w (w1.setCell ⟨q, 0, none⟩ (.int .i8 (IntKind.i8.wrap v1))) := b1.setCell (Nat.le_refl q) _
  obtain ⟨k, Hk⟩ : ∃ k, Hid (IntKind.i8.wrap v1 = k) := ⟨_, rfl⟩
  rw [Hk.out] at Q1 d1
  clear P1 b1
  go_upto_region 1 with fail
  rw [Hk.out]
  go_wp2_with fail
  refine (rtake_any 6 0 q 1 k 0 0 0 0 0 0 0 t (false || badV (bytesI t) 0 1) _ Q1 ht (by omega) (by omega)).mono ?_
  rintro e w2 ⟨rfl, P2, b2⟩
  rw [show getVal (bytesI t) ((1 : Nat) : Int) ((6 : Nat) : Int) = gv (bytesI t) 1 6 from rfl]
  obtain ⟨v2, hv2⟩ : ∃ v, Hid (gv (bytesI t) 1 6 = v) := ⟨_, rfl⟩
  rw [hv2.out]
  have b2 := Below.trans d1 b2
  clear Q1 d1 c0 c1 c2 c3 c4 c5 c6 c7 f0 f1 f2 f3 f4 f5 f6 f7 hq
  obtain ⟨c0, c1, c2, c3, c4, c5, c6, c7⟩ := P2.cells
  obtain ⟨f0, f1, f2, f3, f4, f5, f6, f7⟩ := P2.frees
  have hq := P2.lt
  have Q2 := P2.set1 v2
  have d2 : Below q w (w2.setCell ⟨q, 1, none⟩ (.int .i64 v2)) := b2.setCell (Nat.le_refl q) _
  go_wp2_with fail
  refine (rtake_any 4 0 q 7 k v2 0 0 0 0 0 0 t (false || badV (bytesI t) 0 1 || badV (bytesI t) 1 6) _ Q2 ht (by omega) (by omega)).mono ?_
  rintro e w3 ⟨rfl, P3, b3⟩
  rw [show getVal (bytesI t) ((7 : Nat) : Int) ((4 : Nat) : Int) = gv (bytesI t) 7 4 from rfl]
  obtain ⟨v3, hv3⟩ : ∃ v, Hid (gv (bytesI t) 7 4 = v) := ⟨_, rfl⟩
  rw [hv3.out]
  have b3 := Below.trans d2 b3
  clear P2 b2 Q2 d2 c0 c1 c2 c3 c4 c5 c6 c7 f0 f1 f2 f3 f4 f5 f6 f7 hq
  obtain ⟨c0, c1, c2, c3, c4, c5, c6, c7⟩ := P3.cells
  obtain ⟨f0, f1, f2, f3, f4, f5, f6, f7⟩ := P3.frees
  have hq := P3.lt
  have Q3 := P3.set2 v3
  have d3 : Below q w (w3.setCell ⟨q, 2, none⟩ (.int .i64 v3)) := b3.setCell (Nat.le_refl q) _
  have HT : Hid (tkK (bytesI t) = k) := by show _ = _; unfold tkK; rw [hv1.out, Hk.out]
  have hcase : k = 2 ∨ k = 3 ∨ k = 4 ∨ k = 5 ∨ (hasSpanB k = false ∧ hasModeB k = false ∧ hasDeadB k = false ∧ hasWasB k = false ∧ cLen k = 11) := by
    by_cases k2 : k = 2; · exact .inl k2
    by_cases k3 : k = 3; · exact .inr (.inl k3)
    by_cases k4 : k = 4; · exact .inr (.inr (.inl k4))
    by_cases k5 : k = 5; · exact .inr (.inr (.inr (.inl k5)))
    exact .inr (.inr (.inr (.inr ⟨by simp [hasSpanB, k2, k3], by simp [hasModeB, k2], by simp [hasDeadB, k4, k5], by simp [hasWasB, k4], by unfold cLen; rw [if_neg k2, if_neg k3, if_neg k4, if_neg k5]⟩)))
  clear Hk hv1
  rcases hcase with hk | hk | hk | hk | ⟨hhasSpanB, hhasModeB, hhasDeadB, hhasWasB, hlen⟩
  · obtain rfl : k = 2 := hk
    go_wp2_with fail
    refine (hasSpan_any 2 v2 v3 0 0 0 0 0 _).mono ?_
    rintro e w4 ⟨rfl, h4⟩
    rw [show hasSpanB 2 = true from rfl]
    have P4 := Q3.below h4
    have d4 := Below.trans d3 (h4.mono (Nat.le_of_lt Q3.lt))
    clear h4 P3 b3 Q3 d3 c0 c1 c2 c3 c4 c5 c6 c7 f0 f1 f2 f3 f4 f5 f6 f7 hq
    obtain ⟨c0, c1, c2, c3, c4, c5, c6, c7⟩ := P4.cells
    obtain ⟨f0, f1, f2, f3, f4, f5, f6, f7⟩ := P4.frees
    have hq := P4.lt
    go_wp2_with fail
    refine (rtake_any 1 0 q 11 2 v2 v3 0 0 0 0 0 t (false || badV (bytesI t) 0 1 || badV (bytesI t) 1 6 || badV (bytesI t) 7 4) _ P4 ht (by omega) (by omega)).mono ?_
    rintro e w5 ⟨rfl, P5, b5⟩
    rw [show getVal (bytesI t) ((11 : Nat) : Int) ((1 : Nat) : Int) = gv (bytesI t) 11 1 from rfl]
    obtain ⟨v4, hv4⟩ : ∃ v, Hid (gv (bytesI t) 11 1 = v) := ⟨_, rfl⟩
    rw [hv4.out]
    have b5 := Below.trans d4 b5
    clear P4 d4 c0 c1 c2 c3 c4 c5 c6 c7 f0 f1 f2 f3 f4 f5 f6 f7 hq
    obtain ⟨c0, c1, c2, c3, c4, c5, c6, c7⟩ := P5.cells
    obtain ⟨f0, f1, f2, f3, f4, f5, f6, f7⟩ := P5.frees
    have hq := P5.lt
    have Q5 := P5.set5 v4
    have d5 : Below q w (w5.setCell ⟨q, 5, none⟩ (.int .i64 v4)) := b5.setCell (Nat.le_refl q) _
    go_wp2_with fail
    refine (rtake_any 1 0 q 12 2 v2 v3 0 0 v4 0 0 t (false || badV (bytesI t) 0 1 || badV (bytesI t) 1 6 || badV (bytesI t) 7 4 || badV (bytesI t) 11 1) _ Q5 ht (by omega) (by omega)).mono ?_
    rintro e w6 ⟨rfl, P6, b6⟩
    rw [show getVal (bytesI t) ((12 : Nat) : Int) ((1 : Nat) : Int) = gv (bytesI t) 12 1 from rfl]
    obtain ⟨v5, hv5⟩ : ∃ v, Hid (gv (bytesI t) 12 1 = v) := ⟨_, rfl⟩
    rw [hv5.out]
    have b6 := Below.trans d5 b6
    clear P5 b5 Q5 d5 c0 c1 c2 c3 c4 c5 c6 c7 f0 f1 f2 f3 f4 f5 f6 f7 hq
    obtain ⟨c0, c1, c2, c3, c4, c5, c6, c7⟩ := P6.cells
    obtain ⟨f0, f1, f2, f3, f4, f5, f6, f7⟩ := P6.frees
    have hq := P6.lt
    have Q6 := P6.set6 v5
    have d6 : Below q w (w6.setCell ⟨q, 6, none⟩ (.int .i64 v5)) := b6.setCell (Nat.le_refl q) _
    go_wp2_with fail
    refine (hasMode_any 2 v2 v3 0 0 v4 v5 0 _).mono ?_
    rintro e w7 ⟨rfl, h7⟩
    rw [show hasModeB 2 = true from rfl]
    have P7 := Q6.below h7
    have d7 := Below.trans d6 (h7.mono (Nat.le_of_lt Q6.lt))
    clear h7 P6 b6 Q6 d6 c0 c1 c2 c3 c4 c5 c6 c7 f0 f1 f2 f3 f4 f5 f6 f7 hq
    obtain ⟨c0, c1, c2, c3, c4, c5, c6, c7⟩ := P7.cells
    obtain ⟨f0, f1, f2, f3, f4, f5, f6, f7⟩ := P7.frees
    have hq := P7.lt
    go_wp2_with fail
    refine (rtake_any 1 0 q 13 2 v2 v3 0 0 v4 v5 0 t (false || badV (bytesI t) 0 1 || badV (bytesI t) 1 6 || badV (bytesI t) 7 4 || badV (bytesI t) 11 1 || badV (bytesI t) 12 1) _ P7 ht (by omega) (by omega)).mono ?_
    rintro e w8 ⟨rfl, P8, b8⟩
    rw [show getVal (bytesI t) ((13 : Nat) : Int) ((1 : Nat) : Int) = gv (bytesI t) 13 1 from rfl]
    obtain ⟨v6, hv6⟩ : ∃ v, Hid (gv (bytesI t) 13 1 = v) := ⟨_, rfl⟩
    rw [hv6.out]
    have b8 := Below.trans d7 b8
    clear P7 d7 c0 c1 c2 c3 c4 c5 c6 c7 f0 f1 f2 f3 f4 f5 f6 f7 hq
    obtain ⟨c0, c1, c2, c3, c4, c5, c6, c7⟩ := P8.cells
    obtain ⟨f0, f1, f2, f3, f4, f5, f6, f7⟩ := P8.frees
    have hq := P8.lt
    have Q8 := P8.set7 (IntKind.i8.wrap v6)
    have d8 : Below q w (w8.setCell ⟨q, 7, none⟩ (.int .i8 (IntKind.i8.wrap v6))) := b8.setCell (Nat.le_refl q) _
    go_wp2_with fail
    refine (hasDead_any 2 v2 v3 0 0 v4 v5 (IntKind.i8.wrap v6) _).mono ?_
    rintro e w9 ⟨rfl, h9⟩
    rw [show hasDeadB 2 = false from rfl]
    have P9 := Q8.below h9
    have d9 := Below.trans d8 (h9.mono (Nat.le_of_lt Q8.lt))
    clear h9 P8 b8 Q8 d8 c0 c1 c2 c3 c4 c5 c6 c7 f0 f1 f2 f3 f4 f5 f6 f7 hq
    obtain ⟨c0, c1, c2, c3, c4, c5, c6, c7⟩ := P9.cells
    obtain ⟨f0, f1, f2, f3, f4, f5, f6, f7⟩ := P9.frees
    have hq := P9.lt
    go_wp2_with fail
    refine (hasWas_any 2 v2 v3 0 0 v4 v5 (IntKind.i8.wrap v6) _).mono ?_
    rintro e w10 ⟨rfl, h10⟩
    rw [show hasWasB 2 = false from rfl]
    have P10 := P9.below h10
    have d10 := Below.trans d9 (h10.mono (Nat.le_of_lt P9.lt))
    clear h10 P9 d9 c0 c1 c2 c3 c4 c5 c6 c7 f0 f1 f2 f3 f4 f5 f6 f7 hq
    obtain ⟨c0, c1, c2, c3, c4, c5, c6, c7⟩ := P10.cells
    obtain ⟨f0, f1, f2, f3, f4, f5, f6, f7⟩ := P10.frees
    have hq := P10.lt
    have HC : tkC (bytesI t) = ⟨2, v2, v3, 0, 0, v4, v5, (IntKind.i8.wrap v6)⟩ := by
      unfold tkC
      rw [HT.out, hv2.out, hv3.out, hv4.out, hv5.out, hv6.out]
      rfl
    have HF : tkB (bytesI t) = (false || badV (bytesI t) 0 1 || badV (bytesI t) 1 6 || badV (bytesI t) 7 4 || badV (bytesI t) 11 1 || badV (bytesI t) 12 1 || badV (bytesI t) 13 1) := by
      unfold tkB
      rw [HT.out]
      simp [hasSpanB, hasModeB, hasDeadB, hasWasB, Bool.or_assoc]
    have HN : cLen (tkK (bytesI t)) = 14 := by rw [HT.out]; rfl
    have PF := P10
    have DF := d10
    rw [← HC, ← HF] at PF
    clear P10 d10
    have HN := Lib.hid HN
    have PF := Lib.hid PF
    clear HC HF
    go_wp2_with fail
    go_end0
    exact ⟨rfl, by rw [HN.out]; exact PF.out, DF⟩
  · obtain rfl : k = 3 := hk
    go_wp2_with fail
    refine (hasSpan_any 3 v2 v3 0 0 0 0 0 _).mono ?_
    rintro e w4 ⟨rfl, h4⟩
    rw [show hasSpanB 3 = true from rfl]
    have P4 := Q3.below h4
    have d4 := Below.trans d3 (h4.mono (Nat.le_of_lt Q3.lt))
    clear h4 P3 b3 Q3 d3 c0 c1 c2 c3 c4 c5 c6 c7 f0 f1 f2 f3 f4 f5 f6 f7 hq
    obtain ⟨c0, c1, c2, c3, c4, c5, c6, c7⟩ := P4.cells
    obtain ⟨f0, f1, f2, f3, f4, f5, f6, f7⟩ := P4.frees
    have hq := P4.lt
    go_wp2_with fail
    refine (rtake_any 1 0 q 11 3 v2 v3 0 0 0 0 0 t (false || badV (bytesI t) 0 1 || badV (bytesI t) 1 6 || badV (bytesI t) 7 4) _ P4 ht (by omega) (by omega)).mono ?_
    rintro e w5 ⟨rfl, P5, b5⟩
    rw [show getVal (bytesI t) ((11 : Nat) : Int) ((1 : Nat) : Int) = gv (bytesI t) 11 1 from rfl]
    obtain ⟨v4, hv4⟩ : ∃ v, Hid (gv (bytesI t) 11 1 = v) := ⟨_, rfl⟩
    rw [hv4.out]
    have b5 := Below.trans d4 b5
    clear P4 d4 c0 c1 c2 c3 c4 c5 c6 c7 f0 f1 f2 f3 f4 f5 f6 f7 hq
    obtain ⟨c0, c1, c2, c3, c4, c5, c6, c7⟩ := P5.cells
    obtain ⟨f0, f1, f2, f3, f4, f5, f6, f7⟩ := P5.frees
    have hq := P5.lt
    have Q5 := P5.set5 v4
    have d5 : Below q w (w5.setCell ⟨q, 5, none⟩ (.int .i64 v4)) := b5.setCell (Nat.le_refl q) _
    go_wp2_with fail
    refine (rtake_any 1 0 q 12 3 v2 v3 0 0 v4 0 0 t (false || badV (bytesI t) 0 1 || badV (bytesI t) 1 6 || badV (bytesI t) 7 4 || badV (bytesI t) 11 1) _ Q5 ht (by omega) (by omega)).mono ?_
    rintro e w6 ⟨rfl, P6, b6⟩
    rw [show getVal (bytesI t) ((12 : Nat) : Int) ((1 : Nat) : Int) = gv (bytesI t) 12 1 from rfl]
    obtain ⟨v5, hv5⟩ : ∃ v, Hid (gv (bytesI t) 12 1 = v) := ⟨_, rfl⟩
    rw [hv5.out]
    have b6 := Below.trans d5 b6
    clear P5 b5 Q5 d5 c0 c1 c2 c3 c4 c5 c6 c7 f0 f1 f2 f3 f4 f5 f6 f7 hq
    obtain ⟨c0, c1, c2, c3, c4, c5, c6, c7⟩ := P6.cells
    obtain ⟨f0, f1, f2, f3, f4, f5, f6, f7⟩ := P6.frees
    have hq := P6.lt
    have Q6 := P6.set6 v5
    have d6 : Below q w (w6.setCell ⟨q, 6, none⟩ (.int .i64 v5)) := b6.setCell (Nat.le_refl q) _
    go_wp2_with fail
    refine (hasMode_any 3 v2 v3 0 0 v4 v5 0 _).mono ?_
    rintro e w7 ⟨rfl, h7⟩
    rw [show hasModeB 3 = false from rfl]
    have P7 := Q6.below h7
    have d7 := Below.trans d6 (h7.mono (Nat.le_of_lt Q6.lt))
    clear h7 P6 b6 Q6 d6 c0 c1 c2 c3 c4 c5 c6 c7 f0 f1 f2 f3 f4 f5 f6 f7 hq
    obtain ⟨c0, c1, c2, c3, c4, c5, c6, c7⟩ := P7.cells
    obtain ⟨f0, f1, f2, f3, f4, f5, f6, f7⟩ := P7.frees
    have hq := P7.lt
    go_wp2_with fail
    refine (hasDead_any 3 v2 v3 0 0 v4 v5 0 _).mono ?_
    rintro e w8 ⟨rfl, h8⟩
    rw [show hasDeadB 3 = false from rfl]
    have P8 := P7.below h8
    have d8 := Below.trans d7 (h8.mono (Nat.le_of_lt P7.lt))
    clear h8 P7 d7 c0 c1 c2 c3 c4 c5 c6 c7 f0 f1 f2 f3 f4 f5 f6 f7 hq
    obtain ⟨c0, c1, c2, c3, c4, c5, c6, c7⟩ := P8.cells
    obtain ⟨f0, f1, f2, f3, f4, f5, f6, f7⟩ := P8.frees
    have hq := P8.lt
    go_wp2_with fail
    refine (hasWas_any 3 v2 v3 0 0 v4 v5 0 _).mono ?_
    rintro e w9 ⟨rfl, h9⟩
    rw [show hasWasB 3 = false from rfl]
    have P9 := P8.below h9
    have d9 := Below.trans d8 (h9.mono (Nat.le_of_lt P8.lt))
    clear h9 P8 d8 c0 c1 c2 c3 c4 c5 c6 c7 f0 f1 f2 f3 f4 f5 f6 f7 hq
    obtain ⟨c0, c1, c2, c3, c4, c5, c6, c7⟩ := P9.cells
    obtain ⟨f0, f1, f2, f3, f4, f5, f6, f7⟩ := P9.frees
    have hq := P9.lt
    have HC : tkC (bytesI t) = ⟨3, v2, v3, 0, 0, v4, v5, 0⟩ := by
      unfold tkC
      rw [HT.out, hv2.out, hv3.out, hv4.out, hv5.out]
      rfl
    have HF : tkB (bytesI t) = (false || badV (bytesI t) 0 1 || badV (bytesI t) 1 6 || badV (bytesI t) 7 4 || badV (bytesI t) 11 1 || badV (bytesI t) 12 1) := by
      unfold tkB
      rw [HT.out]
      simp [hasSpanB, hasModeB, hasDeadB, hasWasB, Bool.or_assoc]
    have HN : cLen (tkK (bytesI t)) = 13 := by rw [HT.out]; rfl
    have PF := P9
    have DF := d9
    rw [← HC, ← HF] at PF
    clear P9 d9
    have HN := Lib.hid HN
    have PF := Lib.hid PF
    clear HC HF
    go_wp2_with fail
    go_end0
    exact ⟨rfl, by rw [HN.out]; exact PF.out, DF⟩
  · obtain rfl : k = 4 := hk
    go_wp2_with fail
    refine (hasSpan_any 4 v2 v3 0 0 0 0 0 _).mono ?_
    rintro e w4 ⟨rfl, h4⟩
    rw [show hasSpanB 4 = false from rfl]
    have P4 := Q3.below h4
    have d4 := Below.trans d3 (h4.mono (Nat.le_of_lt Q3.lt))
    clear h4 P3 b3 Q3 d3 c0 c1 c2 c3 c4 c5 c6 c7 f0 f1 f2 f3 f4 f5 f6 f7 hq
    obtain ⟨c0, c1, c2, c3, c4, c5, c6, c7⟩ := P4.cells
    obtain ⟨f0, f1, f2, f3, f4, f5, f6, f7⟩ := P4.frees
    have hq := P4.lt
    go_wp2_with fail
    refine (hasMode_any 4 v2 v3 0 0 0 0 0 _).mono ?_
    rintro e w5 ⟨rfl, h5⟩
    rw [show hasModeB 4 = false from rfl]
    have P5 := P4.below h5
    have d5 := Below.trans d4 (h5.mono (Nat.le_of_lt P4.lt))
    clear h5 P4 d4 c0 c1 c2 c3 c4 c5 c6 c7 f0 f1 f2 f3 f4 f5 f6 f7 hq
    obtain ⟨c0, c1, c2, c3, c4, c5, c6, c7⟩ := P5.cells
    obtain ⟨f0, f1, f2, f3, f4, f5, f6, f7⟩ := P5.frees
    have hq := P5.lt
    go_wp2_with fail
    refine (hasDead_any 4 v2 v3 0 0 0 0 0 _).mono ?_
    rintro e w6 ⟨rfl, h6⟩
    rw [show hasDeadB 4 = true from rfl]
    have P6 := P5.below h6
    have d6 := Below.trans d5 (h6.mono (Nat.le_of_lt P5.lt))
    clear h6 P5 d5 c0 c1 c2 c3 c4 c5 c6 c7 f0 f1 f2 f3 f4 f5 f6 f7 hq
    obtain ⟨c0, c1, c2, c3, c4, c5, c6, c7⟩ := P6.cells
    obtain ⟨f0, f1, f2, f3, f4, f5, f6, f7⟩ := P6.frees
    have hq := P6.lt
    go_wp2_with fail
    refine (rtake_any 6 0 q 11 4 v2 v3 0 0 0 0 0 t (false || badV (bytesI t) 0 1 || badV (bytesI t) 1 6 || badV (bytesI t) 7 4) _ P6 ht (by omega) (by omega)).mono ?_
    rintro e w7 ⟨rfl, P7, b7⟩
    rw [show getVal (bytesI t) ((11 : Nat) : Int) ((6 : Nat) : Int) = gv (bytesI t) 11 6 from rfl]
    obtain ⟨v4, hv4⟩ : ∃ v, Hid (gv (bytesI t) 11 6 = v) := ⟨_, rfl⟩
    rw [hv4.out]
    have b7 := Below.trans d6 b7
    clear P6 d6 c0 c1 c2 c3 c4 c5 c6 c7 f0 f1 f2 f3 f4 f5 f6 f7 hq
    obtain ⟨c0, c1, c2, c3, c4, c5, c6, c7⟩ := P7.cells
    obtain ⟨f0, f1, f2, f3, f4, f5, f6, f7⟩ := P7.frees
    have hq := P7.lt
    have Q7 := P7.set3 v4
    have d7 : Below q w (w7.setCell ⟨q, 3, none⟩ (.int .i64 v4)) := b7.setCell (Nat.le_refl q) _
    go_wp2_with fail
    refine (hasWas_any 4 v2 v3 v4 0 0 0 0 _).mono ?_
    rintro e w8 ⟨rfl, h8⟩
    rw [show hasWasB 4 = true from rfl]
    have P8 := Q7.below h8
    have d8 := Below.trans d7 (h8.mono (Nat.le_of_lt Q7.lt))
    clear h8 P7 b7 Q7 d7 c0 c1 c2 c3 c4 c5 c6 c7 f0 f1 f2 f3 f4 f5 f6 f7 hq
    obtain ⟨c0, c1, c2, c3, c4, c5, c6, c7⟩ := P8.cells
    obtain ⟨f0, f1, f2, f3, f4, f5, f6, f7⟩ := P8.frees
    have hq := P8.lt
    go_wp2_with fail
    refine (rtake_any 6 0 q 17 4 v2 v3 v4 0 0 0 0 t (false || badV (bytesI t) 0 1 || badV (bytesI t) 1 6 || badV (bytesI t) 7 4 || badV (bytesI t) 11 6) _ P8 ht (by omega) (by omega)).mono ?_
    rintro e w9 ⟨rfl, P9, b9⟩
    rw [show getVal (bytesI t) ((17 : Nat) : Int) ((6 : Nat) : Int) = gv (bytesI t) 17 6 from rfl]
    obtain ⟨v5, hv5⟩ : ∃ v, Hid (gv (bytesI t) 17 6 = v) := ⟨_, rfl⟩
    rw [hv5.out]
    have b9 := Below.trans d8 b9
    clear P8 d8 c0 c1 c2 c3 c4 c5 c6 c7 f0 f1 f2 f3 f4 f5 f6 f7 hq
    obtain ⟨c0, c1, c2, c3, c4, c5, c6, c7⟩ := P9.cells
    obtain ⟨f0, f1, f2, f3, f4, f5, f6, f7⟩ := P9.frees
    have hq := P9.lt
    have Q9 := P9.set4 v5
    have d9 : Below q w (w9.setCell ⟨q, 4, none⟩ (.int .i64 v5)) := b9.setCell (Nat.le_refl q) _
    have HC : tkC (bytesI t) = ⟨4, v2, v3, v4, v5, 0, 0, 0⟩ := by
      unfold tkC
      rw [HT.out, hv2.out, hv3.out, hv4.out, hv5.out]
      rfl
    have HF : tkB (bytesI t) = (false || badV (bytesI t) 0 1 || badV (bytesI t) 1 6 || badV (bytesI t) 7 4 || badV (bytesI t) 11 6 || badV (bytesI t) 17 6) := by
      unfold tkB
      rw [HT.out]
      simp [hasSpanB, hasModeB, hasDeadB, hasWasB, Bool.or_assoc]
    have HN : cLen (tkK (bytesI t)) = 23 := by rw [HT.out]; rfl
    have PF := Q9
    have DF := d9
    rw [← HC, ← HF] at PF
    clear P9 b9 Q9 d9
    have HN := Lib.hid HN
    have PF := Lib.hid PF
    clear HC HF
    go_wp2_with fail
    go_end0
    exact ⟨rfl, by rw [HN.out]; exact PF.out, DF⟩
  · obtain rfl : k = 5 := hk
    go_wp2_with fail
    refine (hasSpan_any 5 v2 v3 0 0 0 0 0 _).mono ?_
    rintro e w4 ⟨rfl, h4⟩
    rw [show hasSpanB 5 = false from rfl]
    have P4 := Q3.below h4
    have d4 := Below.trans d3 (h4.mono (Nat.le_of_lt Q3.lt))
    clear h4 P3 b3 Q3 d3 c0 c1 c2 c3 c4 c5 c6 c7 f0 f1 f2 f3 f4 f5 f6 f7 hq
    obtain ⟨c0, c1, c2, c3, c4, c5, c6, c7⟩ := P4.cells
    obtain ⟨f0, f1, f2, f3, f4, f5, f6, f7⟩ := P4.frees
    have hq := P4.lt
    go_wp2_with fail
    refine (hasMode_any 5 v2 v3 0 0 0 0 0 _).mono ?_
    rintro e w5 ⟨rfl, h5⟩
    rw [show hasModeB 5 = false from rfl]
    have P5 := P4.below h5
    have d5 := Below.trans d4 (h5.mono (Nat.le_of_lt P4.lt))
    clear h5 P4 d4 c0 c1 c2 c3 c4 c5 c6 c7 f0 f1 f2 f3 f4 f5 f6 f7 hq
    obtain ⟨c0, c1, c2, c3, c4, c5, c6, c7⟩ := P5.cells
    obtain ⟨f0, f1, f2, f3, f4, f5, f6, f7⟩ := P5.frees
    have hq := P5.lt
    go_wp2_with fail
    refine (hasDead_any 5 v2 v3 0 0 0 0 0 _).mono ?_
    rintro e w6 ⟨rfl, h6⟩
    rw [show hasDeadB 5 = true from rfl]
    have P6 := P5.below h6
    have d6 := Below.trans d5 (h6.mono (Nat.le_of_lt P5.lt))
    clear h6 P5 d5 c0 c1 c2 c3 c4 c5 c6 c7 f0 f1 f2 f3 f4 f5 f6 f7 hq
    obtain ⟨c0, c1, c2, c3, c4, c5, c6, c7⟩ := P6.cells
    obtain ⟨f0, f1, f2, f3, f4, f5, f6, f7⟩ := P6.frees
    have hq := P6.lt
    go_wp2_with fail
    refine (rtake_any 6 0 q 11 5 v2 v3 0 0 0 0 0 t (false || badV (bytesI t) 0 1 || badV (bytesI t) 1 6 || badV (bytesI t) 7 4) _ P6 ht (by omega) (by omega)).mono ?_
    rintro e w7 ⟨rfl, P7, b7⟩
    rw [show getVal (bytesI t) ((11 : Nat) : Int) ((6 : Nat) : Int) = gv (bytesI t) 11 6 from rfl]
    obtain ⟨v4, hv4⟩ : ∃ v, Hid (gv (bytesI t) 11 6 = v) := ⟨_, rfl⟩
    rw [hv4.out]
    have b7 := Below.trans d6 b7
    clear P6 d6 c0 c1 c2 c3 c4 c5 c6 c7 f0 f1 f2 f3 f4 f5 f6 f7 hq
    obtain ⟨c0, c1, c2, c3, c4, c5, c6, c7⟩ := P7.cells
    obtain ⟨f0, f1, f2, f3, f4, f5, f6, f7⟩ := P7.frees
    have hq := P7.lt
    have Q7 := P7.set3 v4
    have d7 : Below q w (w7.setCell ⟨q, 3, none⟩ (.int .i64 v4)) := b7.setCell (Nat.le_refl q) _
    go_wp2_with fail
    refine (hasWas_any 5 v2 v3 v4 0 0 0 0 _).mono ?_
    rintro e w8 ⟨rfl, h8⟩
    rw [show hasWasB 5 = false from rfl]
    have P8 := Q7.below h8
    have d8 := Below.trans d7 (h8.mono (Nat.le_of_lt Q7.lt))
    clear h8 P7 b7 Q7 d7 c0 c1 c2 c3 c4 c5 c6 c7 f0 f1 f2 f3 f4 f5 f6 f7 hq
    obtain ⟨c0, c1, c2, c3, c4, c5, c6, c7⟩ := P8.cells
    obtain ⟨f0, f1, f2, f3, f4, f5, f6, f7⟩ := P8.frees
    have hq := P8.lt
    have HC : tkC (bytesI t) = ⟨5, v2, v3, v4, 0, 0, 0, 0⟩ := by
      unfold tkC
      rw [HT.out, hv2.out, hv3.out, hv4.out]
      rfl
    have HF : tkB (bytesI t) = (false || badV (bytesI t) 0 1 || badV (bytesI t) 1 6 || badV (bytesI t) 7 4 || badV (bytesI t) 11 6) := by
      unfold tkB
      rw [HT.out]
      simp [hasSpanB, hasModeB, hasDeadB, hasWasB, Bool.or_assoc]
    have HN : cLen (tkK (bytesI t)) = 17 := by rw [HT.out]; rfl
    have PF := P8
    have DF := d8
    rw [← HC, ← HF] at PF
    clear P8 d8
    have HN := Lib.hid HN
    have PF := Lib.hid PF
    clear HC HF
    go_wp2_with fail
    go_end0
    exact ⟨rfl, by rw [HN.out]; exact PF.out, DF⟩
  · have HLen := Lib.hid hlen
    clear hlen
    go_wp2_with fail
    refine (hasSpan_any k v2 v3 0 0 0 0 0 _).mono ?_
    rintro e w4 ⟨rfl, h4⟩
    rw [hhasSpanB]
    have P4 := Q3.below h4
    have d4 := Below.trans d3 (h4.mono (Nat.le_of_lt Q3.lt))
    clear h4 P3 b3 Q3 d3 c0 c1 c2 c3 c4 c5 c6 c7 f0 f1 f2 f3 f4 f5 f6 f7 hq
    obtain ⟨c0, c1, c2, c3, c4, c5, c6, c7⟩ := P4.cells
    obtain ⟨f0, f1, f2, f3, f4, f5, f6, f7⟩ := P4.frees
    have hq := P4.lt
    go_wp2_with fail
    refine (hasMode_any k v2 v3 0 0 0 0 0 _).mono ?_
    rintro e w5 ⟨rfl, h5⟩
    rw [hhasModeB]
    have P5 := P4.below h5
    have d5 := Below.trans d4 (h5.mono (Nat.le_of_lt P4.lt))
    clear h5 P4 d4 c0 c1 c2 c3 c4 c5 c6 c7 f0 f1 f2 f3 f4 f5 f6 f7 hq
    obtain ⟨c0, c1, c2, c3, c4, c5, c6, c7⟩ := P5.cells
    obtain ⟨f0, f1, f2, f3, f4, f5, f6, f7⟩ := P5.frees
    have hq := P5.lt
    go_wp2_with fail
    refine (hasDead_any k v2 v3 0 0 0 0 0 _).mono ?_
    rintro e w6 ⟨rfl, h6⟩
    rw [hhasDeadB]
    have P6 := P5.below h6
    have d6 := Below.trans d5 (h6.mono (Nat.le_of_lt P5.lt))
    clear h6 P5 d5 c0 c1 c2 c3 c4 c5 c6 c7 f0 f1 f2 f3 f4 f5 f6 f7 hq
    obtain ⟨c0, c1, c2, c3, c4, c5, c6, c7⟩ := P6.cells
    obtain ⟨f0, f1, f2, f3, f4, f5, f6, f7⟩ := P6.frees
    have hq := P6.lt
    go_wp2_with fail
    refine (hasWas_any k v2 v3 0 0 0 0 0 _).mono ?_
    rintro e w7 ⟨rfl, h7⟩
    rw [hhasWasB]
    have P7 := P6.below h7
    have d7 := Below.trans d6 (h7.mono (Nat.le_of_lt P6.lt))
    clear h7 P6 d6 c0 c1 c2 c3 c4 c5 c6 c7 f0 f1 f2 f3 f4 f5 f6 f7 hq
    obtain ⟨c0, c1, c2, c3, c4, c5, c6, c7⟩ := P7.cells
    obtain ⟨f0, f1, f2, f3, f4, f5, f6, f7⟩ := P7.frees
    have hq := P7.lt
    have HC : tkC (bytesI t) = ⟨k, v2, v3, 0, 0, 0, 0, 0⟩ := by
      unfold tkC
      rw [HT.out, hv2.out, hv3.out, hhasSpanB, hhasModeB, hhasDeadB, hhasWasB]
      rfl
    have HF : tkB (bytesI t) = (false || badV (bytesI t) 0 1 || badV (bytesI t) 1 6 || badV (bytesI t) 7 4) := by
      unfold tkB
      rw [HT.out, hhasSpanB, hhasModeB, hhasDeadB, hhasWasB]
      simp [Bool.or_assoc]
    have HN : cLen (tkK (bytesI t)) = 11 := by rw [HT.out]; exact HLen.out
    have PF := P7
    have DF := d7
    rw [← HC, ← HF] at PF
    clear P7 d7
    have HN := Lib.hid HN
    have PF := Lib.hid PF
    clear HC HF
    go_wp2_with fail
    go_end0
    exact ⟨rfl, by rw [HN.out]; exact PF.out, DF⟩

end Go.Proofs.YtjdacpnfgpdjhaaDoor
