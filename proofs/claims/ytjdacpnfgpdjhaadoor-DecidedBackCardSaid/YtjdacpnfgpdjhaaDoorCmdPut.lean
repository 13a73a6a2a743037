/-
  The program's commands: what is written, and its numbers put one behind the other: by contract.
-/
import Derived.Test.YtjdacpnfgpdjhaaDoorCmdMay
import Derived.Test.YtjdacpnfgpdjhaaDoorCmdRefBytes
namespace Go.Proofs.YtjdacpnfgpdjhaaDoor
open Go.RowKit
set_option linter.unusedVariables false
set_option linter.unusedSimpArgs false

/-- What is written, in a block of its own: the command's cells, and its bytes so far. -/
def WrAt (w : World) (q B : Nat) (c : CmdM) (n : Nat) (xs : List Int) : Prop :=
  ∃ A p, Blk w q #[.int .i8 c.kind, .int .i64 c.by_, .int .i64 c.serial, .int .i64 c.dead, .int .i64 c.was, .int .i64 c.lo, .int .i64 c.hi, .int .i8 c.mode, .slice A n p] 76 ∧
    w.ownsRow B 5 1 (.slice A n p) n (xs.map (Value.int .u8)) ∧ q < B ∧ B ≤ w.heap.size
theorem WrAt.cells {w : World} {q B n : Nat} {k b s d a lo hi m : Int} {xs : List Int} (h : WrAt w q B ⟨k, b, s, d, a, lo, hi, m⟩ n xs) :
    w.cell? ⟨q, 0, none⟩ = some (.int .i8 k) ∧ w.cell? ⟨q, 1, none⟩ = some (.int .i64 b) ∧ w.cell? ⟨q, 2, none⟩ = some (.int .i64 s) ∧ w.cell? ⟨q, 3, none⟩ = some (.int .i64 d) ∧
    w.cell? ⟨q, 4, none⟩ = some (.int .i64 a) ∧ w.cell? ⟨q, 5, none⟩ = some (.int .i64 lo) ∧ w.cell? ⟨q, 6, none⟩ = some (.int .i64 hi) ∧ w.cell? ⟨q, 7, none⟩ = some (.int .i8 m) := by
  obtain ⟨A, p, h, _⟩ := h
  exact ⟨h.cell 0 _ rfl, h.cell 1 _ rfl, h.cell 2 _ rfl, h.cell 3 _ rfl, h.cell 4 _ rfl, h.cell 5 _ rfl, h.cell 6 _ rfl, h.cell 7 _ rfl⟩
theorem WrAt.frees {w : World} {q B n : Nat} {c : CmdM} {xs : List Int} (h : WrAt w q B c n xs) :
    w.frozen? ⟨q, 0, none⟩ = false ∧ w.frozen? ⟨q, 1, none⟩ = false ∧ w.frozen? ⟨q, 2, none⟩ = false ∧ w.frozen? ⟨q, 3, none⟩ = false ∧
    w.frozen? ⟨q, 4, none⟩ = false ∧ w.frozen? ⟨q, 5, none⟩ = false ∧ w.frozen? ⟨q, 6, none⟩ = false ∧ w.frozen? ⟨q, 7, none⟩ = false := by
  obtain ⟨A, p, h, _⟩ := h
  exact ⟨h.free 0, h.free 1, h.free 2, h.free 3, h.free 4, h.free 5, h.free 6, h.free 7⟩
theorem WrAt.lt {w : World} {q B n : Nat} {c : CmdM} {xs : List Int} (h : WrAt w q B c n xs) : q < w.heap.size := by
  obtain ⟨A, p, h, _⟩ := h
  exact h.lt
/-- A number of its own is stored where it stands. -/
theorem WrAt.same {w : World} {q B n : Nat} {c : CmdM} {xs : List Int} (h : WrAt w q B c n xs) {o : Nat} {v : Value} (hv : w.cell? ⟨q, o, none⟩ = some v) (ho : o < 8) : WrAt (w.setCell ⟨q, o, none⟩ v) q B c n xs := by
  obtain ⟨A, p, h1, h2, h3, h4⟩ := h
  refine ⟨A, p, ?_, ownsRow_setCell_below h2 h3 v, h3, by simpa [World.setCell] using h4⟩
  have h5 := h1.set o v
  have h6 : ∀ (cs : Array Value), cs[o]? = some v → cs.setIfInBounds o v = cs := fun cs hc => by
    obtain ⟨hlt, rfl⟩ := Array.getElem?_eq_some_iff.1 hc
    apply Array.ext
    · simp
    · intro i h7 h8
      rw [Array.getElem_setIfInBounds]
      split
      · rename_i h9; subst h9; rfl
      · rfl
      all_goals exact h8
  rw [h6 _ ?_] at h5
  · exact h5
  · rw [← hv]
    rcases o with _ | _ | _ | _ | _ | _ | _ | _ | o
    · exact (h1.cell 0 _ rfl).symm
    · exact (h1.cell 1 _ rfl).symm
    · exact (h1.cell 2 _ rfl).symm
    · exact (h1.cell 3 _ rfl).symm
    · exact (h1.cell 4 _ rfl).symm
    · exact (h1.cell 5 _ rfl).symm
    · exact (h1.cell 6 _ rfl).symm
    · exact (h1.cell 7 _ rfl).symm
    · omega
theorem WrAt.below {w w' : World} {q B n : Nat} {c : CmdM} {xs : List Int} (h : WrAt w q B c n xs) (hb : Below w.heap.size w w') : WrAt w' q B c n xs := by
  obtain ⟨A, p, h1, h2, h3, h4⟩ := h
  exact ⟨A, p, h1.below hb h1.lt, own_up0 h2 hb, h3, Nat.le_trans h4 hb.size⟩

set_option maxRecDepth 100000 in
theorem wput_any (X : Nat) (x : Int) (n q B : Nat) (k b s d a lo hi m : Int) (xs : List Int) (w : World) (h : WrAt w q B ⟨k, b, s, d, a, lo, hi, m⟩ n xs) (hf : fitsB X x = true) (hn : n ≤ 1000) :
    Calls Tryd.prog 58 #[.pointer (some ⟨q, 0, none⟩), .int .i64 x, .int .i64 X] w fun e w' => e = .returned (.int .i64 x) ∧ WrAt w' q B ⟨k, b, s, d, a, lo, hi, m⟩ (n + X) (xs ++ enc X x) ∧ Below q w w' := by
  obtain ⟨A, p, h1, h2, h3, h4⟩ := h
  have hl := Lies.of_own h2
  have hq := h1.lt
  have c8 := h1.cell 8 _ rfl
  have HL : Hid (xs.length = n) := by show _ = _; have := hl.1; simpa using this
  go_enter Tryd.func58, Tryd.ntmps58
  go_wp2_with fail
  refine (numPut_any (X : Int) A (some ⟨w.heap.size, 0, none⟩) n 1 p 1 xs [x] _ (hl.alloc _) (lies_int w 3 x rfl) (by omega) (by omega)).mono ?_
  intro e w1 hpost
  obtain ⟨v1, rfl, hown1, hb1⟩ := put_single hf hpost
  rw [HL.out] at hown1
  have b1 : Below w.heap.size w w1 := below_then (boxed_new w _) hb1
  have p1 := h1.below b1 h1.lt
  have f8 := p1.free 8
  have c8' := p1.cell 8 _ rfl
  have hq1 := p1.lt
  obtain ⟨A1, q1, rfl⟩ := own_shape hown1
  have hown1 := own_less0 hown1 (show B ≤ _ by simp; omega)
  have P : WrAt (w1.setCell ⟨q, 8, none⟩ (.slice A1 (n + X) q1)) q B ⟨k, b, s, d, a, lo, hi, m⟩ (n + X) (xs ++ enc X x) :=
    ⟨A1, q1, p1.set 8 _, ownsRow_setCell_below hown1 h3 _, h3, by simpa [World.setCell] using Nat.le_trans h4 b1.size⟩
  have b2 : Below q w (w1.setCell ⟨q, 8, none⟩ (.slice A1 (n + X) q1)) := (b1.mono (by omega)).setCell (by simp) _
  clear hpost hb1 hown1 h1 h2 hl c8
  go_wp2_with fail
  go_ret
  exact ⟨rfl, P, b2⟩

theorem fits_small {X : Nat} {x : Int} (h1 : 1 ≤ X) (h6 : X ≤ 6) (h0 : 0 ≤ x) (hx : x < 256) : fitsB X x = true := by
  obtain h | h | h | h | h | h : X = 1 ∨ X = 2 ∨ X = 3 ∨ X = 4 ∨ X = 5 ∨ X = 6 := by omega
  all_goals
    subst h
    exact fitsB_yes (by omega) (by omega) h0 (by simp [mostOf]; omega)
theorem was_fits {a : Int} (h : a = 0 ∨ cKey a = true) : fitsB ((6 : Nat) : Int) a = true := by
  rcases h with rfl | h
  · exact fitsB_yes (by omega) (by omega) (by omega) (by simp [mostOf])
  · exact key_fits h
theorem enc1 {k : Int} (h0 : 0 ≤ k) (h1 : k < 256) : enc 1 k = [k] := by
  simp [enc]
  omega

set_option maxRecDepth 100000 in
set_option maxHeartbeats 1000000 in
theorem eachPut_any (q B : Nat) (k b s d a lo hi m : Int) (w : World) (h : WrAt w q B ⟨k, b, s, d, a, lo, hi, m⟩ 0 []) (hm : cMay ⟨k, b, s, d, a, lo, hi, m⟩ = true) :
    Calls Tryd.prog 57 #[.pointer (some ⟨q, 0, none⟩), .func (.func 58) #[.pointer (some ⟨q, 0, none⟩)] #[]] w fun e w' => e = .returned (.tuple #[]) ∧ WrAt w' q B ⟨k, b, s, d, a, lo, hi, m⟩ (cLen k) (cEnc ⟨k, b, s, d, a, lo, hi, m⟩) ∧ Below q w w' := by
  obtain ⟨hb, hs, hk⟩ := cMay_iff.1 hm
  have hkd := cKind_bd hk
  simp only at hb hs hkd
  have HB := Lib.hid (key_fits hb)
  have HS := Lib.hid (serial_fits hs)
  have HK := Lib.hid hk
  obtain ⟨kd0, kd1⟩ := hkd
  have HKF := Lib.hid (fits_small (X := 1) (by omega) (by omega) kd0 (by omega : k < 256))
  have HE : Hid (cEnc ⟨k, b, s, d, a, lo, hi, m⟩ = ((enc 1 k ++ enc 6 b) ++ enc 4 s) ++ cTail ⟨k, b, s, d, a, lo, hi, m⟩) := by show _ = _; rw [enc1 kd0 (by omega)]; simp [cEnc]
  clear hb hs hk hm
  obtain ⟨c0, c1, c2, c3, c4, c5, c6, c7⟩ := h.cells
  obtain ⟨f0, f1, f2, f3, f4, f5, f6, f7⟩ := h.frees
  have hq := h.lt
  have hs : 0 < w.heap.size := by omega
  go_enter Tryd.func57, Tryd.ntmps57
  go_wp2_with fail
  refine (wput_any 1 k (0) q B k b s d a lo hi m ([]) _ h HKF.out (by omega)).mono ?_
  rintro e w1 ⟨rfl, P1, b1⟩
  clear h c0 c1 c2 c3 c4 c5 c6 c7 f0 f1 f2 f3 f4 f5 f6 f7 hq
  obtain ⟨c0, c1, c2, c3, c4, c5, c6, c7⟩ := P1.cells
  obtain ⟨f0, f1, f2, f3, f4, f5, f6, f7⟩ := P1.frees
  have hq := P1.lt
  have Q1 := P1.same c0 (by omega)
  have d1 : Below q w (w1.setCell ⟨q, 0, none⟩ (.int .i8 k)) := b1.setCell (Nat.le_refl q) _
  go_wp2_with fail
  refine (wput_any 6 b (0 + 1) q B k b s d a lo hi m ([] ++ enc 1 k) _ Q1 HB.out (by omega)).mono ?_
  rintro e w2 ⟨rfl, P2, b2⟩
  have b2 := Below.trans d1 b2
  clear P1 b1 Q1 d1 c0 c1 c2 c3 c4 c5 c6 c7 f0 f1 f2 f3 f4 f5 f6 f7 hq
  obtain ⟨c0, c1, c2, c3, c4, c5, c6, c7⟩ := P2.cells
  obtain ⟨f0, f1, f2, f3, f4, f5, f6, f7⟩ := P2.frees
  have hq := P2.lt
  have Q2 := P2.same c1 (by omega)
  have d2 : Below q w (w2.setCell ⟨q, 1, none⟩ (.int .i64 b)) := b2.setCell (Nat.le_refl q) _
  go_wp2_with fail
  refine (wput_any 4 s (0 + 1 + 6) q B k b s d a lo hi m ([] ++ enc 1 k ++ enc 6 b) _ Q2 HS.out (by omega)).mono ?_
  rintro e w3 ⟨rfl, P3, b3⟩
  have b3 := Below.trans d2 b3
  clear P2 b2 Q2 d2 c0 c1 c2 c3 c4 c5 c6 c7 f0 f1 f2 f3 f4 f5 f6 f7 hq
  obtain ⟨c0, c1, c2, c3, c4, c5, c6, c7⟩ := P3.cells
  obtain ⟨f0, f1, f2, f3, f4, f5, f6, f7⟩ := P3.frees
  have hq := P3.lt
  have Q3 := P3.same c2 (by omega)
  have d3 : Below q w (w3.setCell ⟨q, 2, none⟩ (.int .i64 s)) := b3.setCell (Nat.le_refl q) _
  rcases HK.out with ⟨h1, h2⟩ | ⟨h1, h2, h3, h4, h5⟩ | ⟨h1, h2, h3, h4, h5⟩ | ⟨h1, h2, h3, h4, h5, h6⟩ | ⟨h1, h2, h3, h4, h5, h6⟩
  · simp only at h1 h2
    have hhasSpanB : hasSpanB k = false := by unfold hasSpanB; rcases h1 with h1 | h1 <;> rw [h1] <;> rfl
    have hhasModeB : hasModeB k = false := by unfold hasModeB; rcases h1 with h1 | h1 <;> rw [h1] <;> rfl
    have hhasDeadB : hasDeadB k = false := by unfold hasDeadB; rcases h1 with h1 | h1 <;> rw [h1] <;> rfl
    have hhasWasB : hasWasB k = false := by unfold hasWasB; rcases h1 with h1 | h1 <;> rw [h1] <;> rfl
    have HX : Hid ([] ++ enc 1 k ++ enc 6 b ++ enc 4 s = cEnc ⟨k, b, s, d, a, lo, hi, m⟩) := by show _ = _; rw [HE.out]; unfold cTail; simp only; rw [if_neg (by omega), if_neg (by omega), if_neg (by omega), if_neg (by omega)]; simp
    have HN : Hid (cLen k = 0 + 1 + 6 + 4) := by show _ = _; unfold cLen; rw [if_neg (by omega), if_neg (by omega), if_neg (by omega), if_neg (by omega)]
    clear h1 h2
    go_wp2_with fail
    refine (hasSpan_any k b s d a lo hi m _).mono ?_
    rintro e w4 ⟨rfl, h4⟩
    rw [hhasSpanB]
    have P4 := Q3.below h4
    have d4 := Below.trans d3 (h4.mono (Nat.le_of_lt Q3.lt))
    clear h4 P3 b3 Q3 d3 c0 c1 c2 c3 c4 c5 c6 c7 f0 f1 f2 f3 f4 f5 f6 f7 hq
    obtain ⟨c0, c1, c2, c3, c4, c5, c6, c7⟩ := P4.cells
    obtain ⟨f0, f1, f2, f3, f4, f5, f6, f7⟩ := P4.frees
    have hq := P4.lt
    go_wp2_with fail
    refine (hasMode_any k b s d a lo hi m _).mono ?_
    rintro e w5 ⟨rfl, h5⟩
    rw [hhasModeB]
    have P5 := P4.below h5
    have d5 := Below.trans d4 (h5.mono (Nat.le_of_lt P4.lt))
    clear h5 P4 d4 c0 c1 c2 c3 c4 c5 c6 c7 f0 f1 f2 f3 f4 f5 f6 f7 hq
    obtain ⟨c0, c1, c2, c3, c4, c5, c6, c7⟩ := P5.cells
    obtain ⟨f0, f1, f2, f3, f4, f5, f6, f7⟩ := P5.frees
    have hq := P5.lt
    go_wp2_with fail
    refine (hasDead_any k b s d a lo hi m _).mono ?_
    rintro e w6 ⟨rfl, h6⟩
    rw [hhasDeadB]
    have P6 := P5.below h6
    have d6 := Below.trans d5 (h6.mono (Nat.le_of_lt P5.lt))
    clear h6 P5 d5 c0 c1 c2 c3 c4 c5 c6 c7 f0 f1 f2 f3 f4 f5 f6 f7 hq
    obtain ⟨c0, c1, c2, c3, c4, c5, c6, c7⟩ := P6.cells
    obtain ⟨f0, f1, f2, f3, f4, f5, f6, f7⟩ := P6.frees
    have hq := P6.lt
    go_wp2_with fail
    refine (hasWas_any k b s d a lo hi m _).mono ?_
    rintro e w7 ⟨rfl, h7⟩
    rw [hhasWasB]
    have P7 := P6.below h7
    have d7 := Below.trans d6 (h7.mono (Nat.le_of_lt P6.lt))
    clear h7 P6 d6 c0 c1 c2 c3 c4 c5 c6 c7 f0 f1 f2 f3 f4 f5 f6 f7 hq
    obtain ⟨c0, c1, c2, c3, c4, c5, c6, c7⟩ := P7.cells
    obtain ⟨f0, f1, f2, f3, f4, f5, f6, f7⟩ := P7.frees
    have hq := P7.lt
    have PF : WrAt w7 q B ⟨k, b, s, d, a, lo, hi, m⟩ (cLen k) (cEnc ⟨k, b, s, d, a, lo, hi, m⟩) := by
      have hx := P7
      rw [HX.out] at hx
      rw [HN.out]
      exact hx
    have DF := d7
    clear P7 d7
    go_wp2_with fail
    go_end0
    exact ⟨rfl, PF, DF⟩
  · simp only at h1 h2 h3 h4 h5
    obtain rfl : k = 2 := h1
    obtain ⟨h6, h7, h8⟩ := h4
    have HL := Lib.hid (fits_small (X := 1) (by omega) (by omega) h6 (by omega : lo < 256))
    have HH := Lib.hid (fits_small (X := 1) (by omega) (by omega) (by omega : 0 ≤ hi) (by omega : hi < 256))
    have m0 : 0 ≤ m := by omega
    have m1 : m ≤ 127 := by omega
    have HM := Lib.hid (fits_small (X := 1) (by omega) (by omega) m0 (by omega : m < 256))
    have HX : Hid ([] ++ enc 1 2 ++ enc 6 b ++ enc 4 s ++ enc 1 lo ++ enc 1 hi ++ enc 1 m = cEnc ⟨2, b, s, d, a, lo, hi, m⟩) := by show _ = _; rw [HE.out]; rw [show cTail ⟨2, b, s, d, a, lo, hi, m⟩ = [lo, hi, m] from rfl, enc1 (by omega : 0 ≤ lo) (by omega), enc1 (by omega : 0 ≤ hi) (by omega), enc1 (by omega : 0 ≤ m) (by omega)]; simp
    have HN : Hid (cLen 2 = 0 + 1 + 6 + 4 + 1 + 1 + 1) := by show _ = _; rfl
    clear h2 h3 h5 h6 h7 h8
    go_wp2_with fail
    refine (hasSpan_any 2 b s d a lo hi m _).mono ?_
    rintro e w4 ⟨rfl, h4⟩
    rw [show hasSpanB 2 = true from rfl]
    have P4 := Q3.below h4
    have d4 := Below.trans d3 (h4.mono (Nat.le_of_lt Q3.lt))
    clear h4 P3 b3 Q3 d3 c0 c1 c2 c3 c4 c5 c6 c7 f0 f1 f2 f3 f4 f5 f6 f7 hq
    obtain ⟨c0, c1, c2, c3, c4, c5, c6, c7⟩ := P4.cells
    obtain ⟨f0, f1, f2, f3, f4, f5, f6, f7⟩ := P4.frees
    have hq := P4.lt
    go_wp2_with fail
    refine (wput_any 1 lo (0 + 1 + 6 + 4) q B 2 b s d a lo hi m ([] ++ enc 1 2 ++ enc 6 b ++ enc 4 s) _ P4 HL.out (by omega)).mono ?_
    rintro e w5 ⟨rfl, P5, b5⟩
    have b5 := Below.trans d4 b5
    clear P4 d4 c0 c1 c2 c3 c4 c5 c6 c7 f0 f1 f2 f3 f4 f5 f6 f7 hq
    obtain ⟨c0, c1, c2, c3, c4, c5, c6, c7⟩ := P5.cells
    obtain ⟨f0, f1, f2, f3, f4, f5, f6, f7⟩ := P5.frees
    have hq := P5.lt
    have Q5 := P5.same c5 (by omega)
    have d5 : Below q w (w5.setCell ⟨q, 5, none⟩ (.int .i64 lo)) := b5.setCell (Nat.le_refl q) _
    go_wp2_with fail
    refine (wput_any 1 hi (0 + 1 + 6 + 4 + 1) q B 2 b s d a lo hi m ([] ++ enc 1 2 ++ enc 6 b ++ enc 4 s ++ enc 1 lo) _ Q5 HH.out (by omega)).mono ?_
    rintro e w6 ⟨rfl, P6, b6⟩
    have b6 := Below.trans d5 b6
    clear P5 b5 Q5 d5 c0 c1 c2 c3 c4 c5 c6 c7 f0 f1 f2 f3 f4 f5 f6 f7 hq
    obtain ⟨c0, c1, c2, c3, c4, c5, c6, c7⟩ := P6.cells
    obtain ⟨f0, f1, f2, f3, f4, f5, f6, f7⟩ := P6.frees
    have hq := P6.lt
    have Q6 := P6.same c6 (by omega)
    have d6 : Below q w (w6.setCell ⟨q, 6, none⟩ (.int .i64 hi)) := b6.setCell (Nat.le_refl q) _
    go_wp2_with fail
    refine (hasMode_any 2 b s d a lo hi m _).mono ?_
    rintro e w7 ⟨rfl, h7⟩
    rw [show hasModeB 2 = true from rfl]
    have P7 := Q6.below h7
    have d7 := Below.trans d6 (h7.mono (Nat.le_of_lt Q6.lt))
    clear h7 P6 b6 Q6 d6 c0 c1 c2 c3 c4 c5 c6 c7 f0 f1 f2 f3 f4 f5 f6 f7 hq
    obtain ⟨c0, c1, c2, c3, c4, c5, c6, c7⟩ := P7.cells
    obtain ⟨f0, f1, f2, f3, f4, f5, f6, f7⟩ := P7.frees
    have hq := P7.lt
    go_wp2_with fail
    refine (wput_any 1 m (0 + 1 + 6 + 4 + 1 + 1) q B 2 b s d a lo hi m ([] ++ enc 1 2 ++ enc 6 b ++ enc 4 s ++ enc 1 lo ++ enc 1 hi) _ P7 HM.out (by omega)).mono ?_
    rintro e w8 ⟨rfl, P8, b8⟩
    have b8 := Below.trans d7 b8
    clear P7 d7 c0 c1 c2 c3 c4 c5 c6 c7 f0 f1 f2 f3 f4 f5 f6 f7 hq
    obtain ⟨c0, c1, c2, c3, c4, c5, c6, c7⟩ := P8.cells
    obtain ⟨f0, f1, f2, f3, f4, f5, f6, f7⟩ := P8.frees
    have hq := P8.lt
    have Q8 := P8.same c7 (by omega)
    have d8 : Below q w (w8.setCell ⟨q, 7, none⟩ (.int .i8 m)) := b8.setCell (Nat.le_refl q) _
    go_wp2_with fail
    refine (hasDead_any 2 b s d a lo hi m _).mono ?_
    rintro e w9 ⟨rfl, h9⟩
    rw [show hasDeadB 2 = false from rfl]
    have P9 := Q8.below h9
    have d9 := Below.trans d8 (h9.mono (Nat.le_of_lt Q8.lt))
    clear h9 P8 b8 Q8 d8 c0 c1 c2 c3 c4 c5 c6 c7 f0 f1 f2 f3 f4 f5 f6 f7 hq
    obtain ⟨c0, c1, c2, c3, c4, c5, c6, c7⟩ := P9.cells
    obtain ⟨f0, f1, f2, f3, f4, f5, f6, f7⟩ := P9.frees
    have hq := P9.lt
    go_wp2_with fail
    refine (hasWas_any 2 b s d a lo hi m _).mono ?_
    rintro e w10 ⟨rfl, h10⟩
    rw [show hasWasB 2 = false from rfl]
    have P10 := P9.below h10
    have d10 := Below.trans d9 (h10.mono (Nat.le_of_lt P9.lt))
    clear h10 P9 d9 c0 c1 c2 c3 c4 c5 c6 c7 f0 f1 f2 f3 f4 f5 f6 f7 hq
    obtain ⟨c0, c1, c2, c3, c4, c5, c6, c7⟩ := P10.cells
    obtain ⟨f0, f1, f2, f3, f4, f5, f6, f7⟩ := P10.frees
    have hq := P10.lt
    have PF : WrAt w10 q B ⟨2, b, s, d, a, lo, hi, m⟩ (cLen 2) (cEnc ⟨2, b, s, d, a, lo, hi, m⟩) := by
      have hx := P10
      rw [HX.out] at hx
      rw [HN.out]
      exact hx
    have DF := d10
    clear P10 d10
    go_wp2_with fail
    go_end0
    exact ⟨rfl, PF, DF⟩
  · simp only at h1 h2 h3 h4 h5
    obtain rfl : k = 3 := h1
    obtain ⟨h6, h7, h8⟩ := h4
    have HL := Lib.hid (fits_small (X := 1) (by omega) (by omega) h6 (by omega : lo < 256))
    have HH := Lib.hid (fits_small (X := 1) (by omega) (by omega) (by omega : 0 ≤ hi) (by omega : hi < 256))
    have HX : Hid ([] ++ enc 1 3 ++ enc 6 b ++ enc 4 s ++ enc 1 lo ++ enc 1 hi = cEnc ⟨3, b, s, d, a, lo, hi, m⟩) := by show _ = _; rw [HE.out]; rw [show cTail ⟨3, b, s, d, a, lo, hi, m⟩ = [lo, hi] from rfl, enc1 (by omega : 0 ≤ lo) (by omega), enc1 (by omega : 0 ≤ hi) (by omega)]; simp
    have HN : Hid (cLen 3 = 0 + 1 + 6 + 4 + 1 + 1) := by show _ = _; rfl
    clear h2 h3 h5 h6 h7 h8
    go_wp2_with fail
    refine (hasSpan_any 3 b s d a lo hi m _).mono ?_
    rintro e w4 ⟨rfl, h4⟩
    rw [show hasSpanB 3 = true from rfl]
    have P4 := Q3.below h4
    have d4 := Below.trans d3 (h4.mono (Nat.le_of_lt Q3.lt))
    clear h4 P3 b3 Q3 d3 c0 c1 c2 c3 c4 c5 c6 c7 f0 f1 f2 f3 f4 f5 f6 f7 hq
    obtain ⟨c0, c1, c2, c3, c4, c5, c6, c7⟩ := P4.cells
    obtain ⟨f0, f1, f2, f3, f4, f5, f6, f7⟩ := P4.frees
    have hq := P4.lt
    go_wp2_with fail
    refine (wput_any 1 lo (0 + 1 + 6 + 4) q B 3 b s d a lo hi m ([] ++ enc 1 3 ++ enc 6 b ++ enc 4 s) _ P4 HL.out (by omega)).mono ?_
    rintro e w5 ⟨rfl, P5, b5⟩
    have b5 := Below.trans d4 b5
    clear P4 d4 c0 c1 c2 c3 c4 c5 c6 c7 f0 f1 f2 f3 f4 f5 f6 f7 hq
    obtain ⟨c0, c1, c2, c3, c4, c5, c6, c7⟩ := P5.cells
    obtain ⟨f0, f1, f2, f3, f4, f5, f6, f7⟩ := P5.frees
    have hq := P5.lt
    have Q5 := P5.same c5 (by omega)
    have d5 : Below q w (w5.setCell ⟨q, 5, none⟩ (.int .i64 lo)) := b5.setCell (Nat.le_refl q) _
    go_wp2_with fail
    refine (wput_any 1 hi (0 + 1 + 6 + 4 + 1) q B 3 b s d a lo hi m ([] ++ enc 1 3 ++ enc 6 b ++ enc 4 s ++ enc 1 lo) _ Q5 HH.out (by omega)).mono ?_
    rintro e w6 ⟨rfl, P6, b6⟩
    have b6 := Below.trans d5 b6
    clear P5 b5 Q5 d5 c0 c1 c2 c3 c4 c5 c6 c7 f0 f1 f2 f3 f4 f5 f6 f7 hq
    obtain ⟨c0, c1, c2, c3, c4, c5, c6, c7⟩ := P6.cells
    obtain ⟨f0, f1, f2, f3, f4, f5, f6, f7⟩ := P6.frees
    have hq := P6.lt
    have Q6 := P6.same c6 (by omega)
    have d6 : Below q w (w6.setCell ⟨q, 6, none⟩ (.int .i64 hi)) := b6.setCell (Nat.le_refl q) _
    go_wp2_with fail
    refine (hasMode_any 3 b s d a lo hi m _).mono ?_
    rintro e w7 ⟨rfl, h7⟩
    rw [show hasModeB 3 = false from rfl]
    have P7 := Q6.below h7
    have d7 := Below.trans d6 (h7.mono (Nat.le_of_lt Q6.lt))
    clear h7 P6 b6 Q6 d6 c0 c1 c2 c3 c4 c5 c6 c7 f0 f1 f2 f3 f4 f5 f6 f7 hq
    obtain ⟨c0, c1, c2, c3, c4, c5, c6, c7⟩ := P7.cells
    obtain ⟨f0, f1, f2, f3, f4, f5, f6, f7⟩ := P7.frees
    have hq := P7.lt
    go_wp2_with fail
    refine (hasDead_any 3 b s d a lo hi m _).mono ?_
    rintro e w8 ⟨rfl, h8⟩
    rw [show hasDeadB 3 = false from rfl]
    have P8 := P7.below h8
    have d8 := Below.trans d7 (h8.mono (Nat.le_of_lt P7.lt))
    clear h8 P7 d7 c0 c1 c2 c3 c4 c5 c6 c7 f0 f1 f2 f3 f4 f5 f6 f7 hq
    obtain ⟨c0, c1, c2, c3, c4, c5, c6, c7⟩ := P8.cells
    obtain ⟨f0, f1, f2, f3, f4, f5, f6, f7⟩ := P8.frees
    have hq := P8.lt
    go_wp2_with fail
    refine (hasWas_any 3 b s d a lo hi m _).mono ?_
    rintro e w9 ⟨rfl, h9⟩
    rw [show hasWasB 3 = false from rfl]
    have P9 := P8.below h9
    have d9 := Below.trans d8 (h9.mono (Nat.le_of_lt P8.lt))
    clear h9 P8 d8 c0 c1 c2 c3 c4 c5 c6 c7 f0 f1 f2 f3 f4 f5 f6 f7 hq
    obtain ⟨c0, c1, c2, c3, c4, c5, c6, c7⟩ := P9.cells
    obtain ⟨f0, f1, f2, f3, f4, f5, f6, f7⟩ := P9.frees
    have hq := P9.lt
    have PF : WrAt w9 q B ⟨3, b, s, d, a, lo, hi, m⟩ (cLen 3) (cEnc ⟨3, b, s, d, a, lo, hi, m⟩) := by
      have hx := P9
      rw [HX.out] at hx
      rw [HN.out]
      exact hx
    have DF := d9
    clear P9 d9
    go_wp2_with fail
    go_end0
    exact ⟨rfl, PF, DF⟩
  · simp only at h1 h2 h3 h4 h5 h6
    obtain rfl : k = 4 := h1
    have HD := Lib.hid (key_fits h2)
    have HA : Hid (fitsB ((6 : Nat) : Int) a = true) := was_fits h3
    have HX : Hid ([] ++ enc 1 4 ++ enc 6 b ++ enc 4 s ++ enc 6 d ++ enc 6 a = cEnc ⟨4, b, s, d, a, lo, hi, m⟩) := by show _ = _; rw [HE.out]; rw [show cTail ⟨4, b, s, d, a, lo, hi, m⟩ = enc 6 d ++ enc 6 a from rfl]; simp
    have HN : Hid (cLen 4 = 0 + 1 + 6 + 4 + 6 + 6) := by show _ = _; rfl
    clear h2 h3 h4 h5 h6
    go_wp2_with fail
    refine (hasSpan_any 4 b s d a lo hi m _).mono ?_
    rintro e w4 ⟨rfl, h4⟩
    rw [show hasSpanB 4 = false from rfl]
    have P4 := Q3.below h4
    have d4 := Below.trans d3 (h4.mono (Nat.le_of_lt Q3.lt))
    clear h4 P3 b3 Q3 d3 c0 c1 c2 c3 c4 c5 c6 c7 f0 f1 f2 f3 f4 f5 f6 f7 hq
    obtain ⟨c0, c1, c2, c3, c4, c5, c6, c7⟩ := P4.cells
    obtain ⟨f0, f1, f2, f3, f4, f5, f6, f7⟩ := P4.frees
    have hq := P4.lt
    go_wp2_with fail
    refine (hasMode_any 4 b s d a lo hi m _).mono ?_
    rintro e w5 ⟨rfl, h5⟩
    rw [show hasModeB 4 = false from rfl]
    have P5 := P4.below h5
    have d5 := Below.trans d4 (h5.mono (Nat.le_of_lt P4.lt))
    clear h5 P4 d4 c0 c1 c2 c3 c4 c5 c6 c7 f0 f1 f2 f3 f4 f5 f6 f7 hq
    obtain ⟨c0, c1, c2, c3, c4, c5, c6, c7⟩ := P5.cells
    obtain ⟨f0, f1, f2, f3, f4, f5, f6, f7⟩ := P5.frees
    have hq := P5.lt
    go_wp2_with fail
    refine (hasDead_any 4 b s d a lo hi m _).mono ?_
    rintro e w6 ⟨rfl, h6⟩
    rw [show hasDeadB 4 = true from rfl]
    have P6 := P5.below h6
    have d6 := Below.trans d5 (h6.mono (Nat.le_of_lt P5.lt))
    clear h6 P5 d5 c0 c1 c2 c3 c4 c5 c6 c7 f0 f1 f2 f3 f4 f5 f6 f7 hq
    obtain ⟨c0, c1, c2, c3, c4, c5, c6, c7⟩ := P6.cells
    obtain ⟨f0, f1, f2, f3, f4, f5, f6, f7⟩ := P6.frees
    have hq := P6.lt
    go_wp2_with fail
    refine (wput_any 6 d (0 + 1 + 6 + 4) q B 4 b s d a lo hi m ([] ++ enc 1 4 ++ enc 6 b ++ enc 4 s) _ P6 HD.out (by omega)).mono ?_
    rintro e w7 ⟨rfl, P7, b7⟩
    have b7 := Below.trans d6 b7
    clear P6 d6 c0 c1 c2 c3 c4 c5 c6 c7 f0 f1 f2 f3 f4 f5 f6 f7 hq
    obtain ⟨c0, c1, c2, c3, c4, c5, c6, c7⟩ := P7.cells
    obtain ⟨f0, f1, f2, f3, f4, f5, f6, f7⟩ := P7.frees
    have hq := P7.lt
    have Q7 := P7.same c3 (by omega)
    have d7 : Below q w (w7.setCell ⟨q, 3, none⟩ (.int .i64 d)) := b7.setCell (Nat.le_refl q) _
    go_wp2_with fail
    refine (hasWas_any 4 b s d a lo hi m _).mono ?_
    rintro e w8 ⟨rfl, h8⟩
    rw [show hasWasB 4 = true from rfl]
    have P8 := Q7.below h8
    have d8 := Below.trans d7 (h8.mono (Nat.le_of_lt Q7.lt))
    clear h8 P7 b7 Q7 d7 c0 c1 c2 c3 c4 c5 c6 c7 f0 f1 f2 f3 f4 f5 f6 f7 hq
    obtain ⟨c0, c1, c2, c3, c4, c5, c6, c7⟩ := P8.cells
    obtain ⟨f0, f1, f2, f3, f4, f5, f6, f7⟩ := P8.frees
    have hq := P8.lt
    go_wp2_with fail
    refine (wput_any 6 a (0 + 1 + 6 + 4 + 6) q B 4 b s d a lo hi m ([] ++ enc 1 4 ++ enc 6 b ++ enc 4 s ++ enc 6 d) _ P8 HA.out (by omega)).mono ?_
    rintro e w9 ⟨rfl, P9, b9⟩
    have b9 := Below.trans d8 b9
    clear P8 d8 c0 c1 c2 c3 c4 c5 c6 c7 f0 f1 f2 f3 f4 f5 f6 f7 hq
    obtain ⟨c0, c1, c2, c3, c4, c5, c6, c7⟩ := P9.cells
    obtain ⟨f0, f1, f2, f3, f4, f5, f6, f7⟩ := P9.frees
    have hq := P9.lt
    have Q9 := P9.same c4 (by omega)
    have d9 : Below q w (w9.setCell ⟨q, 4, none⟩ (.int .i64 a)) := b9.setCell (Nat.le_refl q) _
    have PF : WrAt (w9.setCell ⟨q, 4, none⟩ (.int .i64 a)) q B ⟨4, b, s, d, a, lo, hi, m⟩ (cLen 4) (cEnc ⟨4, b, s, d, a, lo, hi, m⟩) := by
      have hx := Q9
      rw [HX.out] at hx
      rw [HN.out]
      exact hx
    have DF := d9
    clear P9 b9 Q9 d9
    go_wp2_with fail
    go_end0
    exact ⟨rfl, PF, DF⟩
  · simp only at h1 h2 h3 h4 h5 h6
    obtain rfl : k = 5 := h1
    have HD := Lib.hid (key_fits h2)
    have HX : Hid ([] ++ enc 1 5 ++ enc 6 b ++ enc 4 s ++ enc 6 d = cEnc ⟨5, b, s, d, a, lo, hi, m⟩) := by show _ = _; rw [HE.out]; rw [show cTail ⟨5, b, s, d, a, lo, hi, m⟩ = enc 6 d from rfl]; simp
    have HN : Hid (cLen 5 = 0 + 1 + 6 + 4 + 6) := by show _ = _; rfl
    clear h2 h3 h4 h5 h6
    go_wp2_with fail
    refine (hasSpan_any 5 b s d a lo hi m _).mono ?_
    rintro e w4 ⟨rfl, h4⟩
    rw [show hasSpanB 5 = false from rfl]
    have P4 := Q3.below h4
    have d4 := Below.trans d3 (h4.mono (Nat.le_of_lt Q3.lt))
    clear h4 P3 b3 Q3 d3 c0 c1 c2 c3 c4 c5 c6 c7 f0 f1 f2 f3 f4 f5 f6 f7 hq
    obtain ⟨c0, c1, c2, c3, c4, c5, c6, c7⟩ := P4.cells
    obtain ⟨f0, f1, f2, f3, f4, f5, f6, f7⟩ := P4.frees
    have hq := P4.lt
    go_wp2_with fail
    refine (hasMode_any 5 b s d a lo hi m _).mono ?_
    rintro e w5 ⟨rfl, h5⟩
    rw [show hasModeB 5 = false from rfl]
    have P5 := P4.below h5
    have d5 := Below.trans d4 (h5.mono (Nat.le_of_lt P4.lt))
    clear h5 P4 d4 c0 c1 c2 c3 c4 c5 c6 c7 f0 f1 f2 f3 f4 f5 f6 f7 hq
    obtain ⟨c0, c1, c2, c3, c4, c5, c6, c7⟩ := P5.cells
    obtain ⟨f0, f1, f2, f3, f4, f5, f6, f7⟩ := P5.frees
    have hq := P5.lt
    go_wp2_with fail
    refine (hasDead_any 5 b s d a lo hi m _).mono ?_
    rintro e w6 ⟨rfl, h6⟩
    rw [show hasDeadB 5 = true from rfl]
    have P6 := P5.below h6
    have d6 := Below.trans d5 (h6.mono (Nat.le_of_lt P5.lt))
    clear h6 P5 d5 c0 c1 c2 c3 c4 c5 c6 c7 f0 f1 f2 f3 f4 f5 f6 f7 hq
    obtain ⟨c0, c1, c2, c3, c4, c5, c6, c7⟩ := P6.cells
    obtain ⟨f0, f1, f2, f3, f4, f5, f6, f7⟩ := P6.frees
    have hq := P6.lt
    go_wp2_with fail
    refine (wput_any 6 d (0 + 1 + 6 + 4) q B 5 b s d a lo hi m ([] ++ enc 1 5 ++ enc 6 b ++ enc 4 s) _ P6 HD.out (by omega)).mono ?_
    rintro e w7 ⟨rfl, P7, b7⟩
    have b7 := Below.trans d6 b7
    clear P6 d6 c0 c1 c2 c3 c4 c5 c6 c7 f0 f1 f2 f3 f4 f5 f6 f7 hq
    obtain ⟨c0, c1, c2, c3, c4, c5, c6, c7⟩ := P7.cells
    obtain ⟨f0, f1, f2, f3, f4, f5, f6, f7⟩ := P7.frees
    have hq := P7.lt
    have Q7 := P7.same c3 (by omega)
    have d7 : Below q w (w7.setCell ⟨q, 3, none⟩ (.int .i64 d)) := b7.setCell (Nat.le_refl q) _
    go_wp2_with fail
    refine (hasWas_any 5 b s d a lo hi m _).mono ?_
    rintro e w8 ⟨rfl, h8⟩
    rw [show hasWasB 5 = false from rfl]
    have P8 := Q7.below h8
    have d8 := Below.trans d7 (h8.mono (Nat.le_of_lt Q7.lt))
    clear h8 P7 b7 Q7 d7 c0 c1 c2 c3 c4 c5 c6 c7 f0 f1 f2 f3 f4 f5 f6 f7 hq
    obtain ⟨c0, c1, c2, c3, c4, c5, c6, c7⟩ := P8.cells
    obtain ⟨f0, f1, f2, f3, f4, f5, f6, f7⟩ := P8.frees
    have hq := P8.lt
    have PF : WrAt w8 q B ⟨5, b, s, d, a, lo, hi, m⟩ (cLen 5) (cEnc ⟨5, b, s, d, a, lo, hi, m⟩) := by
      have hx := P8
      rw [HX.out] at hx
      rw [HN.out]
      exact hx
    have DF := d8
    clear P8 d8
    go_wp2_with fail
    go_end0
    exact ⟨rfl, PF, DF⟩

end Go.Proofs.YtjdacpnfgpdjhaaDoor
