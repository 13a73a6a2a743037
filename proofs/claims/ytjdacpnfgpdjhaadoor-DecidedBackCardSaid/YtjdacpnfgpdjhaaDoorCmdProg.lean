/-
  The program's Bytes and Read, whole: by contract.
-/
import Derived.Test.YtjdacpnfgpdjhaaDoorCmdPut
import Derived.Test.YtjdacpnfgpdjhaaDoorCmdSame
import Derived.Test.YtjdacpnfgpdjhaaDoorCmdRefReadA
import Derived.Deep.RegionHeld3
namespace Go.Proofs.YtjdacpnfgpdjhaaDoor
open Go.RowKit
set_option linter.unusedVariables false
set_option linter.unusedSimpArgs false

set_option maxRecDepth 100000 in
set_option maxHeartbeats 1000000 in
theorem wbytes_any (q : Nat) (k b s d a lo hi m : Int) (w : World) (h : Blk w q #[.int .i8 k, .int .i64 b, .int .i64 s, .int .i64 d, .int .i64 a, .int .i64 lo, .int .i64 hi, .int .i8 m, .slice none 0 0] 76) :
    Calls Tryd.prog 37 #[.pointer (some ⟨q, 0, none⟩)] w fun e w' => e = .returned (.tuple #[.string (cmS ⟨k, b, s, d, a, lo, hi, m⟩), .int .i64 (cmE ⟨k, b, s, d, a, lo, hi, m⟩)]) ∧ Below q w w' := by
  have hq := h.lt
  have P0 : WrAt w q (q + 1) ⟨k, b, s, d, a, lo, hi, m⟩ 0 [] := ⟨none, 0, h, ⟨by simp, .inl ⟨rfl, rfl⟩⟩, by omega, by omega⟩
  clear h
  obtain ⟨c0, c1, c2, c3, c4, c5, c6, c7⟩ := P0.cells
  go_enter Tryd.func37, Tryd.ntmps37
  go_wp2_with fail
  refine (mayc_any k b s d a lo hi m _).mono ?_
  rintro e w1 ⟨rfl, hb1⟩
  have P1 := P0.below hb1
  have d1 : Below q w w1 := hb1.mono (Nat.le_of_lt hq)
  have hq1 := P1.lt
  clear P0 hb1 c0 c1 c2 c3 c4 c5 c6 c7 hq
  cases hm : cMay ⟨k, b, s, d, a, lo, hi, m⟩ with
  | false =>
    have HV := Lib.hid (cm_no hm)
    clear hm
    go_wp2_with fail
    go_ret2
    exact ⟨by rw [HV.out.1, HV.out.2] <;> rfl, d1⟩
  | true =>
    have HV := Lib.hid (cm_yes hm)
    have HM := Lib.hid hm
    clear hm
    go_wp2_with fail
    refine (eachPut_any q (q + 1) k b s d a lo hi m _ P1 HM.out).mono ?_
    rintro e w2 ⟨rfl, P2, b2⟩
    have d2 := d1.trans b2
    have hq2 := P2.lt
    obtain ⟨A, p, h1, h2, _, _⟩ := P2
    have c8 := h1.cell 8 _ rfl
    have hconv := conv_own (P := Tryd.prog) 50 9 5 Tryd.underlying50 Tryd.underlying5 Tryd.underlying9 h2
    rw [← HV.out.1] at hconv
    clear P1 h1 h2 b2 d1 hq1
    go_wp2_with fail
    go_ret2
    exact ⟨by rw [HV.out.2] <;> rfl, d2⟩

set_option maxRecDepth 100000 in
set_option maxHeartbeats 1000000 in
theorem cBytes_any (k b s d a lo hi m : Int) (w : World) :
    Calls Tryd.prog 20 #[.agg #[.int .i8 k, .int .i64 b, .int .i64 s, .int .i64 d, .int .i64 a, .int .i64 lo, .int .i64 hi, .int .i8 m]] w fun e w' => e = .returned (.tuple #[.string (cmS ⟨k, b, s, d, a, lo, hi, m⟩), .int .i64 (cmE ⟨k, b, s, d, a, lo, hi, m⟩)]) ∧ Below w.heap.size w w' := by
  go_enter Tryd.func20, Tryd.ntmps20
  go_wp2_with fail
  have p0 := Blk.new (w.alloc (.cells #[.int .i8 k, .int .i64 b, .int .i64 s, .int .i64 d, .int .i64 a, .int .i64 lo, .int .i64 hi, .int .i8 m] 32)) #[.int .i8 k, .int .i64 b, .int .i64 s, .int .i64 d, .int .i64 a, .int .i64 lo, .int .i64 hi, .int .i8 m, .slice none 0 0] 76
  rw [show (w.alloc (.cells #[.int .i8 k, .int .i64 b, .int .i64 s, .int .i64 d, .int .i64 a, .int .i64 lo, .int .i64 hi, .int .i8 m] 32)).heap.size = w.heap.size + 1 by simp] at p0
  have b0 : Below w.heap.size w ((w.alloc (.cells #[.int .i8 k, .int .i64 b, .int .i64 s, .int .i64 d, .int .i64 a, .int .i64 lo, .int .i64 hi, .int .i8 m] 32)).alloc (.cells #[.int .i8 k, .int .i64 b, .int .i64 s, .int .i64 d, .int .i64 a, .int .i64 lo, .int .i64 hi, .int .i8 m, .slice none 0 0] 76)) := ((Below.refl _ _).alloc (Nat.le_refl _) _).alloc (by simp) _
  refine (wbytes_any (w.heap.size + 1) k b s d a lo hi m _ p0).mono ?_
  rintro e w1 ⟨rfl, hb1⟩
  have b1 : Below w.heap.size w w1 := b0.trans (hb1.mono (by omega))
  clear p0 b0 hb1
  obtain ⟨S, hS⟩ : ∃ S, Hid (cmS ⟨k, b, s, d, a, lo, hi, m⟩ = S) := ⟨_, rfl⟩
  obtain ⟨E, hE⟩ : ∃ E, Hid (cmE ⟨k, b, s, d, a, lo, hi, m⟩ = E) := ⟨_, rfl⟩
  rw [hS.out, hE.out]
  go_wp2_with fail
  go_ret2
  exact ⟨by rw [hS.out, hE.out] <;> rfl, b1⟩

set_option maxRecDepth 100000 in
set_option maxHeartbeats 1000000 in
theorem rwhole_any (q : Nat) (t : ByteArray) (w : World) (h : RdAt w q ⟨0, 0, 0, 0, 0, 0, 0, 0⟩ t 0 false) (ht : t.size ≤ 17592186044416) :
    Calls Tryd.prog 39 #[.pointer (some ⟨q, 0, none⟩)] w fun e w' => e = .returned (.bool (cRd (bytesI t))) ∧ (∃ p bad, RdAt w' q (tkC (bytesI t)) t p bad) ∧ Below q w w' := by
  have HR := Lib.hid (tk_rd (bytesI_bytes t)).1
  have hlen : (bytesI t).length = t.size := bytesI_length t
  rw [hlen] at HR
  have hq := h.lt
  go_enter Tryd.func39, Tryd.ntmps39
  go_wp2_with fail
  refine (eachTake_any q t _ h ht).mono ?_
  rintro e w1 ⟨rfl, P1, d1⟩
  clear h hq hlen
  have hq1 := P1.lt
  obtain ⟨⟨k, b, s, d, a, lo, hi, m⟩, HC⟩ : ∃ c, Hid (tkC (bytesI t) = c) := ⟨_, rfl⟩
  obtain ⟨bad, HB⟩ : ∃ x, Hid (tkB (bytesI t) = x) := ⟨_, rfl⟩
  obtain ⟨n, HN⟩ : ∃ x, Hid (cLen (tkK (bytesI t)) = x) := ⟨_, rfl⟩
  have HP : Hid (∃ p bad, RdAt w1 q (tkC (bytesI t)) t p bad) := ⟨_, _, P1⟩
  rw [HC.out, HB.out, HN.out] at P1
  rw [HC.out, HB.out, HN.out] at HR
  obtain ⟨c0, c1, c2, c3, c4, c5, c6, c7⟩ := P1.cells
  obtain ⟨c8, c9, c10⟩ := P1.more
  clear P1
  cases bad with
  | true =>
    have HV : Hid (cRd (bytesI t) = false) := by show _ = _; rw [← HR.out]; rfl
    go_upto_region 2 with fail
    go_quiet (fail)
    go_wp2_with fail
    go_ret
    exact ⟨by rw [HV.out] <;> rfl, HP.out, d1.trans (drewN_below _ _ _)⟩
  | false =>
    by_cases hn : n = t.size
    · have HV : Hid (cRd (bytesI t) = cMay ⟨k, b, s, d, a, lo, hi, m⟩) := by show _ = _; rw [← HR.out]; simp [hn]
      have g1 : ((n : Int) == (t.size : Int)) = true := by rw [hn]; simp
      have hS : ∀ W, Below w1.heap.size w1 W → (W.cell? ⟨q, 0, none⟩ = some (.int .i8 k) ∧ W.cell? ⟨q, 1, none⟩ = some (.int .i64 b) ∧ W.cell? ⟨q, 2, none⟩ = some (.int .i64 s) ∧ W.cell? ⟨q, 3, none⟩ = some (.int .i64 d) ∧ W.cell? ⟨q, 4, none⟩ = some (.int .i64 a) ∧ W.cell? ⟨q, 5, none⟩ = some (.int .i64 lo) ∧ W.cell? ⟨q, 6, none⟩ = some (.int .i64 hi) ∧ W.cell? ⟨q, 7, none⟩ = some (.int .i8 m) ∧ W.cell? ⟨q, 8, none⟩ = some (.string t) ∧ W.cell? ⟨q, 9, none⟩ = some (.int .i64 n) ∧ W.cell? ⟨q, 10, none⟩ = some (.bool false)) ∧ Below w1.heap.size w1 W := fun W h =>
        ⟨⟨(h.cell (p := ⟨q, 0, none⟩) hq1).trans c0, (h.cell (p := ⟨q, 1, none⟩) hq1).trans c1, (h.cell (p := ⟨q, 2, none⟩) hq1).trans c2, (h.cell (p := ⟨q, 3, none⟩) hq1).trans c3, (h.cell (p := ⟨q, 4, none⟩) hq1).trans c4, (h.cell (p := ⟨q, 5, none⟩) hq1).trans c5, (h.cell (p := ⟨q, 6, none⟩) hq1).trans c6, (h.cell (p := ⟨q, 7, none⟩) hq1).trans c7, (h.cell (p := ⟨q, 8, none⟩) hq1).trans c8, (h.cell (p := ⟨q, 9, none⟩) hq1).trans c9, (h.cell (p := ⟨q, 10, none⟩) hq1).trans c10⟩, h⟩
      obtain ⟨r, hr⟩ : ∃ r, Hid (cMay ⟨k, b, s, d, a, lo, hi, m⟩ = r) := ⟨_, rfl⟩
      have hMay : ∀ W, (W.cell? ⟨q, 0, none⟩ = some (.int .i8 k) ∧ W.cell? ⟨q, 1, none⟩ = some (.int .i64 b) ∧ W.cell? ⟨q, 2, none⟩ = some (.int .i64 s) ∧ W.cell? ⟨q, 3, none⟩ = some (.int .i64 d) ∧ W.cell? ⟨q, 4, none⟩ = some (.int .i64 a) ∧ W.cell? ⟨q, 5, none⟩ = some (.int .i64 lo) ∧ W.cell? ⟨q, 6, none⟩ = some (.int .i64 hi) ∧ W.cell? ⟨q, 7, none⟩ = some (.int .i8 m) ∧ W.cell? ⟨q, 8, none⟩ = some (.string t) ∧ W.cell? ⟨q, 9, none⟩ = some (.int .i64 n) ∧ W.cell? ⟨q, 10, none⟩ = some (.bool false)) ∧ Below w1.heap.size w1 W → Calls Tryd.prog 56 #[.agg #[.int .i8 k, .int .i64 b, .int .i64 s, .int .i64 d, .int .i64 a, .int .i64 lo, .int .i64 hi, .int .i8 m]] W fun e W => e = .returned (.bool r) ∧ (W.cell? ⟨q, 0, none⟩ = some (.int .i8 k) ∧ W.cell? ⟨q, 1, none⟩ = some (.int .i64 b) ∧ W.cell? ⟨q, 2, none⟩ = some (.int .i64 s) ∧ W.cell? ⟨q, 3, none⟩ = some (.int .i64 d) ∧ W.cell? ⟨q, 4, none⟩ = some (.int .i64 a) ∧ W.cell? ⟨q, 5, none⟩ = some (.int .i64 lo) ∧ W.cell? ⟨q, 6, none⟩ = some (.int .i64 hi) ∧ W.cell? ⟨q, 7, none⟩ = some (.int .i8 m) ∧ W.cell? ⟨q, 8, none⟩ = some (.string t) ∧ W.cell? ⟨q, 9, none⟩ = some (.int .i64 n) ∧ W.cell? ⟨q, 10, none⟩ = some (.bool false)) ∧ Below w1.heap.size w1 W :=
        fun W h => (mayc_any k b s d a lo hi m W).mono (by rintro e w' ⟨rfl, hb⟩; exact ⟨by rw [hr.out], hS _ (h.2.trans (hb.mono h.2.size))⟩)
      have hD := hS _ (Below.refl w1.heap.size w1).drew
      clear hS hn
      go_upto_region 2 with fail
      clear c0 c1 c2 c3 c4 c5 c6 c7 c8 c9 c10
      go_region_held3 (fun W => (W.cell? ⟨q, 0, none⟩ = some (.int .i8 k) ∧ W.cell? ⟨q, 1, none⟩ = some (.int .i64 b) ∧ W.cell? ⟨q, 2, none⟩ = some (.int .i64 s) ∧ W.cell? ⟨q, 3, none⟩ = some (.int .i64 d) ∧ W.cell? ⟨q, 4, none⟩ = some (.int .i64 a) ∧ W.cell? ⟨q, 5, none⟩ = some (.int .i64 lo) ∧ W.cell? ⟨q, 6, none⟩ = some (.int .i64 hi) ∧ W.cell? ⟨q, 7, none⟩ = some (.int .i8 m) ∧ W.cell? ⟨q, 8, none⟩ = some (.string t) ∧ W.cell? ⟨q, 9, none⟩ = some (.int .i64 n) ∧ W.cell? ⟨q, 10, none⟩ = some (.bool false)) ∧ Below w1.heap.size w1 W) (first | assumption)
        ((go_at_call 56; (with_reducible refine (hMay _ ?_).mono ?_); assumption; rintro e W1 ⟨rfl, hN⟩))
      have hb := hN.2
      clear hMay hD hN
      go_wp2_with fail
      go_ret
      refine ⟨by rw [HV.out, hr.out] <;> rfl, ?_, d1.trans (hb.mono (Nat.le_of_lt hq1))⟩
      obtain ⟨p, bad, h⟩ := HP.out
      exact ⟨p, bad, h.below hb⟩
    · have HV : Hid (cRd (bytesI t) = false) := by show _ = _; rw [← HR.out]; simp [hn]
      have g1 : ((n : Int) == (t.size : Int)) = false := beq_no (by omega)
      clear hn
      go_upto_region 2 with fail
      go_quiet (fail)
      go_wp2_with fail
      go_ret
      exact ⟨by rw [HV.out] <;> rfl, HP.out, d1.trans (drewN_below _ _ _)⟩

set_option maxRecDepth 100000 in
set_option maxHeartbeats 1000000 in
theorem cRead_any (s : ByteArray) (w : World) (hs : s.size ≤ 17592186044416) :
    Calls Tryd.prog 23 #[.string s] w fun e w' => e = .returned (.tuple #[.agg (cmdA (crC s)), .int .i64 (crE s)]) ∧ Below w.heap.size w w' := by
  have q0 := Blk.new w #[.int .i8 0, .int .i64 0, .int .i64 0, .int .i64 0, .int .i64 0, .int .i64 0, .int .i64 0, .int .i8 0] 32
  have p0 := Blk.new (w.alloc (.cells #[.int .i8 0, .int .i64 0, .int .i64 0, .int .i64 0, .int .i64 0, .int .i64 0, .int .i64 0, .int .i8 0] 32)) #[.int .i8 0, .int .i64 0, .int .i64 0, .int .i64 0, .int .i64 0, .int .i64 0, .int .i64 0, .int .i8 0, .string s, .int .i64 (((0 : Nat) : Nat) : Int), .bool false] 79
  rw [show (w.alloc (.cells #[.int .i8 0, .int .i64 0, .int .i64 0, .int .i64 0, .int .i64 0, .int .i64 0, .int .i64 0, .int .i8 0] 32)).heap.size = w.heap.size + 1 by simp] at p0
  have hP : RdAt ((w.alloc (.cells #[.int .i8 0, .int .i64 0, .int .i64 0, .int .i64 0, .int .i64 0, .int .i64 0, .int .i64 0, .int .i8 0] 32)).alloc (.cells #[.int .i8 0, .int .i64 0, .int .i64 0, .int .i64 0, .int .i64 0, .int .i64 0, .int .i64 0, .int .i8 0, .string s, .int .i64 (((0 : Nat) : Nat) : Int), .bool false] 79)) (w.heap.size + 1) ⟨0, 0, 0, 0, 0, 0, 0, 0⟩ s 0 false := p0
  have b0 : Below w.heap.size w ((w.alloc (.cells #[.int .i8 0, .int .i64 0, .int .i64 0, .int .i64 0, .int .i64 0, .int .i64 0, .int .i64 0, .int .i8 0] 32)).alloc (.cells #[.int .i8 0, .int .i64 0, .int .i64 0, .int .i64 0, .int .i64 0, .int .i64 0, .int .i64 0, .int .i8 0, .string s, .int .i64 (((0 : Nat) : Nat) : Int), .bool false] 79)) := ((Below.refl _ _).alloc (Nat.le_refl _) _).alloc (by simp) _
  have q1 := q0.alloc (.cells #[.int .i8 0, .int .i64 0, .int .i64 0, .int .i64 0, .int .i64 0, .int .i64 0, .int .i64 0, .int .i8 0, .string s, .int .i64 (((0 : Nat) : Nat) : Int), .bool false] 79)
  clear q0 p0
  go_enter Tryd.func23, Tryd.ntmps23
  go_wp2_with fail
  refine (rwhole_any (w.heap.size + 1) s _ hP hs).mono ?_
  rintro e w1 ⟨rfl, ⟨p, bad, P1⟩, hb1⟩
  have q2 := q1.below hb1 (by omega)
  have b1 : Below w.heap.size w w1 := b0.trans (hb1.mono (by omega))
  have hth := q2.there
  clear hP b0 q1 hb1
  have HT := Lib.hid (tk_rd (bytesI_bytes s)).2
  cases hr : cRd (bytesI s) with
  | false =>
    have HV := Lib.hid (cr_no hr)
    clear hr P1 HT
    have bz := setCells_below [.int .i8 0, .int .i64 0, .int .i64 0, .int .i64 0, .int .i64 0, .int .i64 0, .int .i64 0, .int .i8 0] 0 b1 (Nat.le_refl _)
    go_wp2_with (refine wpList_store_mid (op := ⟨none, .store 32 _ _, _, _, _, none⟩) rfl 32 _ _ (by rfl) w.heap.size 0 #[.int .i8 0, .int .i64 0, .int .i64 0, .int .i64 0, .int .i64 0, .int .i64 0, .int .i64 0, .int .i8 0] (by rfl) (by rfl) (by assumption) (by kernel_rfl) (by kernel_rfl) ?_)
    refine bodyPost_ret (results_pair (cs := [.int .i8 0, .int .i64 0, .int .i64 0, .int .i64 0, .int .i64 0, .int .i64 0, .int .i64 0, .int .i8 0]) Tryd.results23 (by rfl) (by rfl) (World.rangeAt_setCells_same _ _ _ _ hth) Tryd.underlying32 rfl (by kernel_rfl)) rfl ?_
    exact ⟨by rw [HV.out.1, HV.out.2] <;> rfl, bz⟩
  | true =>
    have HV := Lib.hid (cr_yes hr)
    rw [HT.out hr, ← HV.out.1] at P1
    obtain ⟨⟨k, b, sr, d, a, lo, hi, m⟩, HC⟩ : ∃ c, Hid (crC s = c) := ⟨_, rfl⟩
    rw [HC.out] at P1
    obtain ⟨c0, c1, c2, c3, c4, c5, c6, c7⟩ := P1.cells
    have hl1 := P1.lt
    clear hr P1 HT
    have bz := setCells_below [.int .i8 k, .int .i64 b, .int .i64 sr, .int .i64 d, .int .i64 a, .int .i64 lo, .int .i64 hi, .int .i8 m] 0 b1 (Nat.le_refl _)
    go_wp2_with (refine wpList_store_mid (op := ⟨none, .store 32 _ _, _, _, _, none⟩) rfl 32 _ _ (by rfl) w.heap.size 0 #[.int .i8 k, .int .i64 b, .int .i64 sr, .int .i64 d, .int .i64 a, .int .i64 lo, .int .i64 hi, .int .i8 m] (by rfl) (by rfl) (by assumption) (by kernel_rfl) (by kernel_rfl) ?_)
    refine bodyPost_ret (results_pair (cs := [.int .i8 k, .int .i64 b, .int .i64 sr, .int .i64 d, .int .i64 a, .int .i64 lo, .int .i64 hi, .int .i8 m]) Tryd.results23 (by rfl) (by rfl) (World.rangeAt_setCells_same _ _ _ _ hth) Tryd.underlying32 rfl (by kernel_rfl)) rfl ?_
    exact ⟨by rw [HC.out, HV.out.2] <;> rfl, bz⟩

end Go.Proofs.YtjdacpnfgpdjhaaDoor
