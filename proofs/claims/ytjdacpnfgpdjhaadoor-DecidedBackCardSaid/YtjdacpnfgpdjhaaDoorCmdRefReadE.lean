/-
  The document's commands: bytes read as a command, a purge: by contract.
-/
import Derived.Test.YtjdacpnfgpdjhaaDoorCmdRefReadA
namespace Go.Proofs.YtjdacpnfgpdjhaaDoor
open Go.RowKit
set_option linter.unusedVariables false
set_option linter.unusedSimpArgs false

set_option maxRecDepth 100000 in
set_option maxHeartbeats 4000000 in
theorem refRead_5 (s : ByteArray) (w : World) (hs : s.size ≤ 17592186044416) (g11 : 11 ≤ s.size) (hf : fitsB ((6 : Nat) : Int) (dec (((bytesI s).drop 1).take 6)) = true) (hk : cKindOf (bytesI s) = 5) :
    Calls Tryd.prog 25 #[.string s] w fun e w' => e = .returned (.tuple #[.agg (cmdA (crC s)), .int .i64 (crE s)]) ∧ Below w.heap.size w w' := by
  have p0 := Blk.new w #[.int .i8 0, .int .i64 0, .int .i64 0, .int .i64 0, .int .i64 0, .int .i64 0, .int .i64 0, .int .i8 0] 32
  have b0 : Below w.heap.size w (w.alloc (.cells #[.int .i8 0, .int .i64 0, .int .i64 0, .int .i64 0, .int .i64 0, .int .i64 0, .int .i64 0, .int .i8 0] 32)) := one_below _ _
  have HSZ := Lib.hid hs
  have HH := Lib.hid hk
  have hM : s.size ≤ maxLen := by unfold maxLen; omega
  have HM := Lib.hid hM
  clear hM hk
  go_enter Tryd.func25, Tryd.ntmps25
  go_wp2_with fail
  refine (refGet_any s 1 6 _ HM.out (by omega) (by omega)).mono ?_
  rintro e w1 ⟨rfl, rfl⟩
  have H4 := Lib.hid (four_fits (isBytes_take (isBytes_drop (bytesI_bytes s) 7) 4) (by rw [List.length_take, List.length_drop, bytesI_length]; omega))
  have HG4 : Hid (getOut (bytesI s) 7 4 = .returned (.tuple #[.int .i64 (dec (((bytesI s).drop 7).take 4)), .int .i64 0])) := getOut_yes (mayB_yes (by omega) (by omega)) (by omega) (by rw [bytesI_length]; omega) H4.out
  have HG : Hid (getOut (bytesI s) 1 6 = .returned (.tuple #[.int .i64 (dec (((bytesI s).drop 1).take 6)), .int .i64 0])) := getOut_yes (mayB_yes (by omega) (by omega)) (by omega) (by rw [bytesI_length]; omega) hf
  rw [HG.out]
  clear hf
  obtain ⟨BY, hBY⟩ : ∃ x, Hid (dec (((bytesI s).drop 1).take 6) = x) := ⟨_, rfl⟩
  rw [hBY.out]
  go_wp2_with fail
  refine (refGet_any s 7 4 _ HM.out (by omega) (by omega)).mono ?_
  rintro e w1 ⟨rfl, rfl⟩
  rw [HG4.out]
  obtain ⟨SER, hSER⟩ : ∃ x, Hid (dec (((bytesI s).drop 7).take 4) = x) := ⟨_, rfl⟩
  rw [hSER.out]
  clear HG HG4 H4
  have hsz0 : 0 < s.size := by omega
  have hk0s : cKindOf (bytesI s) = (s[0].toNat : Int) := byte_at s 0 hsz0
  have hk127' : (s[0].toNat : Int) ≤ 127 := by rw [← hk0s]; have := HH.out; omega
  have hk0 : (0 : Int) ≤ (s[0].toNat : Int) := by omega
  clear hk0s
  go_upto_region 9 with fail
  obtain ⟨kb, hkb⟩ : ∃ x : Nat, s[0].toNat = x := ⟨_, rfl⟩
  have HK : Hid (cKindOf (bytesI s) = (kb : Int)) := by show _ = _; rw [← hkb]; exact byte_at s 0 hsz0
  rw [hkb] at hk127' hk0 ⊢
  clear hkb
  obtain ⟨W1, hW1⟩ : ∃ W, W = (w.alloc (.cells #[.int .i8 0, .int .i64 0, .int .i64 0, .int .i64 0, .int .i64 0, .int .i64 0, .int .i64 0, .int .i8 0] 32)).alloc (.cells #[.int .i8 (kb : Int), .int .i64 BY, .int .i64 SER, .int .i64 0, .int .i64 0, .int .i64 0, .int .i64 0, .int .i8 0] 32) := ⟨_, rfl⟩
  have b1 : Below w.heap.size w W1 := hW1 ▸ b0.alloc b0.size _
  have p1 : Blk W1 w.heap.size #[.int .i8 0, .int .i64 0, .int .i64 0, .int .i64 0, .int .i64 0, .int .i64 0, .int .i64 0, .int .i8 0] 32 := hW1 ▸ p0.alloc _
  have q1 : Blk W1 (w.heap.size + 1) #[.int .i8 (kb : Int), .int .i64 BY, .int .i64 SER, .int .i64 0, .int .i64 0, .int .i64 0, .int .i64 0, .int .i8 0] 32 := by
    have h := Blk.new (w.alloc (.cells #[.int .i8 0, .int .i64 0, .int .i64 0, .int .i64 0, .int .i64 0, .int .i64 0, .int .i64 0, .int .i8 0] 32)) #[.int .i8 (kb : Int), .int .i64 BY, .int .i64 SER, .int .i64 0, .int .i64 0, .int .i64 0, .int .i64 0, .int .i8 0] 32
    rw [hW1]
    simpa using h
  rw [← hW1]
  clear hW1 p0 b0
  have p0 := p1
  have q0 := q1
  have b0 := b1
  have q1lt := q1.lt
  clear p1 q1 b1
  obtain ⟨c0, c1, c2, c3, c4, c5, c6, c7⟩ := cmd_cells q0
  have f3 := q0.free 3
  have f4 := q0.free 4
  have f5 := q0.free 5
  have f6 := q0.free 6
  have f7 := q0.free 7
  have lq := q0.lt
  have hR2 : (s.extract 11 s.size).size = s.size - 11 := by simp
  have HR2 := Lib.hid hR2
  clear hR2
  have e2 : ¬ (kb : Int) = 2 := by rw [← HK.out]; have := HH.out; omega
  have e3 : ¬ (kb : Int) = 3 := by rw [← HK.out]; have := HH.out; omega
  have e4 : ¬ (kb : Int) = 4 := by rw [← HK.out]; have := HH.out; omega
  have e5 : (kb : Int) = 5 := by rw [← HK.out]; have := HH.out; omega
  have HE := Lib.hid e5
  have k2 : ((kb : Int) == 2) = false := beq_no e2
  have k3 : ((kb : Int) == 3) = false := beq_no e3
  have k4 : ((kb : Int) == 4) = false := beq_no e4
  have k5 : ((kb : Int) == 5) = true := beq_yes e5
  clear e2 e3 e4 e5
  go_wp2_with fail
  refine (refRow_any (s.extract 11 s.size) 6 _ (by rw [HR2.out]; have := HSZ.out; omega)).mono ?_
  intro e w3 hpost
  obtain ⟨hb3, hpost⟩ := hpost
  have p3 := p0.below hb3 p0.lt
  have q3 := q0.below hb3 q0.lt
  have b3 := below_then b0 hb3
  clear p0 q0 b0 hb3 c0 c1 c2 c3 c4 c5 c6 c7 f3 f4 f5 f6 f7 lq
  have p0 := p3
  have q0 := q3
  have b0 := b3
  clear p3 q3 b3
  rw [bytesI_extract] at hpost
  rcases hpost with ⟨h1, rfl⟩ | ⟨h0, h1, rfl⟩ | ⟨h0, h1, v, rfl, hown⟩
  · exact absurd h1 (by rw [mayB_yes (by omega) (by omega)]; simp)
  · have hR : cRd (bytesI s) = false := by
      rcases hr : cRd (bytesI s) with _ | _
      · rfl
      · have h2 := rest_row (bytesI_bytes s) hr (by rw [HK.out]; have := HE.out; omega)
        rw [h2] at h1
        cases h1
    have HR := Lib.hid hR
    clear hR h0 h1
    have HV := Lib.hid (cr_no HR.out)
    have hth := p0.there
    have bz := setCells_below [.int .i8 0, .int .i64 0, .int .i64 0, .int .i64 0, .int .i64 0, .int .i64 0, .int .i64 0, .int .i8 0] 0 b0 (Nat.le_refl _)
    go_wp2_with (refine wpList_store_mid (op := ⟨none, .store 32 _ _, _, _, _, none⟩) rfl 32 _ _ (by rfl) w.heap.size 0 #[.int .i8 0, .int .i64 0, .int .i64 0, .int .i64 0, .int .i64 0, .int .i64 0, .int .i64 0, .int .i8 0] (by rfl) (by rfl) (by assumption) (by kernel_rfl) (by kernel_rfl) ?_)
    refine bodyPost_ret (results_pair (cs := [.int .i8 0, .int .i64 0, .int .i64 0, .int .i64 0, .int .i64 0, .int .i64 0, .int .i64 0, .int .i8 0]) Tryd.results25 (by rfl) (by rfl) (World.rangeAt_setCells_same _ _ _ _ hth) Tryd.underlying32 rfl (by kernel_rfl)) rfl ?_
    exact ⟨by rw [HV.out.1, HV.out.2] <;> rfl, bz⟩
  · have hlen : ((bytesI s).drop 11).length = s.size - 11 := by rw [List.length_drop, bytesI_length]
    have hmod : (s.size - 11) % 6 = 0 := by
      have h2 := h1
      unfold rowB at h2
      rw [Bool.and_eq_true, decide_eq_true_eq, hlen] at h2
      exact h2.1
    have hsix : ((6 : Int)).toNat = 6 := rfl
    rw [hlen, hsix] at hown
    obtain ⟨cnt, hcnt⟩ : ∃ n, (s.size - 11) / 6 = n := ⟨_, rfl⟩
    have hsz6 : s.size = 11 + 6 * cnt := by omega
    rw [hcnt] at hown
    have HSC := Lib.hid hsz6
    clear h0 h1 hlen hmod hsix hcnt hsz6
    obtain ⟨c0, c1, c2, c3, c4, c5, c6, c7⟩ := cmd_cells q0
    have f3 := q0.free 3
    have f4 := q0.free 4
    have lq := q0.lt
    by_cases hc0 : cnt = 0
    · subst hc0
      have hR : cRd (bytesI s) = false := rd_len (by rw [bytesI_length, HK.out, HE.out]; show s.size ≠ 17; have := HSC.out; omega)
      have HR := Lib.hid hR
      obtain ⟨A, q, rfl⟩ := own_shape hown
      clear hR hown
      have HV := Lib.hid (cr_no HR.out)
      have hth := p0.there
      have bz := setCells_below [.int .i8 0, .int .i64 0, .int .i64 0, .int .i64 0, .int .i64 0, .int .i64 0, .int .i64 0, .int .i8 0] 0 b0 (Nat.le_refl _)
      go_wp2_with (refine wpList_store_mid (op := ⟨none, .store 32 _ _, _, _, _, none⟩) rfl 32 _ _ (by rfl) w.heap.size 0 #[.int .i8 0, .int .i64 0, .int .i64 0, .int .i64 0, .int .i64 0, .int .i64 0, .int .i64 0, .int .i8 0] (by rfl) (by rfl) (by assumption) (by kernel_rfl) (by kernel_rfl) ?_)
      refine bodyPost_ret (results_pair (cs := [.int .i8 0, .int .i64 0, .int .i64 0, .int .i64 0, .int .i64 0, .int .i64 0, .int .i64 0, .int .i8 0]) Tryd.results25 (by rfl) (by rfl) (World.rangeAt_setCells_same _ _ _ _ hth) Tryd.underlying32 rfl (by kernel_rfl)) rfl ?_
      exact ⟨by rw [HV.out.1, HV.out.2] <;> rfl, bz⟩
    · obtain ⟨g, q, rfl⟩ : ∃ g q, v = .slice (some ⟨g, 0, none⟩) cnt q := by
        rcases hown.2 with ⟨_, h0⟩ | ⟨g, cap, cur, hv, _⟩
        · exact absurd h0 hc0
        · exact ⟨g, cap, hv⟩
      have hg : g < w3.heap.size := by
        rcases hown.2 with ⟨hv, _⟩ | ⟨g', cap, cur, hv, _, hh, _⟩
        · cases hv
        · injection hv with e1
          injection e1 with e1
          injection e1 with e1
          subst e1
          exact lt_of_block hh
      have hgw : w.heap.size + 1 < g := by
        rcases hown.2 with ⟨hv, _⟩ | ⟨g', cap, cur, hv, hbb, _⟩
        · cases hv
        · injection hv with e1
          injection e1 with e1
          injection e1 with e1
          subst e1
          have := q1lt
          omega
      have hcell := Lies.cells0 (Lies.of_own hown)
      have d0 : w3.cell? ⟨g, 0, none⟩ = some (.int .i64 (dec (((bytesI s).drop 11).take 6))) := by
        have h := hcell 0 (.int .i64 (dec (((bytesI s).drop 11).take 6))) (by
          obtain ⟨m, rfl⟩ : ∃ m, cnt = m + 1 := ⟨cnt - 1, by omega⟩
          rw [List.getElem?_map, numK_at (by omega)]
          simp)
        simpa [Addr.add] using h
      obtain ⟨DE, hDE⟩ : ∃ x, Hid (dec (((bytesI s).drop 11).take 6) = x) := ⟨_, rfl⟩
      rw [hDE.out] at d0
      have hc1 : (1 : Int) ≤ (cnt : Int) := by omega
      have hci : (0 : Int) < (cnt : Int) := by omega
      have HD : Hid (cRd (bytesI s) = true → cCand (bytesI s) = ⟨(kb : Int), BY, SER, DE, 0, 0, 0, 0⟩) := fun hr => by
        rw [HE.out]
        exact cand_5 (HK.out.trans HE.out) hBY.out hSER.out hDE.out
      clear hcell hown hc0
      go_wp2_with fail
      obtain ⟨W4, hW4⟩ : ∃ W, W = (w3.setCell ⟨w.heap.size + 1, 3, none⟩ (.int .i64 DE)) := ⟨_, rfl⟩
      have p2 : Blk W4 w.heap.size #[.int .i8 0, .int .i64 0, .int .i64 0, .int .i64 0, .int .i64 0, .int .i64 0, .int .i64 0, .int .i8 0] 32 := hW4 ▸ (p0.other (by omega) 3 _)
      have q2 : Blk W4 (w.heap.size + 1) #[.int .i8 (kb : Int), .int .i64 BY, .int .i64 SER, .int .i64 DE, .int .i64 0, .int .i64 0, .int .i64 0, .int .i8 0] 32 := hW4 ▸ (q0.set 3 _)
      have b2 : Below w.heap.size w W4 := hW4 ▸ (b0.setCell (Nat.le_succ _) _)
      rw [← hW4]
      clear hW4 p0 q0 b0 c0 c1 c2 c3 c4 c5 c6 c7 f3 f4 lq
      have p0 := p2
      have q0 := q2
      have b0 := b2
      clear p2 q2 b2
      refine (refBytes_any ((kb : Int)) (BY) (SER) (DE) (0) (0) (0) (0) _).mono ?_
      rintro e w9 ⟨rfl, hb9⟩
      have p9 := p0.below hb9 p0.lt
      have q9 := q0.below hb9 q0.lt
      have b9 := below_then b0 hb9
      obtain ⟨g0, g1, g2, g3, g4, g5, g6, g7⟩ := cmd_cells q9
      have lq9 := q9.lt
      clear p0 q0 b0 hb9
      cases hm : cMay ⟨(kb : Int), BY, SER, DE, 0, 0, 0, 0⟩ with
      | false =>
        have HN := Lib.hid (cr_off HD.out (.inl hm))
        have HC := Lib.hid (cm_no hm)
        rw [HC.out.1, HC.out.2]
        clear hm
        have HV := Lib.hid (cr_no HN.out)
        have hth := p9.there
        have bz := setCells_below [.int .i8 0, .int .i64 0, .int .i64 0, .int .i64 0, .int .i64 0, .int .i64 0, .int .i64 0, .int .i8 0] 0 b9 (Nat.le_refl _)
        go_wp2_with (refine wpList_store_mid (op := ⟨none, .store 32 _ _, _, _, _, none⟩) rfl 32 _ _ (by rfl) w.heap.size 0 #[.int .i8 0, .int .i64 0, .int .i64 0, .int .i64 0, .int .i64 0, .int .i64 0, .int .i64 0, .int .i8 0] (by rfl) (by rfl) (by assumption) (by kernel_rfl) (by kernel_rfl) ?_)
        refine bodyPost_ret (results_pair (cs := [.int .i8 0, .int .i64 0, .int .i64 0, .int .i64 0, .int .i64 0, .int .i64 0, .int .i64 0, .int .i8 0]) Tryd.results25 (by rfl) (by rfl) (World.rangeAt_setCells_same _ _ _ _ hth) Tryd.underlying32 rfl (by kernel_rfl)) rfl ?_
        exact ⟨by rw [HV.out.1, HV.out.2] <;> rfl, bz⟩
      | true =>
        have HC := Lib.hid (cm_yes hm)
        have HM2 := Lib.hid hm
        rw [HC.out.2]
        obtain ⟨SS, hS⟩ : ∃ S, Hid (cmS ⟨(kb : Int), BY, SER, DE, 0, 0, 0, 0⟩ = S) := ⟨_, rfl⟩
        rw [hS.out]
        clear hm
        by_cases he : SS = s
        · have HV := Lib.hid (cr_of HM2.out (hS.out.trans he))
          have hss : (SS.toList == s.toList) = true := by rw [he]; exact str_same _
          clear he
          have hth := p9.there
          have bz := setCells_below [.int .i8 (kb : Int), .int .i64 BY, .int .i64 SER, .int .i64 DE, .int .i64 0, .int .i64 0, .int .i64 0, .int .i8 0] 0 b9 (Nat.le_refl _)
          go_wp2_with (refine wpList_store_mid (op := ⟨none, .store 32 _ _, _, _, _, none⟩) rfl 32 _ _ (by rfl) w.heap.size 0 #[.int .i8 (kb : Int), .int .i64 BY, .int .i64 SER, .int .i64 DE, .int .i64 0, .int .i64 0, .int .i64 0, .int .i8 0] (by rfl) (by rfl) (by assumption) (by kernel_rfl) (by kernel_rfl) ?_)
          refine bodyPost_ret (results_pair (cs := [.int .i8 (kb : Int), .int .i64 BY, .int .i64 SER, .int .i64 DE, .int .i64 0, .int .i64 0, .int .i64 0, .int .i8 0]) Tryd.results25 (by rfl) (by rfl) (World.rangeAt_setCells_same _ _ _ _ hth) Tryd.underlying32 rfl (by kernel_rfl)) rfl ?_
          exact ⟨by rw [HV.out.2.1, HV.out.2.2] <;> rfl, bz⟩
        · have HN := Lib.hid (cr_off HD.out (.inr (by rw [hS.out]; exact he)))
          have hss : (SS.toList == s.toList) = false := str_diff he
          clear he
          have HV := Lib.hid (cr_no HN.out)
          have hth := p9.there
          have bz := setCells_below [.int .i8 0, .int .i64 0, .int .i64 0, .int .i64 0, .int .i64 0, .int .i64 0, .int .i64 0, .int .i8 0] 0 b9 (Nat.le_refl _)
          go_wp2_with (refine wpList_store_mid (op := ⟨none, .store 32 _ _, _, _, _, none⟩) rfl 32 _ _ (by rfl) w.heap.size 0 #[.int .i8 0, .int .i64 0, .int .i64 0, .int .i64 0, .int .i64 0, .int .i64 0, .int .i64 0, .int .i8 0] (by rfl) (by rfl) (by assumption) (by kernel_rfl) (by kernel_rfl) ?_)
          refine bodyPost_ret (results_pair (cs := [.int .i8 0, .int .i64 0, .int .i64 0, .int .i64 0, .int .i64 0, .int .i64 0, .int .i64 0, .int .i8 0]) Tryd.results25 (by rfl) (by rfl) (World.rangeAt_setCells_same _ _ _ _ hth) Tryd.underlying32 rfl (by kernel_rfl)) rfl ?_
          exact ⟨by rw [HV.out.1, HV.out.2] <;> rfl, bz⟩

end Go.Proofs.YtjdacpnfgpdjhaaDoor
