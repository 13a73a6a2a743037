/-
  The document's commands: bytes read as a command, a free: by contract.
-/
import Derived.Test.YtjdacpnfgpdjhaaDoorCmdRefReadA
namespace Go.Proofs.YtjdacpnfgpdjhaaDoor
open Go.RowKit
set_option linter.unusedVariables false
set_option linter.unusedSimpArgs false

set_option maxRecDepth 100000 in
set_option maxHeartbeats 4000000 in
theorem refRead_3 (s : ByteArray) (w : World) (hs : s.size ≤ 17592186044416) (g11 : 11 ≤ s.size) (hf : fitsB ((6 : Nat) : Int) (dec (((bytesI s).drop 1).take 6)) = true) (hk : cKindOf (bytesI s) = 3) :
    Calls Tryd.prog 25 #[.string s] w fun e w' => e = .returned (.tuple #[.agg (cmdA (crC s)), .int .i64 (crE s)]) ∧ Below w.heap.size w w' := by
  have p0 := Blk.new w #[.int .i8 0, .int .i64 0, .int .i64 0, .int .i64 0, .int .i64 0, .int .i64 0, .int .i64 0, .int .i8 0] 32
  have b0 : Below w.heap.size w (w.alloc (.cells #[.int .i8 0, .int .i64 0, .int .i64 0, .int .i64 0, .int .i64 0, .int .i64 0, .int .i64 0, .int .i8 0] 32)) := one_below _ _
  have HSZ := Lib.hid hs
  have HH := Lib.hid hk
  have hM : s.size ≤ maxLen := by unfold maxLen; omega
  have HM := Lib.hid hM
  clear hM hk
  go_enter Tryd.func25, Tryd.ntmps25
  go_wp2_with fail
  refine (refGet_any s 1 6 _ HM.out (by omega) (by omega)).mono ?_
  rintro e w1 ⟨rfl, rfl⟩
  have H4 := Lib.hid (four_fits (isBytes_take (isBytes_drop (bytesI_bytes s) 7) 4) (by rw [List.length_take, List.length_drop, bytesI_length]; omega))
  have HG4 : Hid (getOut (bytesI s) 7 4 = .returned (.tuple #[.int .i64 (dec (((bytesI s).drop 7).take 4)), .int .i64 0])) := getOut_yes (mayB_yes (by omega) (by omega)) (by omega) (by rw [bytesI_length]; omega) H4.out
  have HG : Hid (getOut (bytesI s) 1 6 = .returned (.tuple #[.int .i64 (dec (((bytesI s).drop 1).take 6)), .int .i64 0])) := getOut_yes (mayB_yes (by omega) (by omega)) (by omega) (by rw [bytesI_length]; omega) hf
  rw [HG.out]
  clear hf
  obtain ⟨BY, hBY⟩ : ∃ x, Hid (dec (((bytesI s).drop 1).take 6) = x) := ⟨_, rfl⟩
  rw [hBY.out]
  go_wp2_with fail
  refine (refGet_any s 7 4 _ HM.out (by omega) (by omega)).mono ?_
  rintro e w1 ⟨rfl, rfl⟩
  rw [HG4.out]
  obtain ⟨SER, hSER⟩ : ∃ x, Hid (dec (((bytesI s).drop 7).take 4) = x) := ⟨_, rfl⟩
  rw [hSER.out]
  clear HG HG4 H4
  have hsz0 : 0 < s.size := by omega
  have hk0s : cKindOf (bytesI s) = (s[0].toNat : Int) := byte_at s 0 hsz0
  have hk127' : (s[0].toNat : Int) ≤ 127 := by rw [← hk0s]; have := HH.out; omega
  have hk0 : (0 : Int) ≤ (s[0].toNat : Int) := by omega
  clear hk0s
  go_upto_region 9 with fail
  obtain ⟨kb, hkb⟩ : ∃ x : Nat, s[0].toNat = x := ⟨_, rfl⟩
  have HK : Hid (cKindOf (bytesI s) = (kb : Int)) := by show _ = _; rw [← hkb]; exact byte_at s 0 hsz0
  rw [hkb] at hk127' hk0 ⊢
  clear hkb
  obtain ⟨W1, hW1⟩ : ∃ W, W = (w.alloc (.cells #[.int .i8 0, .int .i64 0, .int .i64 0, .int .i64 0, .int .i64 0, .int .i64 0, .int .i64 0, .int .i8 0] 32)).alloc (.cells #[.int .i8 (kb : Int), .int .i64 BY, .int .i64 SER, .int .i64 0, .int .i64 0, .int .i64 0, .int .i64 0, .int .i8 0] 32) := ⟨_, rfl⟩
  have b1 : Below w.heap.size w W1 := hW1 ▸ b0.alloc b0.size _
  have p1 : Blk W1 w.heap.size #[.int .i8 0, .int .i64 0, .int .i64 0, .int .i64 0, .int .i64 0, .int .i64 0, .int .i64 0, .int .i8 0] 32 := hW1 ▸ p0.alloc _
  have q1 : Blk W1 (w.heap.size + 1) #[.int .i8 (kb : Int), .int .i64 BY, .int .i64 SER, .int .i64 0, .int .i64 0, .int .i64 0, .int .i64 0, .int .i8 0] 32 := by
    have h := Blk.new (w.alloc (.cells #[.int .i8 0, .int .i64 0, .int .i64 0, .int .i64 0, .int .i64 0, .int .i64 0, .int .i64 0, .int .i8 0] 32)) #[.int .i8 (kb : Int), .int .i64 BY, .int .i64 SER, .int .i64 0, .int .i64 0, .int .i64 0, .int .i64 0, .int .i8 0] 32
    rw [hW1]
    simpa using h
  rw [← hW1]
  clear hW1 p0 b0
  have p0 := p1
  have q0 := q1
  have b0 := b1
  have q1lt := q1.lt
  clear p1 q1 b1
  obtain ⟨c0, c1, c2, c3, c4, c5, c6, c7⟩ := cmd_cells q0
  have f3 := q0.free 3
  have f4 := q0.free 4
  have f5 := q0.free 5
  have f6 := q0.free 6
  have f7 := q0.free 7
  have lq := q0.lt
  have hR2 : (s.extract 11 s.size).size = s.size - 11 := by simp
  have HR2 := Lib.hid hR2
  clear hR2
  have e2 : ¬ (kb : Int) = 2 := by rw [← HK.out]; have := HH.out; omega
  have e3 : (kb : Int) = 3 := by rw [← HK.out]; have := HH.out; omega
  by_cases h13 : s.size < 13
  · have hR : cRd (bytesI s) = false := rd_len (by rw [bytesI_length, HK.out, e3]; show s.size ≠ 13; omega)
    have HR := Lib.hid hR
    have k2 : ((kb : Int) == 2) = false := beq_no e2
    have k3 : ((kb : Int) == 3) = true := beq_yes e3
    have z : ((s.size - 11 : Nat) : Int) < 2 := by omega
    clear hR h13 e2 e3
    have HV := Lib.hid (cr_no HR.out)
    have hth := p0.there
    have bz := setCells_below [.int .i8 0, .int .i64 0, .int .i64 0, .int .i64 0, .int .i64 0, .int .i64 0, .int .i64 0, .int .i8 0] 0 b0 (Nat.le_refl _)
    go_wp2_with (refine wpList_store_mid (op := ⟨none, .store 32 _ _, _, _, _, none⟩) rfl 32 _ _ (by rfl) w.heap.size 0 #[.int .i8 0, .int .i64 0, .int .i64 0, .int .i64 0, .int .i64 0, .int .i64 0, .int .i64 0, .int .i8 0] (by rfl) (by rfl) (by assumption) (by kernel_rfl) (by kernel_rfl) ?_)
    refine bodyPost_ret (results_pair (cs := [.int .i8 0, .int .i64 0, .int .i64 0, .int .i64 0, .int .i64 0, .int .i64 0, .int .i64 0, .int .i8 0]) Tryd.results25 (by rfl) (by rfl) (World.rangeAt_setCells_same _ _ _ _ hth) Tryd.underlying32 rfl (by kernel_rfl)) rfl ?_
    exact ⟨by rw [HV.out.1, HV.out.2] <;> rfl, bz⟩
  · have h13' : 13 ≤ s.size := by omega
    have H13 := Lib.hid h13'
    have HE := Lib.hid e3
    have k2 : ((kb : Int) == 2) = false := beq_no e2
    have k3 : ((kb : Int) == 3) = true := beq_yes e3
    have z : (2 : Int) ≤ ((s.size - 11 : Nat) : Int) := by omega
    have i0 : 0 < (s.extract 11 s.size).size := by rw [HR2.out]; omega
    have i1 : 1 < (s.extract 11 s.size).size := by rw [HR2.out]; omega
    have j0 : 0 < s.size - 11 := by omega
    have j1 : 1 < s.size - 11 := by omega
    have jj1 : (1 : Int) < ((s.size - 11 : Nat) : Int) := by omega
    have w0 : wrap64 ((s.extract 11 s.size)[0].toNat : Int) = ((s.extract 11 s.size)[0].toNat : Int) := IntWalk.wrap64_in _ (by have := byte_lt (s.extract 11 s.size)[0]; omega)
    have w1 : wrap64 ((s.extract 11 s.size)[1].toNat : Int) = ((s.extract 11 s.size)[1].toNat : Int) := IntWalk.wrap64_in _ (by have := byte_lt (s.extract 11 s.size)[1]; omega)
    clear h13 h13' e2 e3
    go_upto_region 14 with fail
    go_region
    obtain ⟨LO, hLO⟩ : ∃ x : Nat, (s.extract 11 s.size)[0].toNat = x := ⟨_, rfl⟩
    obtain ⟨HI, hHI⟩ : ∃ x : Nat, (s.extract 11 s.size)[1].toNat = x := ⟨_, rfl⟩
    have HLO : Hid ((bytesI s).getD 11 0 = (LO : Int)) := by show _ = _; rw [← hLO]; exact byte_rest s 0 i0
    have HHI : Hid ((bytesI s).getD 12 0 = (HI : Int)) := by show _ = _; rw [← hHI]; exact byte_rest s 1 i1
    rw [hLO, hHI]
    clear hLO hHI w0 w1
    obtain ⟨W2, hW2⟩ : ∃ W, W = ((W1.setCell ⟨w.heap.size + 1, 5, none⟩ (.int .i64 (LO : Int))).setCell ⟨w.heap.size + 1, 6, none⟩ (.int .i64 (HI : Int))).drew := ⟨_, rfl⟩
    have p2 : Blk W2 w.heap.size #[.int .i8 0, .int .i64 0, .int .i64 0, .int .i64 0, .int .i64 0, .int .i64 0, .int .i64 0, .int .i8 0] 32 := hW2 ▸ (p0.other (by omega) 5 _).other (by omega) 6 _
    have q2 : Blk W2 (w.heap.size + 1) #[.int .i8 (kb : Int), .int .i64 BY, .int .i64 SER, .int .i64 0, .int .i64 0, .int .i64 (LO : Int), .int .i64 (HI : Int), .int .i8 0] 32 := hW2 ▸ (q0.set 5 _).set 6 _
    have b2 : Below w.heap.size w W2 := hW2 ▸ ((b0.setCell (Nat.le_succ _) _).setCell (Nat.le_succ _) _).drew
    rw [← hW2]
    clear hW2 p0 q0 b0 c0 c1 c2 c3 c4 c5 c6 c7 f3 f4 f5 f6 f7 lq
    have p0 := p2
    have q0 := q2
    have b0 := b2
    clear p2 q2 b2
    obtain ⟨c0, c1, c2, c3, c4, c5, c6, c7⟩ := cmd_cells q0
    have f7 := q0.free 7
    have lq := q0.lt
    have HD : Hid (cRd (bytesI s) = true → cCand (bytesI s) = ⟨(kb : Int), BY, SER, 0, 0, (LO : Int), (HI : Int), 0⟩) := fun hr => by
      rw [HE.out]
      exact cand_3 (HK.out.trans HE.out) hBY.out hSER.out HLO.out HHI.out
    go_wp2_with fail
    refine (refBytes_any ((kb : Int)) (BY) (SER) (0) (0) ((LO : Int)) ((HI : Int)) (0) _).mono ?_
    rintro e w9 ⟨rfl, hb9⟩
    have p9 := p0.below hb9 p0.lt
    have q9 := q0.below hb9 q0.lt
    have b9 := below_then b0 hb9
    obtain ⟨g0, g1, g2, g3, g4, g5, g6, g7⟩ := cmd_cells q9
    have lq9 := q9.lt
    clear p0 q0 b0 hb9
    cases hm : cMay ⟨(kb : Int), BY, SER, 0, 0, (LO : Int), (HI : Int), 0⟩ with
    | false =>
      have HN := Lib.hid (cr_off HD.out (.inl hm))
      have HC := Lib.hid (cm_no hm)
      rw [HC.out.1, HC.out.2]
      clear hm
      have HV := Lib.hid (cr_no HN.out)
      have hth := p9.there
      have bz := setCells_below [.int .i8 0, .int .i64 0, .int .i64 0, .int .i64 0, .int .i64 0, .int .i64 0, .int .i64 0, .int .i8 0] 0 b9 (Nat.le_refl _)
      go_wp2_with (refine wpList_store_mid (op := ⟨none, .store 32 _ _, _, _, _, none⟩) rfl 32 _ _ (by rfl) w.heap.size 0 #[.int .i8 0, .int .i64 0, .int .i64 0, .int .i64 0, .int .i64 0, .int .i64 0, .int .i64 0, .int .i8 0] (by rfl) (by rfl) (by assumption) (by kernel_rfl) (by kernel_rfl) ?_)
      refine bodyPost_ret (results_pair (cs := [.int .i8 0, .int .i64 0, .int .i64 0, .int .i64 0, .int .i64 0, .int .i64 0, .int .i64 0, .int .i8 0]) Tryd.results25 (by rfl) (by rfl) (World.rangeAt_setCells_same _ _ _ _ hth) Tryd.underlying32 rfl (by kernel_rfl)) rfl ?_
      exact ⟨by rw [HV.out.1, HV.out.2] <;> rfl, bz⟩
    | true =>
      have HC := Lib.hid (cm_yes hm)
      have HM2 := Lib.hid hm
      rw [HC.out.2]
      obtain ⟨SS, hS⟩ : ∃ S, Hid (cmS ⟨(kb : Int), BY, SER, 0, 0, (LO : Int), (HI : Int), 0⟩ = S) := ⟨_, rfl⟩
      rw [hS.out]
      clear hm
      by_cases he : SS = s
      · have HV := Lib.hid (cr_of HM2.out (hS.out.trans he))
        have hss : (SS.toList == s.toList) = true := by rw [he]; exact str_same _
        clear he
        have hth := p9.there
        have bz := setCells_below [.int .i8 (kb : Int), .int .i64 BY, .int .i64 SER, .int .i64 0, .int .i64 0, .int .i64 (LO : Int), .int .i64 (HI : Int), .int .i8 0] 0 b9 (Nat.le_refl _)
        go_wp2_with (refine wpList_store_mid (op := ⟨none, .store 32 _ _, _, _, _, none⟩) rfl 32 _ _ (by rfl) w.heap.size 0 #[.int .i8 (kb : Int), .int .i64 BY, .int .i64 SER, .int .i64 0, .int .i64 0, .int .i64 (LO : Int), .int .i64 (HI : Int), .int .i8 0] (by rfl) (by rfl) (by assumption) (by kernel_rfl) (by kernel_rfl) ?_)
        refine bodyPost_ret (results_pair (cs := [.int .i8 (kb : Int), .int .i64 BY, .int .i64 SER, .int .i64 0, .int .i64 0, .int .i64 (LO : Int), .int .i64 (HI : Int), .int .i8 0]) Tryd.results25 (by rfl) (by rfl) (World.rangeAt_setCells_same _ _ _ _ hth) Tryd.underlying32 rfl (by kernel_rfl)) rfl ?_
        exact ⟨by rw [HV.out.2.1, HV.out.2.2] <;> rfl, bz⟩
      · have HN := Lib.hid (cr_off HD.out (.inr (by rw [hS.out]; exact he)))
        have hss : (SS.toList == s.toList) = false := str_diff he
        clear he
        have HV := Lib.hid (cr_no HN.out)
        have hth := p9.there
        have bz := setCells_below [.int .i8 0, .int .i64 0, .int .i64 0, .int .i64 0, .int .i64 0, .int .i64 0, .int .i64 0, .int .i8 0] 0 b9 (Nat.le_refl _)
        go_wp2_with (refine wpList_store_mid (op := ⟨none, .store 32 _ _, _, _, _, none⟩) rfl 32 _ _ (by rfl) w.heap.size 0 #[.int .i8 0, .int .i64 0, .int .i64 0, .int .i64 0, .int .i64 0, .int .i64 0, .int .i64 0, .int .i8 0] (by rfl) (by rfl) (by assumption) (by kernel_rfl) (by kernel_rfl) ?_)
        refine bodyPost_ret (results_pair (cs := [.int .i8 0, .int .i64 0, .int .i64 0, .int .i64 0, .int .i64 0, .int .i64 0, .int .i64 0, .int .i8 0]) Tryd.results25 (by rfl) (by rfl) (World.rangeAt_setCells_same _ _ _ _ hth) Tryd.underlying32 rfl (by kernel_rfl)) rfl ?_
        exact ⟨by rw [HV.out.1, HV.out.2] <;> rfl, bz⟩

end Go.Proofs.YtjdacpnfgpdjhaaDoor
