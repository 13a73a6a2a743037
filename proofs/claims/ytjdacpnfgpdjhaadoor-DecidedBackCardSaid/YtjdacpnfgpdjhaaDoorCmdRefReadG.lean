/-
  The document's commands: bytes read as a command, none: by contract.
-/
import Derived.Test.YtjdacpnfgpdjhaaDoorCmdRefReadA
namespace Go.Proofs.YtjdacpnfgpdjhaaDoor
open Go.RowKit
set_option linter.unusedVariables false
set_option linter.unusedSimpArgs false

set_option maxRecDepth 100000 in
set_option maxHeartbeats 4000000 in
theorem refRead_n (s : ByteArray) (w : World) (hs : s.size ≤ 17592186044416) (h : s.size < 11 ∨ (11 ≤ s.size ∧ fitsB ((6 : Nat) : Int) (dec (((bytesI s).drop 1).take 6)) = false)) :
    Calls Tryd.prog 25 #[.string s] w fun e w' => e = .returned (.tuple #[.agg (cmdA (crC s)), .int .i64 (crE s)]) ∧ Below w.heap.size w w' := by
  have p0 := Blk.new w #[.int .i8 0, .int .i64 0, .int .i64 0, .int .i64 0, .int .i64 0, .int .i64 0, .int .i64 0, .int .i8 0] 32
  have b0 : Below w.heap.size w (w.alloc (.cells #[.int .i8 0, .int .i64 0, .int .i64 0, .int .i64 0, .int .i64 0, .int .i64 0, .int .i64 0, .int .i8 0] 32)) := one_below _ _
  have HSZ := Lib.hid hs
  by_cases h11 : s.size < 11
  · go_enter Tryd.func25, Tryd.ntmps25
    have HV := Lib.hid (cr_no (cRd_short (l := bytesI s) (by rw [bytesI_length]; exact h11)))
    have hth := p0.there
    have bz := setCells_below [.int .i8 0, .int .i64 0, .int .i64 0, .int .i64 0, .int .i64 0, .int .i64 0, .int .i64 0, .int .i8 0] 0 b0 (Nat.le_refl _)
    go_wp2_with (refine wpList_store_mid (op := ⟨none, .store 32 _ _, _, _, _, none⟩) rfl 32 _ _ (by rfl) w.heap.size 0 #[.int .i8 0, .int .i64 0, .int .i64 0, .int .i64 0, .int .i64 0, .int .i64 0, .int .i64 0, .int .i8 0] (by rfl) (by rfl) (by assumption) (by kernel_rfl) (by kernel_rfl) ?_)
    refine bodyPost_ret (results_pair (cs := [.int .i8 0, .int .i64 0, .int .i64 0, .int .i64 0, .int .i64 0, .int .i64 0, .int .i64 0, .int .i8 0]) Tryd.results25 (by rfl) (by rfl) (World.rangeAt_setCells_same _ _ _ _ hth) Tryd.underlying32 rfl (by kernel_rfl)) rfl ?_
    exact ⟨by rw [HV.out.1, HV.out.2] <;> rfl, bz⟩
  · have g11 : 11 ≤ s.size := by omega
    have hM : s.size ≤ maxLen := by unfold maxLen; omega
    have HM := Lib.hid hM
    clear h11 hM
    go_enter Tryd.func25, Tryd.ntmps25
    go_wp2_with fail
    refine (refGet_any s 1 6 _ HM.out (by omega) (by omega)).mono ?_
    rintro e w1 ⟨rfl, rfl⟩
    have H4 := Lib.hid (four_fits (isBytes_take (isBytes_drop (bytesI_bytes s) 7) 4) (by rw [List.length_take, List.length_drop, bytesI_length]; omega))
    have HG4 : Hid (getOut (bytesI s) 7 4 = .returned (.tuple #[.int .i64 (dec (((bytesI s).drop 7).take 4)), .int .i64 0])) := getOut_yes (mayB_yes (by omega) (by omega)) (by omega) (by rw [bytesI_length]; omega) H4.out
    obtain hf : fitsB ((6 : Nat) : Int) (dec (((bytesI s).drop 1).take 6)) = false := by
      rcases h with h | h
      · omega
      · exact h.2
    · skip
      have HG : Hid (getOut (bytesI s) 1 6 = .returned (.tuple #[.int .i64 0, .int .i64 10])) := getOut_great (mayB_yes (by omega) (by omega)) hf
      have HR := Lib.hid (rd_great (l := bytesI s) (by rw [bytesI_length]; omega) (bytesI_bytes s) hf)
      rw [HG.out]
      clear hf H4
      go_wp2_with fail
      refine (refGet_any s 7 4 _ HM.out (by omega) (by omega)).mono ?_
      rintro e w1 ⟨rfl, rfl⟩
      rw [HG4.out]
      generalize dec (((bytesI s).drop 7).take 4) = SER at *
      have HV := Lib.hid (cr_no HR.out)
      have hth := p0.there
      have bz := setCells_below [.int .i8 0, .int .i64 0, .int .i64 0, .int .i64 0, .int .i64 0, .int .i64 0, .int .i64 0, .int .i8 0] 0 b0 (Nat.le_refl _)
      go_wp2_with (refine wpList_store_mid (op := ⟨none, .store 32 _ _, _, _, _, none⟩) rfl 32 _ _ (by rfl) w.heap.size 0 #[.int .i8 0, .int .i64 0, .int .i64 0, .int .i64 0, .int .i64 0, .int .i64 0, .int .i64 0, .int .i8 0] (by rfl) (by rfl) (by assumption) (by kernel_rfl) (by kernel_rfl) ?_)
      refine bodyPost_ret (results_pair (cs := [.int .i8 0, .int .i64 0, .int .i64 0, .int .i64 0, .int .i64 0, .int .i64 0, .int .i64 0, .int .i8 0]) Tryd.results25 (by rfl) (by rfl) (World.rangeAt_setCells_same _ _ _ _ hth) Tryd.underlying32 rfl (by kernel_rfl)) rfl ?_
      exact ⟨by rw [HV.out.1, HV.out.2] <;> rfl, bz⟩

set_option maxRecDepth 100000 in
set_option maxHeartbeats 4000000 in
theorem refRead_g (s : ByteArray) (w : World) (hs : s.size ≤ 17592186044416) (g11 : 11 ≤ s.size) (hf : fitsB ((6 : Nat) : Int) (dec (((bytesI s).drop 1).take 6)) = true) (hk : 127 < cKindOf (bytesI s)) :
    Calls Tryd.prog 25 #[.string s] w fun e w' => e = .returned (.tuple #[.agg (cmdA (crC s)), .int .i64 (crE s)]) ∧ Below w.heap.size w w' := by
  have p0 := Blk.new w #[.int .i8 0, .int .i64 0, .int .i64 0, .int .i64 0, .int .i64 0, .int .i64 0, .int .i64 0, .int .i8 0] 32
  have b0 : Below w.heap.size w (w.alloc (.cells #[.int .i8 0, .int .i64 0, .int .i64 0, .int .i64 0, .int .i64 0, .int .i64 0, .int .i64 0, .int .i8 0] 32)) := one_below _ _
  have HSZ := Lib.hid hs
  have HH := Lib.hid hk
  have hM : s.size ≤ maxLen := by unfold maxLen; omega
  have HM := Lib.hid hM
  clear hM hk
  go_enter Tryd.func25, Tryd.ntmps25
  go_wp2_with fail
  refine (refGet_any s 1 6 _ HM.out (by omega) (by omega)).mono ?_
  rintro e w1 ⟨rfl, rfl⟩
  have H4 := Lib.hid (four_fits (isBytes_take (isBytes_drop (bytesI_bytes s) 7) 4) (by rw [List.length_take, List.length_drop, bytesI_length]; omega))
  have HG4 : Hid (getOut (bytesI s) 7 4 = .returned (.tuple #[.int .i64 (dec (((bytesI s).drop 7).take 4)), .int .i64 0])) := getOut_yes (mayB_yes (by omega) (by omega)) (by omega) (by rw [bytesI_length]; omega) H4.out
  have HG : Hid (getOut (bytesI s) 1 6 = .returned (.tuple #[.int .i64 (dec (((bytesI s).drop 1).take 6)), .int .i64 0])) := getOut_yes (mayB_yes (by omega) (by omega)) (by omega) (by rw [bytesI_length]; omega) hf
  rw [HG.out]
  clear hf
  obtain ⟨BY, hBY⟩ : ∃ x, Hid (dec (((bytesI s).drop 1).take 6) = x) := ⟨_, rfl⟩
  rw [hBY.out]
  go_wp2_with fail
  refine (refGet_any s 7 4 _ HM.out (by omega) (by omega)).mono ?_
  rintro e w1 ⟨rfl, rfl⟩
  rw [HG4.out]
  obtain ⟨SER, hSER⟩ : ∃ x, Hid (dec (((bytesI s).drop 7).take 4) = x) := ⟨_, rfl⟩
  rw [hSER.out]
  clear HG HG4 H4
  have hsz0 : 0 < s.size := by omega
  have hk0s : cKindOf (bytesI s) = (s[0].toNat : Int) := byte_at s 0 hsz0
  have HR := Lib.hid (rd_kind HH.out)
  have hk127 : 127 < (s[0].toNat : Int) := by rw [← hk0s]; exact HH.out
  clear hk0s
  have HV := Lib.hid (cr_no HR.out)
  have hth := p0.there
  have bz := setCells_below [.int .i8 0, .int .i64 0, .int .i64 0, .int .i64 0, .int .i64 0, .int .i64 0, .int .i64 0, .int .i8 0] 0 b0 (Nat.le_refl _)
  go_wp2_with (refine wpList_store_mid (op := ⟨none, .store 32 _ _, _, _, _, none⟩) rfl 32 _ _ (by rfl) w.heap.size 0 #[.int .i8 0, .int .i64 0, .int .i64 0, .int .i64 0, .int .i64 0, .int .i64 0, .int .i64 0, .int .i8 0] (by rfl) (by rfl) (by assumption) (by kernel_rfl) (by kernel_rfl) ?_)
  refine bodyPost_ret (results_pair (cs := [.int .i8 0, .int .i64 0, .int .i64 0, .int .i64 0, .int .i64 0, .int .i64 0, .int .i64 0, .int .i8 0]) Tryd.results25 (by rfl) (by rfl) (World.rangeAt_setCells_same _ _ _ _ hth) Tryd.underlying32 rfl (by kernel_rfl)) rfl ?_
  exact ⟨by rw [HV.out.1, HV.out.2] <;> rfl, bz⟩

end Go.Proofs.YtjdacpnfgpdjhaaDoor
