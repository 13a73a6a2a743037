/-
  The program's decided sectors: Bytes, what a reader takes of one sector, Read: by contract.
-/
import Derived.Test.YtjdacpnfgpdjhaaDoorDecRdr
import Derived.Test.YtjdacpnfgpdjhaaDoorDecRefs
import Derived.Test.YtjdacpnfgpdjhaaDoorCmdProg
import Derived.Test.YtjdacpnfgpdjhaaDoorCrcTake
namespace Go.Proofs.YtjdacpnfgpdjhaaDoor
open Go.RowKit
set_option linter.unusedVariables false
set_option linter.unusedSimpArgs false

theorem TabOk.only {w w' : World} {b : Nat} (h : TabOk w) (ho : Only b w w') (hb : 0 < b) : TabOk w' :=
  h.keep ho.size fun p hp => World.cell?_of_block (w := w) (ho.block p.block (by rw [hp]; exact h.1) (by intro e; injection e with e; omega))

set_option maxRecDepth 100000 in
set_option maxHeartbeats 1000000 in
theorem dBytes_any (s : ByteArray) (w : World) (hs : s.size ≤ 17592186044416) (ht : TabOk w) :
    Calls Tryd.prog 8 #[.string s] w fun e w' => e = .returned (.tuple #[.string (dV s), .int .i64 (dE s)]) ∧ Below w.heap.size w w' := by
  go_enter Tryd.func8, Tryd.ntmps8
  go_wp2_with fail
  refine (cRead_any s _ hs).mono ?_
  rintro e w1 ⟨rfl, hb1⟩
  obtain ⟨⟨k, b, sr, d, a, lo, hi, m⟩, hc⟩ : ∃ c, Hid (crC s = c) := ⟨_, rfl⟩
  rw [hc.out, show cmdA ⟨k, b, sr, d, a, lo, hi, m⟩ = #[.int .i8 k, .int .i64 b, .int .i64 sr, .int .i64 d, .int .i64 a, .int .i64 lo, .int .i64 hi, .int .i8 m] from rfl]
  have b2 := below_then hb1 ((Below.refl w1.heap.size w1).alloc (Nat.le_refl _) (.cells #[.int .i8 k, .int .i64 b, .int .i64 sr, .int .i64 d, .int .i64 a, .int .i64 lo, .int .i64 hi, .int .i8 m] 32))
  cases hr : cIs s with
  | false =>
    have HV := Lib.hid (dV_no hr)
    rw [(cr_isnt hr).2]
    clear hr hb1
    go_wp2_with fail
    go_ret2
    exact ⟨by rw [HV.out.1, HV.out.2] <;> rfl, b2⟩
  | true =>
    have HV := Lib.hid (dV_yes hr)
    have hz := cIs_size hr
    have hm : mayS 5 s = true := mayS_yes (by omega) (by omega)
    have HO := Lib.hid (sealOut_yes hm)
    have ht2 := ht.below b2
    rw [(cr_is hr).2]
    clear hr hb1 hm
    go_wp2_with fail
    refine (Seal_any 5 s _ (by omega) (by unfold maxLen; omega) ht2).mono ?_
    rintro e w3 ⟨rfl, hb3⟩
    rw [HO.out]
    have b3 := below_then b2 hb3
    clear hb3 b2
    go_wp2_with fail
    go_ret2
    exact ⟨by rw [HV.out.1, HV.out.2] <;> rfl, b3⟩

set_option maxRecDepth 100000 in
set_option maxHeartbeats 1000000 in
theorem rread_any (b : Nat) (T : TypeId) (c : CmdM) (t : ByteArray) (y : Bool) (R : List Value) (s : ByteArray) (w : World) (h : RdrAt w b T c t y R) (h0 : 0 < b) (hM : s.size ≤ maxLen) (ht : TabOk w) :
    Calls Tryd.prog 27 #[.pointer (some ⟨b, 0, none⟩), .string s] w fun e w' => e = .returned (.int .i64 (drE s)) ∧ RdrAt w' b T (drC s) (drS s) (dRd s) R ∧ Only b w w' := by
  have hth := h.there
  have p0 := h.put zeroC ⟨#[]⟩ false
  have o0 : Only b w (w.setCells b 0 (rdL zeroC ⟨#[]⟩ false)) := Only.cellsAt _ 0 (Only.refl b w)
  have ht0 := ht.only o0 h0
  clear h ht
  go_enter Tryd.func27, Tryd.ntmps27
  by_cases he : s = ⟨#[]⟩
  · have HV := Lib.hid (dr_none he)
    have hq : s.toList.isEmpty = true := by rw [he]; kernel_rfl
    clear he
    go_wp2_with (refine wpList_store_mid (op := ⟨none, .store 60 _ _, _, _, _, none⟩) rfl 60 _ _ (by rfl) b 0 #[.int .i8 0, .int .i64 0, .int .i64 0, .int .i64 0, .int .i64 0, .int .i64 0, .int .i64 0, .int .i8 0, .string ⟨#[]⟩, .bool false] (by rfl) (by rfl) (by assumption) (by kernel_rfl) (by kernel_rfl) ?_)
    go_ret
    refine ⟨by rw [HV.out.2.2.2] <;> rfl, ?_, o0⟩
    rw [HV.out.1, HV.out.2.1, HV.out.2.2.1]
    exact p0
  · have hq : s.toList.isEmpty = false := by
      have h := str_diff he
      rw [show (⟨#[]⟩ : ByteArray).toList = [] by kernel_rfl] at h
      cases hs : s.toList with
      | nil => rw [hs] at h; cases h
      | cons x l => rfl
    have HE := Lib.hid he
    clear he
    go_wp2_with (refine wpList_store_mid (op := ⟨none, .store 60 _ _, _, _, _, none⟩) rfl 60 _ _ (by rfl) b 0 #[.int .i8 0, .int .i64 0, .int .i64 0, .int .i64 0, .int .i64 0, .int .i64 0, .int .i64 0, .int .i8 0, .string ⟨#[]⟩, .bool false] (by rfl) (by rfl) (by assumption) (by kernel_rfl) (by kernel_rfl) ?_)
    refine (Of_any 5 s _ hM ht0).mono ?_
    rintro e w1 ⟨rfl, hb1⟩
    have p1 : RdrAt w1 b T zeroC ⟨#[]⟩ false R := p0.below hb1 p0.lt
    have o1 : Only b w w1 := o0.trans (Only.of_below hb1 b)
    clear p0 o0 hb1 hM ht0
    cases ho : ofS 5 s with
    | false =>
      have hd : dRd s = false := by unfold dRd; rw [ho]; rfl
      have HV := Lib.hid (dr_bad hd HE.out)
      have HD := Lib.hid hd
      rw [ofOut_no ho]
      clear ho hd
      go_wp2_with fail
      go_ret
      refine ⟨by rw [HV.out.2.2] <;> rfl, ?_, o1⟩
      rw [HV.out.1, HV.out.2.1, HD.out]
      exact p1
    | true =>
      have his : isS s = true := by unfold ofS at ho; rw [Bool.and_eq_true] at ho; exact ho.1
      have hsz := (seal_open his).2.1
      obtain ⟨t, ht⟩ : ∃ t, Hid (loadS s = t) := ⟨_, rfl⟩
      rw [ofOut_yes ho, ht.out]
      rw [ht.out] at hsz
      have HO := Lib.hid ho
      clear ho his
      go_wp2_with fail
      refine (cRead_any t _ (by omega)).mono ?_
      rintro e w2 ⟨rfl, hb2⟩
      have p2 := p1.below hb2 p1.lt
      have o2 : Only b w w2 := o1.trans (Only.of_below hb2 b)
      clear p1 o1 hb2
      obtain ⟨⟨k, q, sr, d, a, lo, hi, m⟩, hc⟩ : ∃ c, Hid (crC t = c) := ⟨_, rfl⟩
      rw [hc.out, show cmdA ⟨k, q, sr, d, a, lo, hi, m⟩ = #[.int .i8 k, .int .i64 q, .int .i64 sr, .int .i64 d, .int .i64 a, .int .i64 lo, .int .i64 hi, .int .i8 m] from rfl]
      have pk := Blk.new w2 #[.int .i8 k, .int .i64 q, .int .i64 sr, .int .i64 d, .int .i64 a, .int .i64 lo, .int .i64 hi, .int .i8 m] 32
      have o3 := o2.alloc (.cells #[.int .i8 k, .int .i64 q, .int .i64 sr, .int .i64 d, .int .i64 a, .int .i64 lo, .int .i64 hi, .int .i8 m] 32)
      have p3 : RdrAt (w2.alloc (.cells #[.int .i8 k, .int .i64 q, .int .i64 sr, .int .i64 d, .int .i64 a, .int .i64 lo, .int .i64 hi, .int .i8 m] 32)) b T zeroC ⟨#[]⟩ false R := p2.below ((Below.refl _ _).alloc (Nat.le_refl _) _) p2.lt
      have hl2 := p2.lt
      clear p2 o2
      cases hr : cIs t with
      | false =>
        have hd : dRd s = false := by unfold dRd; rw [ht.out, hr, Bool.and_false]
        have HV := Lib.hid (dr_bad hd HE.out)
        have HD := Lib.hid hd
        rw [(cr_isnt hr).2]
        clear hr hd pk
        go_wp2_with fail
        go_ret
        refine ⟨by rw [HV.out.2.2] <;> rfl, ?_, o3⟩
        rw [HV.out.1, HV.out.2.1, HD.out]
        exact p3
      | true =>
        have hd : dRd s = true := by unfold dRd; rw [ht.out, hr, HO.out]; rfl
        have HV := Lib.hid (dr_yes hd)
        have HD := Lib.hid hd
        have HC : Hid (cOfText (loadS s) = ⟨k, q, sr, d, a, lo, hi, m⟩) := by show _ = _; rw [ht.out, ← (cr_is hr).1, hc.out]
        rw [(cr_is hr).2]
        have hth := p3.there
        have p4 := p3.put ⟨k, q, sr, d, a, lo, hi, m⟩ t true
        have o4 := Only.cellsAt (rdL ⟨k, q, sr, d, a, lo, hi, m⟩ t true) 0 o3
        obtain ⟨c0, c1, c2, c3, c4, c5, c6, c7⟩ := cmd_cells pk
        have hlk := pk.lt
        clear hr hd pk p3 o3
        go_wp2_with (refine wpList_store_mid (op := ⟨none, .store 60 _ _, _, _, _, none⟩) rfl 60 _ _ (by rfl) b 0 #[.int .i8 k, .int .i64 q, .int .i64 sr, .int .i64 d, .int .i64 a, .int .i64 lo, .int .i64 hi, .int .i8 m, .string t, .bool true] (by rfl) (by rfl) (by assumption) (by kernel_rfl) (by kernel_rfl) ?_)
        go_ret
        refine ⟨by rw [HV.out.2.2] <;> rfl, ?_, o4⟩
        rw [HV.out.1, HC.out, HV.out.2.1, ht.out, HD.out]
        exact p4
end Go.Proofs.YtjdacpnfgpdjhaaDoor
