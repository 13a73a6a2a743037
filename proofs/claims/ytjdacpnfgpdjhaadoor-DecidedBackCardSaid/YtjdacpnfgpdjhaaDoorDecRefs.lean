/-
  The document's decided sectors: a command's sector, and what a sector says: by contract.
-/
import Derived.Test.YtjdacpnfgpdjhaaDoorJoinSealTurn
import Derived.Test.YtjdacpnfgpdjhaaDoorCmdRefRead
import Derived.Test.YtjdacpnfgpdjhaaDoorCmdRefReadA
import Derived.Test.YtjdacpnfgpdjhaaDoorCmdOut
namespace Go.Proofs.YtjdacpnfgpdjhaaDoor
open Go.RowKit
set_option linter.unusedVariables false
set_option linter.unusedSimpArgs false

theorem cr_is {s : ByteArray} (h : cIs s = true) : crC s = cOfText s ∧ crE s = 0 := cr_yes h
theorem cr_isnt {s : ByteArray} (h : cIs s = false) : crC s = zeroC ∧ crE s = 100 := cr_no h
theorem dV_yes {s : ByteArray} (h : cIs s = true) : dV s = dSec s ∧ dE s = 0 := ⟨if_pos h, if_pos h⟩
theorem dV_no {s : ByteArray} (h : cIs s = false) : dV s = ⟨#[]⟩ ∧ dE s = 2 := ⟨if_neg (by rw [h]; simp), if_neg (by rw [h]; simp)⟩

set_option maxRecDepth 100000 in
set_option maxHeartbeats 1000000 in
theorem refDBytes_any (s : ByteArray) (w : World) (hs : s.size ≤ 17592186044416) :
    Calls Tryd.prog 9 #[.string s] w fun e w' => e = .returned (.tuple #[.string (dV s), .int .i64 (dE s)]) ∧ Below w.heap.size w w' := by
  go_enter Tryd.func9, Tryd.ntmps9
  go_wp2_with fail
  refine (refRead_any s _ hs).mono ?_
  rintro e w1 ⟨rfl, hb1⟩
  obtain ⟨⟨k, b, sr, d, a, lo, hi, m⟩, hc⟩ : ∃ c, Hid (crC s = c) := ⟨_, rfl⟩
  rw [hc.out, show cmdA ⟨k, b, sr, d, a, lo, hi, m⟩ = #[.int .i8 k, .int .i64 b, .int .i64 sr, .int .i64 d, .int .i64 a, .int .i64 lo, .int .i64 hi, .int .i8 m] from rfl]
  have b2 := below_then hb1 ((Below.refl w1.heap.size w1).alloc (Nat.le_refl _) (.cells #[.int .i8 k, .int .i64 b, .int .i64 sr, .int .i64 d, .int .i64 a, .int .i64 lo, .int .i64 hi, .int .i8 m] 32))
  cases hr : cIs s with
  | false =>
    have HV := Lib.hid (dV_no hr)
    rw [(cr_isnt hr).2]
    clear hr hb1
    go_wp2_with fail
    go_ret2
    exact ⟨by rw [HV.out.1, HV.out.2] <;> rfl, b2⟩
  | true =>
    have HV := Lib.hid (dV_yes hr)
    have hz := cIs_size hr
    have hm : mayS 5 s = true := mayS_yes (by omega) (by omega)
    have HO := Lib.hid (sealOut_yes hm)
    rw [(cr_is hr).2]
    clear hr hb1 hm
    go_wp2_with fail
    refine (refSeal_any 5 s _ (by omega) (by unfold maxLen; omega)).mono ?_
    rintro e w3 ⟨rfl, hb3⟩
    rw [HO.out]
    have b3 := below_then b2 hb3
    clear hb3 b2
    go_wp2_with fail
    go_ret2
    exact ⟨by rw [HV.out.1, HV.out.2] <;> rfl, b3⟩

/-! ### What a sector says -/
def drC (s : ByteArray) : CmdM := if dRd s = true then cOfText (loadS s) else zeroC
def drS (s : ByteArray) : ByteArray := if dRd s = true then loadS s else ⟨#[]⟩
def drE (s : ByteArray) : Int := if dRd s = true then 0 else if s = ⟨#[]⟩ then 0 else 50
theorem dr_yes {s : ByteArray} (h : dRd s = true) : drC s = cOfText (loadS s) ∧ drS s = loadS s ∧ drE s = 0 := ⟨if_pos h, if_pos h, if_pos h⟩
theorem dr_none {s : ByteArray} (h : s = ⟨#[]⟩) : drC s = zeroC ∧ drS s = ⟨#[]⟩ ∧ dRd s = false ∧ drE s = 0 := by
  subst h
  have h := dRd_empty
  refine ⟨if_neg (by rw [h]; simp), if_neg (by rw [h]; simp), h, ?_⟩
  unfold drE
  rw [h]
  simp
theorem dr_bad {s : ByteArray} (h : dRd s = false) (h2 : ¬ s = ⟨#[]⟩) : drC s = zeroC ∧ drS s = ⟨#[]⟩ ∧ drE s = 50 := by
  refine ⟨if_neg (by rw [h]; simp), if_neg (by rw [h]; simp), ?_⟩
  unfold drE
  rw [h, if_neg (by simp), if_neg h2]
theorem results_four {P : Program} {fn : Func} {t u v x : Tmp} {ty : TypeId} (h : fn.results = #[.cell t ty, .tmp u, .tmp v, .tmp x]) {tmps : Array Value} {w : World} {b : Nat} {cs : List Value} {d : TypeDesc} {a1 a2 a3 : Value}
    (hp : tmps.getD t undef = .pointer (some ⟨b, 0, none⟩)) (hv : tmps.getD u undef = a1) (hv2 : tmps.getD v undef = a2) (hv3 : tmps.getD x undef = a3) (hr : w.rangeAt b 0 cs) (hu : P.underlying ty = some d) (hd : d.isRow = true) (hi : (P.info? ty).map (·.size) = some cs.length) :
    (results fn tmps).run P w = .ok (.tuple #[.agg cs.toArray, a1, a2, a3]) w := by
  have hp' : tmps[t]?.getD undef = .pointer (some ⟨b, 0, none⟩) := by simpa using hp
  have hv' : tmps[u]?.getD undef = a1 := by simpa using hv
  have hv2' : tmps[v]?.getD undef = a2 := by simpa using hv2
  have hv3' : tmps[x]?.getD undef = a3 := by simpa using hv3
  simp [results, h, hp', hv', hv2', hv3', asAddr, run_loadVar_mid w b 0 ty cs d hr hu hd hi]

set_option maxRecDepth 100000 in
set_option maxHeartbeats 1000000 in
theorem refDRead_any (s : ByteArray) (w : World) (hM : s.size ≤ maxLen) :
    Calls Tryd.prog 11 #[.string s] w fun e w' => e = .returned (.tuple #[.agg (cmdA (drC s)), .string (drS s), .bool (dRd s), .int .i64 (drE s)]) ∧ Below w.heap.size w w' := by
  have q0 := Blk.new w #[.int .i8 0, .int .i64 0, .int .i64 0, .int .i64 0, .int .i64 0, .int .i64 0, .int .i64 0, .int .i8 0] 32
  have b0 : Below w.heap.size w (w.alloc (.cells #[.int .i8 0, .int .i64 0, .int .i64 0, .int .i64 0, .int .i64 0, .int .i64 0, .int .i64 0, .int .i8 0] 32)) := (Below.refl _ _).alloc (Nat.le_refl _) _
  go_enter Tryd.func11, Tryd.ntmps11
  by_cases he : s = ⟨#[]⟩
  · have HV := Lib.hid (dr_none he)
    have hth := q0.there
    have bz := setCells_below [.int .i8 0, .int .i64 0, .int .i64 0, .int .i64 0, .int .i64 0, .int .i64 0, .int .i64 0, .int .i8 0] 0 b0 (Nat.le_refl _)
    have hq : s.toList.isEmpty = true := by rw [he]; kernel_rfl
    clear he
    go_wp2_with (refine wpList_store_mid (op := ⟨none, .store 32 _ _, _, _, _, none⟩) rfl 32 _ _ (by rfl) w.heap.size 0 #[.int .i8 0, .int .i64 0, .int .i64 0, .int .i64 0, .int .i64 0, .int .i64 0, .int .i64 0, .int .i8 0] (by rfl) (by rfl) (by assumption) (by kernel_rfl) (by kernel_rfl) ?_)
    refine bodyPost_ret (results_four (cs := [.int .i8 0, .int .i64 0, .int .i64 0, .int .i64 0, .int .i64 0, .int .i64 0, .int .i64 0, .int .i8 0]) Tryd.results11 (by rfl) (by rfl) (by rfl) (by rfl) (World.rangeAt_setCells_same _ _ _ _ hth) Tryd.underlying32 rfl (by kernel_rfl)) rfl ?_
    exact ⟨by rw [HV.out.1, HV.out.2.1, HV.out.2.2.1, HV.out.2.2.2] <;> rfl, bz⟩
  · have hq : s.toList.isEmpty = false := by
      have h := str_diff he
      rw [show (⟨#[]⟩ : ByteArray).toList = [] by kernel_rfl] at h
      cases hs : s.toList with
      | nil => rw [hs] at h; cases h
      | cons x l => rfl
    have HE := Lib.hid he
    clear he
    go_wp2_with fail
    refine (refOf_any 5 s _ hM).mono ?_
    rintro e w1 ⟨rfl, hb1⟩
    have q1 := q0.below hb1 q0.lt
    have b1 := below_then b0 hb1
    clear q0 b0 hb1 hM
    cases ho : ofS 5 s with
    | false =>
      have hd : dRd s = false := by unfold dRd; rw [ho]; rfl
      have HV := Lib.hid (dr_bad hd HE.out)
      have HD := Lib.hid hd
      rw [ofOut_no ho]
      have hth := q1.there
      have bz := setCells_below [.int .i8 0, .int .i64 0, .int .i64 0, .int .i64 0, .int .i64 0, .int .i64 0, .int .i64 0, .int .i8 0] 0 b1 (Nat.le_refl _)
      clear ho hd
      go_wp2_with (refine wpList_store_mid (op := ⟨none, .store 32 _ _, _, _, _, none⟩) rfl 32 _ _ (by rfl) w.heap.size 0 #[.int .i8 0, .int .i64 0, .int .i64 0, .int .i64 0, .int .i64 0, .int .i64 0, .int .i64 0, .int .i8 0] (by rfl) (by rfl) (by assumption) (by kernel_rfl) (by kernel_rfl) ?_)
      refine bodyPost_ret (results_four (cs := [.int .i8 0, .int .i64 0, .int .i64 0, .int .i64 0, .int .i64 0, .int .i64 0, .int .i64 0, .int .i8 0]) Tryd.results11 (by rfl) (by rfl) (by rfl) (by rfl) (World.rangeAt_setCells_same _ _ _ _ hth) Tryd.underlying32 rfl (by kernel_rfl)) rfl ?_
      exact ⟨by rw [HV.out.1, HV.out.2.1, HV.out.2.2, HD.out] <;> rfl, bz⟩
    | true =>
      have his : isS s = true := by unfold ofS at ho; rw [Bool.and_eq_true] at ho; exact ho.1
      have hsz := (seal_open his).2.1
      obtain ⟨t, ht⟩ : ∃ t, Hid (loadS s = t) := ⟨_, rfl⟩
      rw [ofOut_yes ho, ht.out]
      rw [ht.out] at hsz
      have HO := Lib.hid ho
      clear ho his
      go_wp2_with fail
      refine (refRead_any t _ (by omega)).mono ?_
      rintro e w2 ⟨rfl, hb2⟩
      have q2 := q1.below hb2 q1.lt
      have b2 := below_then b1 hb2
      clear q1 b1 hb2
      obtain ⟨⟨k, b, sr, d, a, lo, hi, m⟩, hc⟩ : ∃ c, Hid (crC t = c) := ⟨_, rfl⟩
      rw [hc.out, show cmdA ⟨k, b, sr, d, a, lo, hi, m⟩ = #[.int .i8 k, .int .i64 b, .int .i64 sr, .int .i64 d, .int .i64 a, .int .i64 lo, .int .i64 hi, .int .i8 m] from rfl]
      have pk := Blk.new w2 #[.int .i8 k, .int .i64 b, .int .i64 sr, .int .i64 d, .int .i64 a, .int .i64 lo, .int .i64 hi, .int .i8 m] 32
      have bk : Below w2.heap.size w2 (w2.alloc (.cells #[.int .i8 k, .int .i64 b, .int .i64 sr, .int .i64 d, .int .i64 a, .int .i64 lo, .int .i64 hi, .int .i8 m] 32)) := (Below.refl _ _).alloc (Nat.le_refl _) _
      have q3 := q2.below bk q2.lt
      have b3 := below_then b2 bk
      have hl2 := q2.lt
      cases hr : cIs t with
      | false =>
        have hd : dRd s = false := by unfold dRd; rw [ht.out, hr, Bool.and_false]
        have HV := Lib.hid (dr_bad hd HE.out)
        have HD := Lib.hid hd
        rw [(cr_isnt hr).2]
        have hth := q3.there
        have bz := setCells_below [.int .i8 0, .int .i64 0, .int .i64 0, .int .i64 0, .int .i64 0, .int .i64 0, .int .i64 0, .int .i8 0] 0 b3 (Nat.le_refl _)
        clear hr hd pk bk q2
        go_wp2_with (refine wpList_store_mid (op := ⟨none, .store 32 _ _, _, _, _, none⟩) rfl 32 _ _ (by rfl) w.heap.size 0 #[.int .i8 0, .int .i64 0, .int .i64 0, .int .i64 0, .int .i64 0, .int .i64 0, .int .i64 0, .int .i8 0] (by rfl) (by rfl) (by assumption) (by kernel_rfl) (by kernel_rfl) ?_)
        refine bodyPost_ret (results_four (cs := [.int .i8 0, .int .i64 0, .int .i64 0, .int .i64 0, .int .i64 0, .int .i64 0, .int .i64 0, .int .i8 0]) Tryd.results11 (by rfl) (by rfl) (by rfl) (by rfl) (World.rangeAt_setCells_same _ _ _ _ hth) Tryd.underlying32 rfl (by kernel_rfl)) rfl ?_
        exact ⟨by rw [HV.out.1, HV.out.2.1, HV.out.2.2, HD.out] <;> rfl, bz⟩
      | true =>
        have hd : dRd s = true := by unfold dRd; rw [ht.out, hr, HO.out]; rfl
        have HV := Lib.hid (dr_yes hd)
        have HD := Lib.hid hd
        have HC : Hid (cOfText (loadS s) = ⟨k, b, sr, d, a, lo, hi, m⟩) := by show _ = _; rw [ht.out, ← (cr_is hr).1, hc.out]
        rw [(cr_is hr).2]
        have hth := q3.there
        have bz := setCells_below [.int .i8 k, .int .i64 b, .int .i64 sr, .int .i64 d, .int .i64 a, .int .i64 lo, .int .i64 hi, .int .i8 m] 0 b3 (Nat.le_refl _)
        obtain ⟨c0, c1, c2, c3, c4, c5, c6, c7⟩ := cmd_cells pk
        have hlk := pk.lt
        clear hr hd bk q2
        go_wp2_with (refine wpList_store_mid (op := ⟨none, .store 32 _ _, _, _, _, none⟩) rfl 32 _ _ (by rfl) w.heap.size 0 #[.int .i8 k, .int .i64 b, .int .i64 sr, .int .i64 d, .int .i64 a, .int .i64 lo, .int .i64 hi, .int .i8 m] (by rfl) (by rfl) (by assumption) (by kernel_rfl) (by kernel_rfl) ?_)
        refine bodyPost_ret (results_four (cs := [.int .i8 k, .int .i64 b, .int .i64 sr, .int .i64 d, .int .i64 a, .int .i64 lo, .int .i64 hi, .int .i8 m]) Tryd.results11 (by rfl) (by rfl) (by rfl) (by rfl) (World.rangeAt_setCells_same _ _ _ _ hth) Tryd.underlying32 rfl (by kernel_rfl)) rfl ?_
        exact ⟨by rw [HV.out.1, HC.out, HV.out.2.1, ht.out, HV.out.2.2, HD.out] <;> rfl, bz⟩

end Go.Proofs.YtjdacpnfgpdjhaaDoor
