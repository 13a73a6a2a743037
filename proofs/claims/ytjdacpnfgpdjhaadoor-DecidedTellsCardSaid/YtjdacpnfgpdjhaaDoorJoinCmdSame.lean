/- Joined: CmdRefBytes, CmdRefReadA, CmdRefReadB, CmdRefReadC, CmdRefReadD, CmdRefReadE, CmdRefReadF, CmdRefReadG, CmdRefRead, DecRefs, CmdPut, CmdSame. -/
import Derived.Test.YtjdacpnfgpdjhaaDoorCmdRefMay
import Derived.Test.YtjdacpnfgpdjhaaDoorCmdOut
import Derived.Test.YtjdacpnfgpdjhaaDoorNumRefPut
import Derived.Test.YtjdacpnfgpdjhaaDoorNumRefRow
import Derived.Laws.AppendOwn
import Derived.Test.YtjdacpnfgpdjhaaDoorNumGet
import Derived.Test.YtjdacpnfgpdjhaaDoorDecMath
import Derived.Test.YtjdacpnfgpdjhaaDoorSealSeal
import Derived.Test.YtjdacpnfgpdjhaaDoorSealOf
import Derived.Test.YtjdacpnfgpdjhaaDoorCmdMay
import Derived.Test.YtjdacpnfgpdjhaaDoorCmdTake
/-
  The document's commands: a command's bytes: by contract.
-/
namespace Go.Proofs.YtjdacpnfgpdjhaaDoor
open Go.RowKit
set_option linter.unusedVariables false
set_option linter.unusedSimpArgs false

theorem own_less0 {w : World} {B B' n : Nat} {e : TypeId} {v : Value} {xs : List Value} (h : w.ownsRow B e 1 v n xs) (hb : B' ≤ B) : w.ownsRow B' e 1 v n xs := by
  refine ⟨h.1, ?_⟩
  rcases h.2 with h0 | ⟨g, cap, cur, h1, h2, h3⟩
  · exact .inl h0
  · exact .inr ⟨g, cap, cur, h1, by omega, h3⟩
theorem own_up0 {w w' : World} {B n : Nat} {e : TypeId} {v : Value} {xs : List Value} (h : w.ownsRow B e 1 v n xs) (hb : Below w.heap.size w w') : w'.ownsRow B e 1 v n xs := by
  refine ⟨h.1, ?_⟩
  rcases h.2 with h0 | ⟨g, cap, cur, h1, h2, h3, h4⟩
  · exact .inl h0
  · exact .inr ⟨g, cap, cur, h1, h2, (hb.block g (lt_of_block h3)).trans h3, h4⟩
theorem bytes_one (l : List Int) : ∀ u ∈ l.map (Value.int .u8), u.oneCell' = true := fun u hu => by
  obtain ⟨x, _, rfl⟩ := List.mem_map.1 hu
  rfl
theorem one_below (w : World) (o : Obj) : Below w.heap.size w (w.alloc o) := (Below.refl _ _).alloc (Nat.le_refl _) _
theorem Lies.cells0 {w : World} {B n : Nat} {ad : Addr} {xs : List Value} (h : Lies w B (some ad) n xs) : ∀ j u, xs[j]? = some u → w.cell? (ad.add j) = some u := fun j u hj => by
  have hlt := (List.getElem?_eq_some_iff.1 hj).1
  obtain ⟨p, e1, _, hc⟩ := h.2 (by have := h.1; omega)
  injection e1 with e1
  subst e1
  exact hc j u hj
theorem key_fits {k : Int} (h : cKey k = true) : fitsB ((6 : Nat) : Int) k = true := fitsB_yes (by omega) (by omega) (by have := cKey_iff.1 h; omega) (by have := cKey_iff.1 h; simp [mostOf]; omega)
theorem serial_fits {s : Int} (h : 1 ≤ s ∧ s ≤ 2147483648) : fitsB ((4 : Nat) : Int) s = true := fitsB_yes (by omega) (by omega) (by omega) (by simp [mostOf]; omega)
theorem put_two {X : Nat} {n n2 : Int} {zb : List Int} {w w' : World} {e : Ending} (hf : fitsB X n = true) (hf2 : fitsB X n2 = true) (h : PutPost (X : Int) zb [n, n2] w e w') :
    ∃ v, e = .returned (.tuple #[v, .int .i64 0]) ∧ w'.ownsRow w.heap.size 5 1 v (zb.length + X * 2) ((zb ++ (enc X n ++ enc X n2)).map (Value.int .u8)) ∧ Below w.heap.size w w' := by
  obtain ⟨hb, h⟩ := h
  have hm : mayB (X : Int) = true := by
    obtain ⟨⟨h1, h2⟩, _⟩ := of_fitsB hf
    exact mayB_yes h1 h2
  have hall : (mayB (X : Int) && [n, n2].all (fitsB X)) = true := by simp [hm, hf, hf2]
  rcases h with ⟨hno, _⟩ | ⟨_, v, rfl, hown⟩
  · rw [hall] at hno; cases hno
  · refine ⟨v, rfl, ?_, hb⟩
    have e1 : encs ((X : Int)).toNat [n, n2] = enc X n ++ enc X n2 := by simp [encs]
    rw [e1] at hown
    simpa using hown
theorem lies_byte (w : World) (t : TypeId) (n : Int) {b : Nat} (hb : w.heap.size = b) : Lies (w.alloc (.cells #[.int .u8 n] t)) (w.alloc (.cells #[.int .u8 n] t)).heap.size (some ⟨b, 0, none⟩) 1 ([n].map (Value.int .u8)) := by
  subst hb
  exact lies_new w #[.int .u8 n] t (0, 0)
theorem lies_ints (w : World) (t : TypeId) (n n2 : Int) {b : Nat} (hb : w.heap.size = b) : Lies (w.alloc (.cells #[.int .i64 n, .int .i64 n2] t)) (w.alloc (.cells #[.int .i64 n, .int .i64 n2] t)).heap.size (some ⟨b, 0, none⟩) 2 ([n, n2].map (Value.int .i64)) := by
  subst hb
  exact lies_new w #[.int .i64 n, .int .i64 n2] t (0, 0)

set_option maxRecDepth 100000 in
set_option maxHeartbeats 4000000 in
theorem refBytes_any (k b s d a lo hi m : Int) (w : World) :
    Calls Tryd.prog 44 #[.agg #[.int .i8 k, .int .i64 b, .int .i64 s, .int .i64 d, .int .i64 a, .int .i64 lo, .int .i64 hi, .int .i8 m]] w fun e w' => e = .returned (.tuple #[.string (cmS ⟨k, b, s, d, a, lo, hi, m⟩), .int .i64 (cmE ⟨k, b, s, d, a, lo, hi, m⟩)]) ∧ Below w.heap.size w w' := by
  have p0 := Blk.new w #[.int .i8 k, .int .i64 b, .int .i64 s, .int .i64 d, .int .i64 a, .int .i64 lo, .int .i64 hi, .int .i8 m] 32
  have b0 : Below w.heap.size w (w.alloc (.cells #[.int .i8 k, .int .i64 b, .int .i64 s, .int .i64 d, .int .i64 a, .int .i64 lo, .int .i64 hi, .int .i8 m] 32)) := (Below.refl _ _).alloc (Nat.le_refl _) _
  go_enter Tryd.func44, Tryd.ntmps44
  go_wp2_with fail
  refine (refCMay_any k b s d a lo hi m _).mono ?_
  rintro e w1 ⟨rfl, hb1⟩
  have p1 := p0.below hb1 p0.lt
  have b1 := below_then b0 hb1
  clear p0 b0 hb1
  cases hm : cMay ⟨k, b, s, d, a, lo, hi, m⟩ with
  | false =>
    have HV := Lib.hid (cm_no hm)
    go_wp2_with fail
    go_ret2
    exact ⟨by rw [HV.out.1, HV.out.2] <;> rfl, b1⟩
  | true =>
    have HV := Lib.hid (cm_yes hm)
    obtain ⟨hkb, hs, hk⟩ := cMay_iff.1 hm
    have hkd := cKind_bd hk
    simp only at hkb hs hkd
    have HB := Lib.hid (key_fits hkb)
    have HS := Lib.hid (serial_fits hs)
    have HK := Lib.hid hk
    obtain ⟨kd0, kd1⟩ := hkd
    obtain ⟨c0, c1, c2, c3, c4, c5, c6, c7⟩ := cmd_cells p1
    have l1 := p1.lt
    clear hm hkb hs hk
    go_wp2_with fail
    refine (refPut_any ((6 : Nat) : Int) (some ⟨w1.heap.size, 0, none⟩) (some ⟨w1.heap.size + 1, 0, none⟩) 1 1 1 1 [k] [b] _ ((lies_byte w1 5 k rfl).alloc _) (lies_int _ 3 b (by simp)) (by omega) (by omega)).mono ?_
    intro e w2 hpost
    obtain ⟨v2, rfl, hown2, hb2⟩ := put_single HB.out hpost
    have b2 : Below w.heap.size w w2 := below_then ((b1.alloc b1.size _).alloc (by have := b1.size; simp; omega) _) hb2
    have p2 := ((p1.alloc (.cells #[.int .u8 k] 5)).alloc (.cells #[.int .i64 b] 3)).below hb2 (by simp; omega)
    rw [show ([k] : List Int).length + 6 = 7 from rfl] at hown2
    obtain ⟨A2, q2, rfl⟩ := own_shape hown2
    have hl2 := Lies.of_own hown2
    obtain ⟨d0, d1, d2, d3, d4, d5, d6, d7⟩ := cmd_cells p2
    have l2 := p2.lt
    clear hpost hown2 hb2 p1 b1 c0 c1 c2 c3 c4 c5 c6 c7 l1
    go_wp2_with fail
    refine (refPut_any ((4 : Nat) : Int) A2 (some ⟨w2.heap.size, 0, none⟩) 7 1 q2 1 ([k] ++ enc 6 b) [s] _ (hl2.alloc _) (lies_int w2 3 s rfl) (by omega) (by omega)).mono ?_
    intro e w3 hpost
    obtain ⟨v3, rfl, hown3, hb3⟩ := put_single HS.out hpost
    have b3 : Below w.heap.size w w3 := below_then (b2.alloc b2.size _) hb3
    have p3 := (p2.alloc (.cells #[.int .i64 s] 3)).below hb3 (by simp; omega)
    rw [show ([k] ++ enc 6 b).length + 4 = 11 by rw [List.length_append, enc_length]; rfl] at hown3
    obtain ⟨A3, q3, rfl⟩ := own_shape hown3
    obtain ⟨c0, c1, c2, c3, c4, c5, c6, c7⟩ := cmd_cells p3
    have l3 := p3.lt
    have HC : Hid (cEnc ⟨k, b, s, d, a, lo, hi, m⟩ = [k] ++ enc 6 b ++ enc 4 s ++ cTail ⟨k, b, s, d, a, lo, hi, m⟩) := by show _ = _; simp [cEnc]
    have hown3 := own_less0 hown3 (show w.heap.size ≤ _ by have := b2.size; simp; omega)
    clear hpost hl2 hb3 p2 b2 d0 d1 d2 d3 d4 d5 d6 d7 l2 HB HS
    rcases HK.out with ⟨h1, h2⟩ | ⟨h1, h2, h3, h4, h5⟩ | ⟨h1, h2, h3, h4, h5⟩ | ⟨h1, h2, h3, h4, h5, h6⟩ | ⟨h1, h2, h3, h4, h5, h6⟩
    · simp only at h1 h2
      have HE : strOfNums ([k] ++ enc 6 b ++ enc 4 s) = cmS ⟨k, b, s, d, a, lo, hi, m⟩ := by
        rw [HV.out.1, HC.out]
        have e1 : cTail ⟨k, b, s, d, a, lo, hi, m⟩ = [] := by unfold cTail; simp only; rw [if_neg (by omega), if_neg (by omega), if_neg (by omega), if_neg (by omega)]
        rw [e1, List.append_nil]
      have k2 : (k == 2) = false := beq_no (by omega)
      have k3 : (k == 3) = false := beq_no (by omega)
      have k4 : (k == 4) = false := beq_no (by omega)
      have k5 : (k == 5) = false := beq_no (by omega)
      clear h1 h2 HK HC kd0 kd1
      have hconv := conv_own (P := Tryd.prog) 50 9 5 Tryd.underlying50 Tryd.underlying5 Tryd.underlying9 hown3
      rw [HE] at hconv
      clear HE
      go_wp2_with fail
      go_ret2
      exact ⟨by rw [HV.out.2] <;> rfl, b3⟩
    · simp only at h1 h2 h3 h4 h5
      obtain rfl : k = 2 := h1
      obtain ⟨h6, h7, h8⟩ := h4
      have z0 : 0 ≤ lo := by omega
      have y0 : lo < 256 := by omega
      have z1 : 0 ≤ hi := by omega
      have y1 : hi < 256 := by omega
      have z2 : 0 ≤ m := by omega
      have y2 : m < 256 := by omega
      have HE : strOfNums ([2] ++ enc 6 b ++ enc 4 s ++ [lo, hi, m]) = cmS ⟨2, b, s, d, a, lo, hi, m⟩ := by
        rw [HV.out.1, HC.out]
        rfl
      obtain ⟨i0, hi0, hz0, hz1, hz2⟩ := info_parts infoByte
      clear h2 h3 h5 h6 h7 h8 HK HC kd0 kd1
      go_wp2_with (at_builtin; refine wpList_append_own _ rfl _ _ 50 rfl w.heap.size 5 i0 (.int .u8 0) 1 1 Tryd.underlying50 hi0 hz0 hz1 hz2 rfl (by decide) _ _ _ rfl (own_up0 hown3 (one_below w3 _)) ⟨w3.heap.size, 0, none⟩ 3 3 ([lo, hi, m].map (Value.int .u8)) rfl rfl (lies_new w3 #[.int .u8 lo, .int .u8 hi, .int .u8 m] 5 (0, 0)).cells0 (bytes_one [lo, hi, m]) ?d1 ?d2 ?d3 ?_)
      case d1 => unfold maxLen; omega
      case d2 => omega
      case d3 => have := b3.size; simp; omega
      intro v4 w4 hown4 hgrow _
      have hown4 : w4.ownsRow w.heap.size 5 1 v4 (11 + 3) (([2] ++ enc 6 b ++ enc 4 s ++ [lo, hi, m]).map (Value.int .u8)) := by rw [List.map_append]; exact hown4
      have b4 : Below w.heap.size w w4 := (b3.alloc b3.size _).grown hgrow (by have := b3.size; simp; omega) (fun j hj => (hown3.lt j hj).1)
      have hconv := conv_own (P := Tryd.prog) 50 9 5 Tryd.underlying50 Tryd.underlying5 Tryd.underlying9 hown4
      rw [HE] at hconv
      clear HE
      go_wp2_with fail
      go_ret2
      exact ⟨by rw [HV.out.2] <;> rfl, b4⟩
    · simp only at h1 h2 h3 h4 h5
      obtain rfl : k = 3 := h1
      obtain ⟨h6, h7, h8⟩ := h4
      have z0 : 0 ≤ lo := by omega
      have y0 : lo < 256 := by omega
      have z1 : 0 ≤ hi := by omega
      have y1 : hi < 256 := by omega
      have HE : strOfNums ([3] ++ enc 6 b ++ enc 4 s ++ [lo, hi]) = cmS ⟨3, b, s, d, a, lo, hi, m⟩ := by
        rw [HV.out.1, HC.out]
        rfl
      obtain ⟨i0, hi0, hz0, hz1, hz2⟩ := info_parts infoByte
      clear h2 h3 h5 h6 h7 h8 HK HC kd0 kd1
      go_wp2_with (at_builtin; refine wpList_append_own _ rfl _ _ 50 rfl w.heap.size 5 i0 (.int .u8 0) 1 1 Tryd.underlying50 hi0 hz0 hz1 hz2 rfl (by decide) _ _ _ rfl (own_up0 hown3 (one_below w3 _)) ⟨w3.heap.size, 0, none⟩ 2 2 ([lo, hi].map (Value.int .u8)) rfl rfl (lies_new w3 #[.int .u8 lo, .int .u8 hi] 5 (0, 0)).cells0 (bytes_one [lo, hi]) ?d1 ?d2 ?d3 ?_)
      case d1 => unfold maxLen; omega
      case d2 => omega
      case d3 => have := b3.size; simp; omega
      intro v4 w4 hown4 hgrow _
      have hown4 : w4.ownsRow w.heap.size 5 1 v4 (11 + 2) (([3] ++ enc 6 b ++ enc 4 s ++ [lo, hi]).map (Value.int .u8)) := by rw [List.map_append]; exact hown4
      have b4 : Below w.heap.size w w4 := (b3.alloc b3.size _).grown hgrow (by have := b3.size; simp; omega) (fun j hj => (hown3.lt j hj).1)
      have hconv := conv_own (P := Tryd.prog) 50 9 5 Tryd.underlying50 Tryd.underlying5 Tryd.underlying9 hown4
      rw [HE] at hconv
      clear HE
      go_wp2_with fail
      go_ret2
      exact ⟨by rw [HV.out.2] <;> rfl, b4⟩
    · simp only at h1 h2 h3 h4 h5 h6
      obtain rfl : k = 4 := h1
      have HD := Lib.hid (key_fits h2)
      have HA : Hid (fitsB ((6 : Nat) : Int) a = true) := by
        rcases h3 with rfl | h3
        · exact fitsB_yes (by omega) (by omega) (by omega) (by simp [mostOf])
        · exact key_fits h3
      have HE : strOfNums ([4] ++ enc 6 b ++ enc 4 s ++ (enc 6 d ++ enc 6 a)) = cmS ⟨4, b, s, d, a, lo, hi, m⟩ := by
        rw [HV.out.1, HC.out]
        rfl
      have hl3 := Lies.of_own hown3
      clear h2 h3 h4 h5 h6 HK HC kd0 kd1
      go_wp2_with fail
      refine (refPut_any ((6 : Nat) : Int) A3 (some ⟨w3.heap.size, 0, none⟩) 11 2 q3 2 ([4] ++ enc 6 b ++ enc 4 s) [d, a] _ (hl3.alloc _) (lies_ints w3 3 d a rfl) (by omega) (by omega)).mono ?_
      intro e w4 hpost
      obtain ⟨v4, rfl, hown4, hb4⟩ := put_two HD.out HA.out hpost
      have b4 : Below w.heap.size w w4 := below_then (b3.alloc b3.size _) hb4
      clear hpost hb4 hl3 hown3
      have hconv := conv_own (P := Tryd.prog) 50 9 5 Tryd.underlying50 Tryd.underlying5 Tryd.underlying9 hown4
      rw [HE] at hconv
      clear HE
      go_wp2_with fail
      go_ret2
      exact ⟨by rw [HV.out.2] <;> rfl, b4⟩
    · simp only at h1 h2 h3 h4 h5 h6
      obtain rfl : k = 5 := h1
      have HD := Lib.hid (key_fits h2)
      have HE : strOfNums ([5] ++ enc 6 b ++ enc 4 s ++ enc 6 d) = cmS ⟨5, b, s, d, a, lo, hi, m⟩ := by
        rw [HV.out.1, HC.out]
        rfl
      have hl3 := Lies.of_own hown3
      clear h2 h3 h4 h5 h6 HK HC kd0 kd1
      go_wp2_with fail
      refine (refPut_any ((6 : Nat) : Int) A3 (some ⟨w3.heap.size, 0, none⟩) 11 1 q3 1 ([5] ++ enc 6 b ++ enc 4 s) [d] _ (hl3.alloc _) (lies_int w3 3 d rfl) (by omega) (by omega)).mono ?_
      intro e w4 hpost
      obtain ⟨v4, rfl, hown4, hb4⟩ := put_single HD.out hpost
      have b4 : Below w.heap.size w w4 := below_then (b3.alloc b3.size _) hb4
      clear hpost hb4 hl3 hown3
      have hconv := conv_own (P := Tryd.prog) 50 9 5 Tryd.underlying50 Tryd.underlying5 Tryd.underlying9 hown4
      rw [HE] at hconv
      clear HE
      go_wp2_with fail
      go_ret2
      exact ⟨by rw [HV.out.2] <;> rfl, b4⟩

end Go.Proofs.YtjdacpnfgpdjhaaDoor

/-
  The document's commands: bytes read as a command: by contract.
-/
namespace Go.Proofs.YtjdacpnfgpdjhaaDoor
open Go.RowKit
set_option linter.unusedVariables false
set_option linter.unusedSimpArgs false

theorem results_pair {P : Program} {fn : Func} {t u : Tmp} {ty : TypeId} (h : fn.results = #[.cell t ty, .tmp u]) {tmps : Array Value} {w : World} {b : Nat} {cs : List Value} {d : TypeDesc} {v : Value}
    (hp : tmps.getD t undef = .pointer (some ⟨b, 0, none⟩)) (hv : tmps.getD u undef = v) (hr : w.rangeAt b 0 cs) (hu : P.underlying ty = some d) (hd : d.isRow = true) (hi : (P.info? ty).map (·.size) = some cs.length) :
    (results fn tmps).run P w = .ok (.tuple #[.agg cs.toArray, v]) w := by
  have hp' : tmps[t]?.getD undef = .pointer (some ⟨b, 0, none⟩) := by simpa using hp
  have hv' : tmps[u]?.getD undef = v := by simpa using hv
  simp [results, h, hp', hv', asAddr, run_loadVar_mid w b 0 ty cs d hr hu hd hi]

/-! ### Texts that are no command -/
theorem rd_key {l : List Int} (h : cKey (dec ((l.drop 1).take 6)) = false) : cRd l = false := by
  rcases hr : cRd l with _ | _
  · rfl
  · have := (cMay_iff.1 (cRd_iff.1 hr).2).1
    have e : (cCand l).by_ = dec ((l.drop 1).take 6) := rfl
    rw [e, h] at this
    cases this
theorem rd_great {l : List Int} (hl : 7 ≤ l.length) (hb : IsBytes l) (h : fitsB ((6 : Nat) : Int) (dec ((l.drop 1).take 6)) = false) : cRd l = false := by
  refine rd_key ?_
  rcases hk : cKey (dec ((l.drop 1).take 6)) with _ | _
  · rfl
  · rw [key_fits hk] at h; cases h
theorem rd_kind {l : List Int} (h : 127 < cKindOf l) : cRd l = false := by
  rcases hr : cRd l with _ | _
  · rfl
  · have := cKind_bd (cMay_iff.1 (cRd_iff.1 hr).2).2.2
    have e : (cCand l).kind = cKindOf l := rfl
    omega
theorem rd_len {l : List Int} (h : l.length ≠ cLen (cKindOf l)) : cRd l = false := by
  rcases hr : cRd l with _ | _
  · rfl
  · exact absurd (cRd_iff.1 hr).1 h
theorem four_fits {l : List Int} (hb : IsBytes l) (hl : l.length = 4) : fitsB ((4 : Nat) : Int) (dec l) = true := by
  obtain ⟨h1, h2⟩ := dec_bd hb
  rw [hl] at h2
  exact fitsB_yes (by omega) (by omega) h1 (by simp [mostOf]; omega)

/-! ### Bytes one by one -/
theorem byte_at (s : ByteArray) (j : Nat) (h : j < s.size) : (bytesI s).getD j 0 = (s[j].toNat : Int) := by
  rw [List.getD]
  unfold bytesI
  rw [List.getElem?_map, Lib.data_getElem? s j h]
  rfl
theorem byte_rest (s : ByteArray) (j : Nat) (h : j < (s.extract 11 s.size).size) : (bytesI s).getD (11 + j) 0 = ((s.extract 11 s.size)[j].toNat : Int) := by
  rw [drop_get, ← bytesI_extract, byte_at _ _ h]
theorem byte_lt (b : UInt8) : b.toNat < 256 := b.toNat_lt
theorem cand_other {l : List Int} {k y z : Int} (h : cKindOf l = k) (h1 : dec ((l.drop 1).take 6) = y) (h2 : dec ((l.drop 7).take 4) = z) (n2 : k ≠ 2) (n3 : k ≠ 3) (n4 : k ≠ 4) (n5 : k ≠ 5) : cCand l = ⟨k, y, z, 0, 0, 0, 0, 0⟩ := by
  unfold cCand
  rw [h, h1, h2, if_neg (by omega), if_neg n4, if_neg (by omega), if_neg (by omega), if_neg n2]
theorem cand_3 {l : List Int} {y z lo hi : Int} (h : cKindOf l = 3) (h1 : dec ((l.drop 1).take 6) = y) (h2 : dec ((l.drop 7).take 4) = z) (h3 : l.getD 11 0 = lo) (h4 : l.getD 12 0 = hi) : cCand l = ⟨3, y, z, 0, 0, lo, hi, 0⟩ := by
  unfold cCand
  rw [h, h1, h2, h3, h4]
  rfl
theorem cand_2 {l : List Int} {y z lo hi m : Int} (h : cKindOf l = 2) (h1 : dec ((l.drop 1).take 6) = y) (h2 : dec ((l.drop 7).take 4) = z) (h3 : l.getD 11 0 = lo) (h4 : l.getD 12 0 = hi) (h5 : l.getD 13 0 = m) : cCand l = ⟨2, y, z, 0, 0, lo, hi, m⟩ := by
  unfold cCand
  rw [h, h1, h2, h3, h4, h5]
  rfl
theorem cand_4 {l : List Int} {y z d a : Int} (h : cKindOf l = 4) (h1 : dec ((l.drop 1).take 6) = y) (h2 : dec ((l.drop 7).take 4) = z) (h3 : dec ((l.drop 11).take 6) = d) (h4 : dec ((l.drop 17).take 6) = a) : cCand l = ⟨4, y, z, d, a, 0, 0, 0⟩ := by
  unfold cCand
  rw [h, h1, h2, h3, h4]
  rfl
theorem cand_5 {l : List Int} {y z d : Int} (h : cKindOf l = 5) (h1 : dec ((l.drop 1).take 6) = y) (h2 : dec ((l.drop 7).take 4) = z) (h3 : dec ((l.drop 11).take 6) = d) : cCand l = ⟨5, y, z, d, 0, 0, 0, 0⟩ := by
  unfold cCand
  rw [h, h1, h2, h3]
  rfl
theorem numK_at {s : List Int} {X k i : Nat} (h : i < k) : (numK s X k)[i]? = some (dec ((s.drop (i * X)).take X)) := by
  unfold numK
  rw [List.getElem?_map, List.getElem?_range h]
  rfl
/-- A mode that may be is less than 128. -/
theorem mode_and {m : Int} (h : m = 1 ∨ m = 2) : bits BinOp.and IntKind.u8 m 127 = m := by
  rcases h with rfl | rfl <;> rfl
theorem mode_wrap {x : Int} (h : x = 1 ∨ x = 2) : IntKind.i8.wrap (bits BinOp.and IntKind.u8 x 127) = x := by
  rcases h with rfl | rfl <;> rfl
theorem mode_of {l : List Int} (hr : cRd l = true) (h : cKindOf l = 2) : l.getD 13 0 = 1 ∨ l.getD 13 0 = 2 := by
  obtain ⟨_, _, hk⟩ := cMay_iff.1 (cRd_iff.1 hr).2
  have e : (cCand l).kind = 2 := h
  have em : (cCand l).mode = l.getD 13 0 := by unfold cCand; simp only; rw [if_pos h]
  rcases hk with ⟨h1 | h1, _⟩ | ⟨_, _, _, _, hm⟩ | ⟨h1, _⟩ | ⟨h1, _⟩ | ⟨h1, _⟩
  · omega
  · omega
  · rwa [em] at hm
  all_goals omega
/-- The rest of a claim's, of a purge's bytes is a row of keys, or 0. -/
theorem rest_row {l : List Int} (hb : IsBytes l) (hr : cRd l = true) (h : cKindOf l = 4 ∨ cKindOf l = 5) : rowB (l.drop 11) 6 = true := by
  obtain ⟨hlen, hm⟩ := cRd_iff.1 hr
  obtain ⟨_, _, hk⟩ := cMay_iff.1 hm
  have f0 : fitsB ((6 : Nat) : Int) 0 = true := fitsB_yes (by omega) (by omega) (by omega) (by simp [mostOf])
  rcases h with h | h
  · rw [h] at hlen
    have h23 : l.length = 23 := hlen
    have e : (cCand l).kind = 4 := h
    have hd : cKey (dec ((l.drop 11).take 6)) = true ∧ (dec ((l.drop 17).take 6) = 0 ∨ cKey (dec ((l.drop 17).take 6)) = true) := by
      have ed : (cCand l).dead = dec ((l.drop 11).take 6) := by unfold cCand; simp only; rw [if_pos (.inl h)]
      have ea : (cCand l).was = dec ((l.drop 17).take 6) := by unfold cCand; simp only; rw [if_pos h]
      rcases hk with ⟨h1 | h1, _⟩ | ⟨h1, _⟩ | ⟨h1, _⟩ | ⟨_, h2, h3, _⟩ | ⟨h1, _⟩
      · omega
      · omega
      · omega
      · omega
      · rw [ed] at h2; rw [ea] at h3; exact ⟨h2, h3⟩
      · omega
    have hn : (l.drop 11).length = 12 := by rw [List.length_drop]; omega
    unfold rowB
    rw [hn]
    have e2 : numK (l.drop 11) 6 2 = [dec ((l.drop 11).take 6), dec ((l.drop 17).take 6)] := by
      rw [numK_succ, numK_succ, numK_zero]
      simp [List.drop_drop]
    show (decide (12 % 6 = 0) && (numK (l.drop 11) 6 2).all (fitsB 6)) = true
    rw [e2]
    have k1 := key_fits hd.1
    have k2 : fitsB ((6 : Nat) : Int) (dec ((l.drop 17).take 6)) = true := by
      rcases hd.2 with h5 | h5
      · rw [h5]; exact f0
      · exact key_fits h5
    show (true && ((fitsB ((6 : Nat) : Int) _) && ((fitsB ((6 : Nat) : Int) _) && true))) = true
    rw [k1, k2]
    rfl
  · rw [h] at hlen
    have h17 : l.length = 17 := hlen
    have e : (cCand l).kind = 5 := h
    have hd : cKey (dec ((l.drop 11).take 6)) = true := by
      have ed : (cCand l).dead = dec ((l.drop 11).take 6) := by unfold cCand; simp only; rw [if_pos (.inr h)]
      rcases hk with ⟨h1 | h1, _⟩ | ⟨h1, _⟩ | ⟨h1, _⟩ | ⟨h1, _⟩ | ⟨_, h2, _⟩
      · omega
      · omega
      · omega
      · omega
      · omega
      · rw [ed] at h2; exact h2
    have hn : (l.drop 11).length = 6 := by rw [List.length_drop]; omega
    unfold rowB
    rw [hn]
    have e2 : numK (l.drop 11) 6 1 = [dec ((l.drop 11).take 6)] := by
      rw [numK_succ, numK_zero]
      simp
    show (decide (6 % 6 = 0) && (numK (l.drop 11) 6 1).all (fitsB 6)) = true
    rw [e2]
    have k1 := key_fits hd
    show (true && ((fitsB ((6 : Nat) : Int) _) && true)) = true
    rw [k1]
    rfl

end Go.Proofs.YtjdacpnfgpdjhaaDoor

/-
  The document's commands: bytes read as a command, an ask: by contract.
-/
namespace Go.Proofs.YtjdacpnfgpdjhaaDoor
open Go.RowKit
set_option linter.unusedVariables false
set_option linter.unusedSimpArgs false

set_option maxRecDepth 100000 in
set_option maxHeartbeats 4000000 in
theorem refRead_2 (s : ByteArray) (w : World) (hs : s.size ≤ 17592186044416) (g11 : 11 ≤ s.size) (hf : fitsB ((6 : Nat) : Int) (dec (((bytesI s).drop 1).take 6)) = true) (hk : cKindOf (bytesI s) = 2) :
    Calls Tryd.prog 25 #[.string s] w fun e w' => e = .returned (.tuple #[.agg (cmdA (crC s)), .int .i64 (crE s)]) ∧ Below w.heap.size w w' := by
  have p0 := Blk.new w #[.int .i8 0, .int .i64 0, .int .i64 0, .int .i64 0, .int .i64 0, .int .i64 0, .int .i64 0, .int .i8 0] 32
  have b0 : Below w.heap.size w (w.alloc (.cells #[.int .i8 0, .int .i64 0, .int .i64 0, .int .i64 0, .int .i64 0, .int .i64 0, .int .i64 0, .int .i8 0] 32)) := one_below _ _
  have HSZ := Lib.hid hs
  have HH := Lib.hid hk
  have hM : s.size ≤ maxLen := by unfold maxLen; omega
  have HM := Lib.hid hM
  clear hM hk
  go_enter Tryd.func25, Tryd.ntmps25
  go_wp2_with fail
  refine (refGet_any s 1 6 _ HM.out (by omega) (by omega)).mono ?_
  rintro e w1 ⟨rfl, rfl⟩
  have H4 := Lib.hid (four_fits (isBytes_take (isBytes_drop (bytesI_bytes s) 7) 4) (by rw [List.length_take, List.length_drop, bytesI_length]; omega))
  have HG4 : Hid (getOut (bytesI s) 7 4 = .returned (.tuple #[.int .i64 (dec (((bytesI s).drop 7).take 4)), .int .i64 0])) := getOut_yes (mayB_yes (by omega) (by omega)) (by omega) (by rw [bytesI_length]; omega) H4.out
  have HG : Hid (getOut (bytesI s) 1 6 = .returned (.tuple #[.int .i64 (dec (((bytesI s).drop 1).take 6)), .int .i64 0])) := getOut_yes (mayB_yes (by omega) (by omega)) (by omega) (by rw [bytesI_length]; omega) hf
  rw [HG.out]
  clear hf
  obtain ⟨BY, hBY⟩ : ∃ x, Hid (dec (((bytesI s).drop 1).take 6) = x) := ⟨_, rfl⟩
  rw [hBY.out]
  go_wp2_with fail
  refine (refGet_any s 7 4 _ HM.out (by omega) (by omega)).mono ?_
  rintro e w1 ⟨rfl, rfl⟩
  rw [HG4.out]
  obtain ⟨SER, hSER⟩ : ∃ x, Hid (dec (((bytesI s).drop 7).take 4) = x) := ⟨_, rfl⟩
  rw [hSER.out]
  clear HG HG4 H4
  have hsz0 : 0 < s.size := by omega
  have hk0s : cKindOf (bytesI s) = (s[0].toNat : Int) := byte_at s 0 hsz0
  have hk127' : (s[0].toNat : Int) ≤ 127 := by rw [← hk0s]; have := HH.out; omega
  have hk0 : (0 : Int) ≤ (s[0].toNat : Int) := by omega
  clear hk0s
  go_upto_region 9 with fail
  obtain ⟨kb, hkb⟩ : ∃ x : Nat, s[0].toNat = x := ⟨_, rfl⟩
  have HK : Hid (cKindOf (bytesI s) = (kb : Int)) := by show _ = _; rw [← hkb]; exact byte_at s 0 hsz0
  rw [hkb] at hk127' hk0 ⊢
  clear hkb
  obtain ⟨W1, hW1⟩ : ∃ W, W = (w.alloc (.cells #[.int .i8 0, .int .i64 0, .int .i64 0, .int .i64 0, .int .i64 0, .int .i64 0, .int .i64 0, .int .i8 0] 32)).alloc (.cells #[.int .i8 (kb : Int), .int .i64 BY, .int .i64 SER, .int .i64 0, .int .i64 0, .int .i64 0, .int .i64 0, .int .i8 0] 32) := ⟨_, rfl⟩
  have b1 : Below w.heap.size w W1 := hW1 ▸ b0.alloc b0.size _
  have p1 : Blk W1 w.heap.size #[.int .i8 0, .int .i64 0, .int .i64 0, .int .i64 0, .int .i64 0, .int .i64 0, .int .i64 0, .int .i8 0] 32 := hW1 ▸ p0.alloc _
  have q1 : Blk W1 (w.heap.size + 1) #[.int .i8 (kb : Int), .int .i64 BY, .int .i64 SER, .int .i64 0, .int .i64 0, .int .i64 0, .int .i64 0, .int .i8 0] 32 := by
    have h := Blk.new (w.alloc (.cells #[.int .i8 0, .int .i64 0, .int .i64 0, .int .i64 0, .int .i64 0, .int .i64 0, .int .i64 0, .int .i8 0] 32)) #[.int .i8 (kb : Int), .int .i64 BY, .int .i64 SER, .int .i64 0, .int .i64 0, .int .i64 0, .int .i64 0, .int .i8 0] 32
    rw [hW1]
    simpa using h
  rw [← hW1]
  clear hW1 p0 b0
  have p0 := p1
  have q0 := q1
  have b0 := b1
  have q1lt := q1.lt
  clear p1 q1 b1
  obtain ⟨c0, c1, c2, c3, c4, c5, c6, c7⟩ := cmd_cells q0
  have f3 := q0.free 3
  have f4 := q0.free 4
  have f5 := q0.free 5
  have f6 := q0.free 6
  have f7 := q0.free 7
  have lq := q0.lt
  have hR2 : (s.extract 11 s.size).size = s.size - 11 := by simp
  have HR2 := Lib.hid hR2
  clear hR2
  have e2 : (kb : Int) = 2 := by rw [← HK.out]; have := HH.out; omega
  by_cases h13 : s.size < 13
  · have hR : cRd (bytesI s) = false := rd_len (by rw [bytesI_length, HK.out, e2]; show s.size ≠ 14; omega)
    have HR := Lib.hid hR
    have k2 : ((kb : Int) == 2) = true := beq_yes e2
    have z : ((s.size - 11 : Nat) : Int) < 2 := by omega
    clear hR h13 e2
    have HV := Lib.hid (cr_no HR.out)
    have hth := p0.there
    have bz := setCells_below [.int .i8 0, .int .i64 0, .int .i64 0, .int .i64 0, .int .i64 0, .int .i64 0, .int .i64 0, .int .i8 0] 0 b0 (Nat.le_refl _)
    go_wp2_with (refine wpList_store_mid (op := ⟨none, .store 32 _ _, _, _, _, none⟩) rfl 32 _ _ (by rfl) w.heap.size 0 #[.int .i8 0, .int .i64 0, .int .i64 0, .int .i64 0, .int .i64 0, .int .i64 0, .int .i64 0, .int .i8 0] (by rfl) (by rfl) (by assumption) (by kernel_rfl) (by kernel_rfl) ?_)
    refine bodyPost_ret (results_pair (cs := [.int .i8 0, .int .i64 0, .int .i64 0, .int .i64 0, .int .i64 0, .int .i64 0, .int .i64 0, .int .i8 0]) Tryd.results25 (by rfl) (by rfl) (World.rangeAt_setCells_same _ _ _ _ hth) Tryd.underlying32 rfl (by kernel_rfl)) rfl ?_
    exact ⟨by rw [HV.out.1, HV.out.2] <;> rfl, bz⟩
  · have h13' : 13 ≤ s.size := by omega
    have H13 := Lib.hid h13'
    have HE := Lib.hid e2
    have k2 : ((kb : Int) == 2) = true := beq_yes e2
    have z : (2 : Int) ≤ ((s.size - 11 : Nat) : Int) := by omega
    have i0 : 0 < (s.extract 11 s.size).size := by rw [HR2.out]; omega
    have i1 : 1 < (s.extract 11 s.size).size := by rw [HR2.out]; omega
    have j0 : 0 < s.size - 11 := by omega
    have j1 : 1 < s.size - 11 := by omega
    have jj1 : (1 : Int) < ((s.size - 11 : Nat) : Int) := by omega
    have w0 : wrap64 ((s.extract 11 s.size)[0].toNat : Int) = ((s.extract 11 s.size)[0].toNat : Int) := IntWalk.wrap64_in _ (by have := byte_lt (s.extract 11 s.size)[0]; omega)
    have w1 : wrap64 ((s.extract 11 s.size)[1].toNat : Int) = ((s.extract 11 s.size)[1].toNat : Int) := IntWalk.wrap64_in _ (by have := byte_lt (s.extract 11 s.size)[1]; omega)
    clear h13 h13' e2
    go_upto_region 14 with fail
    go_region
    obtain ⟨LO, hLO⟩ : ∃ x : Nat, (s.extract 11 s.size)[0].toNat = x := ⟨_, rfl⟩
    obtain ⟨HI, hHI⟩ : ∃ x : Nat, (s.extract 11 s.size)[1].toNat = x := ⟨_, rfl⟩
    have HLO : Hid ((bytesI s).getD 11 0 = (LO : Int)) := by show _ = _; rw [← hLO]; exact byte_rest s 0 i0
    have HHI : Hid ((bytesI s).getD 12 0 = (HI : Int)) := by show _ = _; rw [← hHI]; exact byte_rest s 1 i1
    rw [hLO, hHI]
    clear hLO hHI w0 w1
    obtain ⟨W2, hW2⟩ : ∃ W, W = ((W1.setCell ⟨w.heap.size + 1, 5, none⟩ (.int .i64 (LO : Int))).setCell ⟨w.heap.size + 1, 6, none⟩ (.int .i64 (HI : Int))).drew := ⟨_, rfl⟩
    have p2 : Blk W2 w.heap.size #[.int .i8 0, .int .i64 0, .int .i64 0, .int .i64 0, .int .i64 0, .int .i64 0, .int .i64 0, .int .i8 0] 32 := hW2 ▸ (p0.other (by omega) 5 _).other (by omega) 6 _
    have q2 : Blk W2 (w.heap.size + 1) #[.int .i8 (kb : Int), .int .i64 BY, .int .i64 SER, .int .i64 0, .int .i64 0, .int .i64 (LO : Int), .int .i64 (HI : Int), .int .i8 0] 32 := hW2 ▸ (q0.set 5 _).set 6 _
    have b2 : Below w.heap.size w W2 := hW2 ▸ ((b0.setCell (Nat.le_succ _) _).setCell (Nat.le_succ _) _).drew
    rw [← hW2]
    clear hW2 p0 q0 b0 c0 c1 c2 c3 c4 c5 c6 c7 f3 f4 f5 f6 f7 lq
    have p0 := p2
    have q0 := q2
    have b0 := b2
    clear p2 q2 b2
    obtain ⟨c0, c1, c2, c3, c4, c5, c6, c7⟩ := cmd_cells q0
    have f7 := q0.free 7
    have lq := q0.lt
    by_cases h14 : s.size = 14
    · have z3 : (((s.size - 11 : Nat) : Int) == 3) = true := beq_yes (by omega)
      have jj2 : (2 : Int) < ((s.size - 11 : Nat) : Int) := by omega
      have i2 : 2 < (s.extract 11 s.size).size := by rw [HR2.out]; omega
      have HB13 := Lib.hid (byte_rest s 2 i2)
      clear h14
      obtain ⟨MD, hMD⟩ : ∃ x, IntKind.i8.wrap (bits BinOp.and IntKind.u8 ((s.extract 11 s.size)[2].toNat : Int) 127) = x := ⟨_, rfl⟩
      have HD : Hid (cRd (bytesI s) = true → cCand (bytesI s) = ⟨(kb : Int), BY, SER, 0, 0, (LO : Int), (HI : Int), MD⟩) := fun hr => by
        rw [HE.out]
        exact cand_2 (HK.out.trans HE.out) hBY.out hSER.out HLO.out HHI.out (by
            have h1 := mode_of hr (HK.out.trans HE.out)
            have h2 : (bytesI s).getD 13 0 = ((s.extract 11 s.size)[2].toNat : Int) := HB13.out
            rw [← hMD, h2]
            rw [h2] at h1
            exact (mode_wrap h1).symm)
      have HMD := Lib.hid hMD
      clear hMD
      go_wp2_with fail
      rw [HMD.out]
      obtain ⟨W3, hW3⟩ : ∃ W, W = W2.setCell ⟨w.heap.size + 1, 7, none⟩ (.int .i8 MD) := ⟨_, rfl⟩
      have p2 : Blk W3 w.heap.size #[.int .i8 0, .int .i64 0, .int .i64 0, .int .i64 0, .int .i64 0, .int .i64 0, .int .i64 0, .int .i8 0] 32 := hW3 ▸ p0.other (by omega) 7 _
      have q2 : Blk W3 (w.heap.size + 1) #[.int .i8 (kb : Int), .int .i64 BY, .int .i64 SER, .int .i64 0, .int .i64 0, .int .i64 (LO : Int), .int .i64 (HI : Int), .int .i8 MD] 32 := hW3 ▸ q0.set 7 _
      have b2 : Below w.heap.size w W3 := hW3 ▸ b0.setCell (Nat.le_succ _) _
      rw [← hW3]
      clear hW3 p0 q0 b0 c0 c1 c2 c3 c4 c5 c6 c7 f7 lq
      have p0 := p2
      have q0 := q2
      have b0 := b2
      clear p2 q2 b2
      refine (refBytes_any ((kb : Int)) (BY) (SER) (0) (0) ((LO : Int)) ((HI : Int)) (MD) _).mono ?_
      rintro e w9 ⟨rfl, hb9⟩
      have p9 := p0.below hb9 p0.lt
      have q9 := q0.below hb9 q0.lt
      have b9 := below_then b0 hb9
      obtain ⟨g0, g1, g2, g3, g4, g5, g6, g7⟩ := cmd_cells q9
      have lq9 := q9.lt
      clear p0 q0 b0 hb9
      cases hm : cMay ⟨(kb : Int), BY, SER, 0, 0, (LO : Int), (HI : Int), MD⟩ with
      | false =>
        have HN := Lib.hid (cr_off HD.out (.inl hm))
        have HC := Lib.hid (cm_no hm)
        rw [HC.out.1, HC.out.2]
        clear hm
        have HV := Lib.hid (cr_no HN.out)
        have hth := p9.there
        have bz := setCells_below [.int .i8 0, .int .i64 0, .int .i64 0, .int .i64 0, .int .i64 0, .int .i64 0, .int .i64 0, .int .i8 0] 0 b9 (Nat.le_refl _)
        go_wp2_with (refine wpList_store_mid (op := ⟨none, .store 32 _ _, _, _, _, none⟩) rfl 32 _ _ (by rfl) w.heap.size 0 #[.int .i8 0, .int .i64 0, .int .i64 0, .int .i64 0, .int .i64 0, .int .i64 0, .int .i64 0, .int .i8 0] (by rfl) (by rfl) (by assumption) (by kernel_rfl) (by kernel_rfl) ?_)
        refine bodyPost_ret (results_pair (cs := [.int .i8 0, .int .i64 0, .int .i64 0, .int .i64 0, .int .i64 0, .int .i64 0, .int .i64 0, .int .i8 0]) Tryd.results25 (by rfl) (by rfl) (World.rangeAt_setCells_same _ _ _ _ hth) Tryd.underlying32 rfl (by kernel_rfl)) rfl ?_
        exact ⟨by rw [HV.out.1, HV.out.2] <;> rfl, bz⟩
      | true =>
        have HC := Lib.hid (cm_yes hm)
        have HM2 := Lib.hid hm
        rw [HC.out.2]
        obtain ⟨SS, hS⟩ : ∃ S, Hid (cmS ⟨(kb : Int), BY, SER, 0, 0, (LO : Int), (HI : Int), MD⟩ = S) := ⟨_, rfl⟩
        rw [hS.out]
        clear hm
        by_cases he : SS = s
        · have HV := Lib.hid (cr_of HM2.out (hS.out.trans he))
          have hss : (SS.toList == s.toList) = true := by rw [he]; exact str_same _
          clear he
          have hth := p9.there
          have bz := setCells_below [.int .i8 (kb : Int), .int .i64 BY, .int .i64 SER, .int .i64 0, .int .i64 0, .int .i64 (LO : Int), .int .i64 (HI : Int), .int .i8 MD] 0 b9 (Nat.le_refl _)
          go_wp2_with (refine wpList_store_mid (op := ⟨none, .store 32 _ _, _, _, _, none⟩) rfl 32 _ _ (by rfl) w.heap.size 0 #[.int .i8 (kb : Int), .int .i64 BY, .int .i64 SER, .int .i64 0, .int .i64 0, .int .i64 (LO : Int), .int .i64 (HI : Int), .int .i8 MD] (by rfl) (by rfl) (by assumption) (by kernel_rfl) (by kernel_rfl) ?_)
          refine bodyPost_ret (results_pair (cs := [.int .i8 (kb : Int), .int .i64 BY, .int .i64 SER, .int .i64 0, .int .i64 0, .int .i64 (LO : Int), .int .i64 (HI : Int), .int .i8 MD]) Tryd.results25 (by rfl) (by rfl) (World.rangeAt_setCells_same _ _ _ _ hth) Tryd.underlying32 rfl (by kernel_rfl)) rfl ?_
          exact ⟨by rw [HV.out.2.1, HV.out.2.2] <;> rfl, bz⟩
        · have HN := Lib.hid (cr_off HD.out (.inr (by rw [hS.out]; exact he)))
          have hss : (SS.toList == s.toList) = false := str_diff he
          clear he
          have HV := Lib.hid (cr_no HN.out)
          have hth := p9.there
          have bz := setCells_below [.int .i8 0, .int .i64 0, .int .i64 0, .int .i64 0, .int .i64 0, .int .i64 0, .int .i64 0, .int .i8 0] 0 b9 (Nat.le_refl _)
          go_wp2_with (refine wpList_store_mid (op := ⟨none, .store 32 _ _, _, _, _, none⟩) rfl 32 _ _ (by rfl) w.heap.size 0 #[.int .i8 0, .int .i64 0, .int .i64 0, .int .i64 0, .int .i64 0, .int .i64 0, .int .i64 0, .int .i8 0] (by rfl) (by rfl) (by assumption) (by kernel_rfl) (by kernel_rfl) ?_)
          refine bodyPost_ret (results_pair (cs := [.int .i8 0, .int .i64 0, .int .i64 0, .int .i64 0, .int .i64 0, .int .i64 0, .int .i64 0, .int .i8 0]) Tryd.results25 (by rfl) (by rfl) (World.rangeAt_setCells_same _ _ _ _ hth) Tryd.underlying32 rfl (by kernel_rfl)) rfl ?_
          exact ⟨by rw [HV.out.1, HV.out.2] <;> rfl, bz⟩
    · have z3 : (((s.size - 11 : Nat) : Int) == 3) = false := beq_no (by omega)
      have HD : Hid (cRd (bytesI s) = true → cCand (bytesI s) = ⟨(kb : Int), BY, SER, 0, 0, (LO : Int), (HI : Int), 0⟩) := fun hr => by
        have h1 : cRd (bytesI s) = false := rd_len (by rw [bytesI_length, HK.out, HE.out]; show s.size ≠ 14; exact h14)
        rw [h1] at hr
        cases hr
      clear h14
      go_wp2_with fail
      refine (refBytes_any ((kb : Int)) (BY) (SER) (0) (0) ((LO : Int)) ((HI : Int)) (0) _).mono ?_
      rintro e w9 ⟨rfl, hb9⟩
      have p9 := p0.below hb9 p0.lt
      have q9 := q0.below hb9 q0.lt
      have b9 := below_then b0 hb9
      obtain ⟨g0, g1, g2, g3, g4, g5, g6, g7⟩ := cmd_cells q9
      have lq9 := q9.lt
      clear p0 q0 b0 hb9
      cases hm : cMay ⟨(kb : Int), BY, SER, 0, 0, (LO : Int), (HI : Int), 0⟩ with
      | false =>
        have HN := Lib.hid (cr_off HD.out (.inl hm))
        have HC := Lib.hid (cm_no hm)
        rw [HC.out.1, HC.out.2]
        clear hm
        have HV := Lib.hid (cr_no HN.out)
        have hth := p9.there
        have bz := setCells_below [.int .i8 0, .int .i64 0, .int .i64 0, .int .i64 0, .int .i64 0, .int .i64 0, .int .i64 0, .int .i8 0] 0 b9 (Nat.le_refl _)
        go_wp2_with (refine wpList_store_mid (op := ⟨none, .store 32 _ _, _, _, _, none⟩) rfl 32 _ _ (by rfl) w.heap.size 0 #[.int .i8 0, .int .i64 0, .int .i64 0, .int .i64 0, .int .i64 0, .int .i64 0, .int .i64 0, .int .i8 0] (by rfl) (by rfl) (by assumption) (by kernel_rfl) (by kernel_rfl) ?_)
        refine bodyPost_ret (results_pair (cs := [.int .i8 0, .int .i64 0, .int .i64 0, .int .i64 0, .int .i64 0, .int .i64 0, .int .i64 0, .int .i8 0]) Tryd.results25 (by rfl) (by rfl) (World.rangeAt_setCells_same _ _ _ _ hth) Tryd.underlying32 rfl (by kernel_rfl)) rfl ?_
        exact ⟨by rw [HV.out.1, HV.out.2] <;> rfl, bz⟩
      | true =>
        have HC := Lib.hid (cm_yes hm)
        have HM2 := Lib.hid hm
        rw [HC.out.2]
        obtain ⟨SS, hS⟩ : ∃ S, Hid (cmS ⟨(kb : Int), BY, SER, 0, 0, (LO : Int), (HI : Int), 0⟩ = S) := ⟨_, rfl⟩
        rw [hS.out]
        clear hm
        by_cases he : SS = s
        · have HV := Lib.hid (cr_of HM2.out (hS.out.trans he))
          have hss : (SS.toList == s.toList) = true := by rw [he]; exact str_same _
          clear he
          have hth := p9.there
          have bz := setCells_below [.int .i8 (kb : Int), .int .i64 BY, .int .i64 SER, .int .i64 0, .int .i64 0, .int .i64 (LO : Int), .int .i64 (HI : Int), .int .i8 0] 0 b9 (Nat.le_refl _)
          go_wp2_with (refine wpList_store_mid (op := ⟨none, .store 32 _ _, _, _, _, none⟩) rfl 32 _ _ (by rfl) w.heap.size 0 #[.int .i8 (kb : Int), .int .i64 BY, .int .i64 SER, .int .i64 0, .int .i64 0, .int .i64 (LO : Int), .int .i64 (HI : Int), .int .i8 0] (by rfl) (by rfl) (by assumption) (by kernel_rfl) (by kernel_rfl) ?_)
          refine bodyPost_ret (results_pair (cs := [.int .i8 (kb : Int), .int .i64 BY, .int .i64 SER, .int .i64 0, .int .i64 0, .int .i64 (LO : Int), .int .i64 (HI : Int), .int .i8 0]) Tryd.results25 (by rfl) (by rfl) (World.rangeAt_setCells_same _ _ _ _ hth) Tryd.underlying32 rfl (by kernel_rfl)) rfl ?_
          exact ⟨by rw [HV.out.2.1, HV.out.2.2] <;> rfl, bz⟩
        · have HN := Lib.hid (cr_off HD.out (.inr (by rw [hS.out]; exact he)))
          have hss : (SS.toList == s.toList) = false := str_diff he
          clear he
          have HV := Lib.hid (cr_no HN.out)
          have hth := p9.there
          have bz := setCells_below [.int .i8 0, .int .i64 0, .int .i64 0, .int .i64 0, .int .i64 0, .int .i64 0, .int .i64 0, .int .i8 0] 0 b9 (Nat.le_refl _)
          go_wp2_with (refine wpList_store_mid (op := ⟨none, .store 32 _ _, _, _, _, none⟩) rfl 32 _ _ (by rfl) w.heap.size 0 #[.int .i8 0, .int .i64 0, .int .i64 0, .int .i64 0, .int .i64 0, .int .i64 0, .int .i64 0, .int .i8 0] (by rfl) (by rfl) (by assumption) (by kernel_rfl) (by kernel_rfl) ?_)
          refine bodyPost_ret (results_pair (cs := [.int .i8 0, .int .i64 0, .int .i64 0, .int .i64 0, .int .i64 0, .int .i64 0, .int .i64 0, .int .i8 0]) Tryd.results25 (by rfl) (by rfl) (World.rangeAt_setCells_same _ _ _ _ hth) Tryd.underlying32 rfl (by kernel_rfl)) rfl ?_
          exact ⟨by rw [HV.out.1, HV.out.2] <;> rfl, bz⟩

end Go.Proofs.YtjdacpnfgpdjhaaDoor

/-
  The document's commands: bytes read as a command, a free: by contract.
-/
namespace Go.Proofs.YtjdacpnfgpdjhaaDoor
open Go.RowKit
set_option linter.unusedVariables false
set_option linter.unusedSimpArgs false

set_option maxRecDepth 100000 in
set_option maxHeartbeats 4000000 in
theorem refRead_3 (s : ByteArray) (w : World) (hs : s.size ≤ 17592186044416) (g11 : 11 ≤ s.size) (hf : fitsB ((6 : Nat) : Int) (dec (((bytesI s).drop 1).take 6)) = true) (hk : cKindOf (bytesI s) = 3) :
    Calls Tryd.prog 25 #[.string s] w fun e w' => e = .returned (.tuple #[.agg (cmdA (crC s)), .int .i64 (crE s)]) ∧ Below w.heap.size w w' := by
  have p0 := Blk.new w #[.int .i8 0, .int .i64 0, .int .i64 0, .int .i64 0, .int .i64 0, .int .i64 0, .int .i64 0, .int .i8 0] 32
  have b0 : Below w.heap.size w (w.alloc (.cells #[.int .i8 0, .int .i64 0, .int .i64 0, .int .i64 0, .int .i64 0, .int .i64 0, .int .i64 0, .int .i8 0] 32)) := one_below _ _
  have HSZ := Lib.hid hs
  have HH := Lib.hid hk
  have hM : s.size ≤ maxLen := by unfold maxLen; omega
  have HM := Lib.hid hM
  clear hM hk
  go_enter Tryd.func25, Tryd.ntmps25
  go_wp2_with fail
  refine (refGet_any s 1 6 _ HM.out (by omega) (by omega)).mono ?_
  rintro e w1 ⟨rfl, rfl⟩
  have H4 := Lib.hid (four_fits (isBytes_take (isBytes_drop (bytesI_bytes s) 7) 4) (by rw [List.length_take, List.length_drop, bytesI_length]; omega))
  have HG4 : Hid (getOut (bytesI s) 7 4 = .returned (.tuple #[.int .i64 (dec (((bytesI s).drop 7).take 4)), .int .i64 0])) := getOut_yes (mayB_yes (by omega) (by omega)) (by omega) (by rw [bytesI_length]; omega) H4.out
  have HG : Hid (getOut (bytesI s) 1 6 = .returned (.tuple #[.int .i64 (dec (((bytesI s).drop 1).take 6)), .int .i64 0])) := getOut_yes (mayB_yes (by omega) (by omega)) (by omega) (by rw [bytesI_length]; omega) hf
  rw [HG.out]
  clear hf
  obtain ⟨BY, hBY⟩ : ∃ x, Hid (dec (((bytesI s).drop 1).take 6) = x) := ⟨_, rfl⟩
  rw [hBY.out]
  go_wp2_with fail
  refine (refGet_any s 7 4 _ HM.out (by omega) (by omega)).mono ?_
  rintro e w1 ⟨rfl, rfl⟩
  rw [HG4.out]
  obtain ⟨SER, hSER⟩ : ∃ x, Hid (dec (((bytesI s).drop 7).take 4) = x) := ⟨_, rfl⟩
  rw [hSER.out]
  clear HG HG4 H4
  have hsz0 : 0 < s.size := by omega
  have hk0s : cKindOf (bytesI s) = (s[0].toNat : Int) := byte_at s 0 hsz0
  have hk127' : (s[0].toNat : Int) ≤ 127 := by rw [← hk0s]; have := HH.out; omega
  have hk0 : (0 : Int) ≤ (s[0].toNat : Int) := by omega
  clear hk0s
  go_upto_region 9 with fail
  obtain ⟨kb, hkb⟩ : ∃ x : Nat, s[0].toNat = x := ⟨_, rfl⟩
  have HK : Hid (cKindOf (bytesI s) = (kb : Int)) := by show _ = _; rw [← hkb]; exact byte_at s 0 hsz0
  rw [hkb] at hk127' hk0 ⊢
  clear hkb
  obtain ⟨W1, hW1⟩ : ∃ W, W = (w.alloc (.cells #[.int .i8 0, .int .i64 0, .int .i64 0, .int .i64 0, .int .i64 0, .int .i64 0, .int .i64 0, .int .i8 0] 32)).alloc (.cells #[.int .i8 (kb : Int), .int .i64 BY, .int .i64 SER, .int .i64 0, .int .i64 0, .int .i64 0, .int .i64 0, .int .i8 0] 32) := ⟨_, rfl⟩
  have b1 : Below w.heap.size w W1 := hW1 ▸ b0.alloc b0.size _
  have p1 : Blk W1 w.heap.size #[.int .i8 0, .int .i64 0, .int .i64 0, .int .i64 0, .int .i64 0, .int .i64 0, .int .i64 0, .int .i8 0] 32 := hW1 ▸ p0.alloc _
  have q1 : Blk W1 (w.heap.size + 1) #[.int .i8 (kb : Int), .int .i64 BY, .int .i64 SER, .int .i64 0, .int .i64 0, .int .i64 0, .int .i64 0, .int .i8 0] 32 := by
    have h := Blk.new (w.alloc (.cells #[.int .i8 0, .int .i64 0, .int .i64 0, .int .i64 0, .int .i64 0, .int .i64 0, .int .i64 0, .int .i8 0] 32)) #[.int .i8 (kb : Int), .int .i64 BY, .int .i64 SER, .int .i64 0, .int .i64 0, .int .i64 0, .int .i64 0, .int .i8 0] 32
    rw [hW1]
    simpa using h
  rw [← hW1]
  clear hW1 p0 b0
  have p0 := p1
  have q0 := q1
  have b0 := b1
  have q1lt := q1.lt
  clear p1 q1 b1
  obtain ⟨c0, c1, c2, c3, c4, c5, c6, c7⟩ := cmd_cells q0
  have f3 := q0.free 3
  have f4 := q0.free 4
  have f5 := q0.free 5
  have f6 := q0.free 6
  have f7 := q0.free 7
  have lq := q0.lt
  have hR2 : (s.extract 11 s.size).size = s.size - 11 := by simp
  have HR2 := Lib.hid hR2
  clear hR2
  have e2 : ¬ (kb : Int) = 2 := by rw [← HK.out]; have := HH.out; omega
  have e3 : (kb : Int) = 3 := by rw [← HK.out]; have := HH.out; omega
  by_cases h13 : s.size < 13
  · have hR : cRd (bytesI s) = false := rd_len (by rw [bytesI_length, HK.out, e3]; show s.size ≠ 13; omega)
    have HR := Lib.hid hR
    have k2 : ((kb : Int) == 2) = false := beq_no e2
    have k3 : ((kb : Int) == 3) = true := beq_yes e3
    have z : ((s.size - 11 : Nat) : Int) < 2 := by omega
    clear hR h13 e2 e3
    have HV := Lib.hid (cr_no HR.out)
    have hth := p0.there
    have bz := setCells_below [.int .i8 0, .int .i64 0, .int .i64 0, .int .i64 0, .int .i64 0, .int .i64 0, .int .i64 0, .int .i8 0] 0 b0 (Nat.le_refl _)
    go_wp2_with (refine wpList_store_mid (op := ⟨none, .store 32 _ _, _, _, _, none⟩) rfl 32 _ _ (by rfl) w.heap.size 0 #[.int .i8 0, .int .i64 0, .int .i64 0, .int .i64 0, .int .i64 0, .int .i64 0, .int .i64 0, .int .i8 0] (by rfl) (by rfl) (by assumption) (by kernel_rfl) (by kernel_rfl) ?_)
    refine bodyPost_ret (results_pair (cs := [.int .i8 0, .int .i64 0, .int .i64 0, .int .i64 0, .int .i64 0, .int .i64 0, .int .i64 0, .int .i8 0]) Tryd.results25 (by rfl) (by rfl) (World.rangeAt_setCells_same _ _ _ _ hth) Tryd.underlying32 rfl (by kernel_rfl)) rfl ?_
    exact ⟨by rw [HV.out.1, HV.out.2] <;> rfl, bz⟩
  · have h13' : 13 ≤ s.size := by omega
    have H13 := Lib.hid h13'
    have HE := Lib.hid e3
    have k2 : ((kb : Int) == 2) = false := beq_no e2
    have k3 : ((kb : Int) == 3) = true := beq_yes e3
    have z : (2 : Int) ≤ ((s.size - 11 : Nat) : Int) := by omega
    have i0 : 0 < (s.extract 11 s.size).size := by rw [HR2.out]; omega
    have i1 : 1 < (s.extract 11 s.size).size := by rw [HR2.out]; omega
    have j0 : 0 < s.size - 11 := by omega
    have j1 : 1 < s.size - 11 := by omega
    have jj1 : (1 : Int) < ((s.size - 11 : Nat) : Int) := by omega
    have w0 : wrap64 ((s.extract 11 s.size)[0].toNat : Int) = ((s.extract 11 s.size)[0].toNat : Int) := IntWalk.wrap64_in _ (by have := byte_lt (s.extract 11 s.size)[0]; omega)
    have w1 : wrap64 ((s.extract 11 s.size)[1].toNat : Int) = ((s.extract 11 s.size)[1].toNat : Int) := IntWalk.wrap64_in _ (by have := byte_lt (s.extract 11 s.size)[1]; omega)
    clear h13 h13' e2 e3
    go_upto_region 14 with fail
    go_region
    obtain ⟨LO, hLO⟩ : ∃ x : Nat, (s.extract 11 s.size)[0].toNat = x := ⟨_, rfl⟩
    obtain ⟨HI, hHI⟩ : ∃ x : Nat, (s.extract 11 s.size)[1].toNat = x := ⟨_, rfl⟩
    have HLO : Hid ((bytesI s).getD 11 0 = (LO : Int)) := by show _ = _; rw [← hLO]; exact byte_rest s 0 i0
    have HHI : Hid ((bytesI s).getD 12 0 = (HI : Int)) := by show _ = _; rw [← hHI]; exact byte_rest s 1 i1
    rw [hLO, hHI]
    clear hLO hHI w0 w1
    obtain ⟨W2, hW2⟩ : ∃ W, W = ((W1.setCell ⟨w.heap.size + 1, 5, none⟩ (.int .i64 (LO : Int))).setCell ⟨w.heap.size + 1, 6, none⟩ (.int .i64 (HI : Int))).drew := ⟨_, rfl⟩
    have p2 : Blk W2 w.heap.size #[.int .i8 0, .int .i64 0, .int .i64 0, .int .i64 0, .int .i64 0, .int .i64 0, .int .i64 0, .int .i8 0] 32 := hW2 ▸ (p0.other (by omega) 5 _).other (by omega) 6 _
    have q2 : Blk W2 (w.heap.size + 1) #[.int .i8 (kb : Int), .int .i64 BY, .int .i64 SER, .int .i64 0, .int .i64 0, .int .i64 (LO : Int), .int .i64 (HI : Int), .int .i8 0] 32 := hW2 ▸ (q0.set 5 _).set 6 _
    have b2 : Below w.heap.size w W2 := hW2 ▸ ((b0.setCell (Nat.le_succ _) _).setCell (Nat.le_succ _) _).drew
    rw [← hW2]
    clear hW2 p0 q0 b0 c0 c1 c2 c3 c4 c5 c6 c7 f3 f4 f5 f6 f7 lq
    have p0 := p2
    have q0 := q2
    have b0 := b2
    clear p2 q2 b2
    obtain ⟨c0, c1, c2, c3, c4, c5, c6, c7⟩ := cmd_cells q0
    have f7 := q0.free 7
    have lq := q0.lt
    have HD : Hid (cRd (bytesI s) = true → cCand (bytesI s) = ⟨(kb : Int), BY, SER, 0, 0, (LO : Int), (HI : Int), 0⟩) := fun hr => by
      rw [HE.out]
      exact cand_3 (HK.out.trans HE.out) hBY.out hSER.out HLO.out HHI.out
    go_wp2_with fail
    refine (refBytes_any ((kb : Int)) (BY) (SER) (0) (0) ((LO : Int)) ((HI : Int)) (0) _).mono ?_
    rintro e w9 ⟨rfl, hb9⟩
    have p9 := p0.below hb9 p0.lt
    have q9 := q0.below hb9 q0.lt
    have b9 := below_then b0 hb9
    obtain ⟨g0, g1, g2, g3, g4, g5, g6, g7⟩ := cmd_cells q9
    have lq9 := q9.lt
    clear p0 q0 b0 hb9
    cases hm : cMay ⟨(kb : Int), BY, SER, 0, 0, (LO : Int), (HI : Int), 0⟩ with
    | false =>
      have HN := Lib.hid (cr_off HD.out (.inl hm))
      have HC := Lib.hid (cm_no hm)
      rw [HC.out.1, HC.out.2]
      clear hm
      have HV := Lib.hid (cr_no HN.out)
      have hth := p9.there
      have bz := setCells_below [.int .i8 0, .int .i64 0, .int .i64 0, .int .i64 0, .int .i64 0, .int .i64 0, .int .i64 0, .int .i8 0] 0 b9 (Nat.le_refl _)
      go_wp2_with (refine wpList_store_mid (op := ⟨none, .store 32 _ _, _, _, _, none⟩) rfl 32 _ _ (by rfl) w.heap.size 0 #[.int .i8 0, .int .i64 0, .int .i64 0, .int .i64 0, .int .i64 0, .int .i64 0, .int .i64 0, .int .i8 0] (by rfl) (by rfl) (by assumption) (by kernel_rfl) (by kernel_rfl) ?_)
      refine bodyPost_ret (results_pair (cs := [.int .i8 0, .int .i64 0, .int .i64 0, .int .i64 0, .int .i64 0, .int .i64 0, .int .i64 0, .int .i8 0]) Tryd.results25 (by rfl) (by rfl) (World.rangeAt_setCells_same _ _ _ _ hth) Tryd.underlying32 rfl (by kernel_rfl)) rfl ?_
      exact ⟨by rw [HV.out.1, HV.out.2] <;> rfl, bz⟩
    | true =>
      have HC := Lib.hid (cm_yes hm)
      have HM2 := Lib.hid hm
      rw [HC.out.2]
      obtain ⟨SS, hS⟩ : ∃ S, Hid (cmS ⟨(kb : Int), BY, SER, 0, 0, (LO : Int), (HI : Int), 0⟩ = S) := ⟨_, rfl⟩
      rw [hS.out]
      clear hm
      by_cases he : SS = s
      · have HV := Lib.hid (cr_of HM2.out (hS.out.trans he))
        have hss : (SS.toList == s.toList) = true := by rw [he]; exact str_same _
        clear he
        have hth := p9.there
        have bz := setCells_below [.int .i8 (kb : Int), .int .i64 BY, .int .i64 SER, .int .i64 0, .int .i64 0, .int .i64 (LO : Int), .int .i64 (HI : Int), .int .i8 0] 0 b9 (Nat.le_refl _)
        go_wp2_with (refine wpList_store_mid (op := ⟨none, .store 32 _ _, _, _, _, none⟩) rfl 32 _ _ (by rfl) w.heap.size 0 #[.int .i8 (kb : Int), .int .i64 BY, .int .i64 SER, .int .i64 0, .int .i64 0, .int .i64 (LO : Int), .int .i64 (HI : Int), .int .i8 0] (by rfl) (by rfl) (by assumption) (by kernel_rfl) (by kernel_rfl) ?_)
        refine bodyPost_ret (results_pair (cs := [.int .i8 (kb : Int), .int .i64 BY, .int .i64 SER, .int .i64 0, .int .i64 0, .int .i64 (LO : Int), .int .i64 (HI : Int), .int .i8 0]) Tryd.results25 (by rfl) (by rfl) (World.rangeAt_setCells_same _ _ _ _ hth) Tryd.underlying32 rfl (by kernel_rfl)) rfl ?_
        exact ⟨by rw [HV.out.2.1, HV.out.2.2] <;> rfl, bz⟩
      · have HN := Lib.hid (cr_off HD.out (.inr (by rw [hS.out]; exact he)))
        have hss : (SS.toList == s.toList) = false := str_diff he
        clear he
        have HV := Lib.hid (cr_no HN.out)
        have hth := p9.there
        have bz := setCells_below [.int .i8 0, .int .i64 0, .int .i64 0, .int .i64 0, .int .i64 0, .int .i64 0, .int .i64 0, .int .i8 0] 0 b9 (Nat.le_refl _)
        go_wp2_with (refine wpList_store_mid (op := ⟨none, .store 32 _ _, _, _, _, none⟩) rfl 32 _ _ (by rfl) w.heap.size 0 #[.int .i8 0, .int .i64 0, .int .i64 0, .int .i64 0, .int .i64 0, .int .i64 0, .int .i64 0, .int .i8 0] (by rfl) (by rfl) (by assumption) (by kernel_rfl) (by kernel_rfl) ?_)
        refine bodyPost_ret (results_pair (cs := [.int .i8 0, .int .i64 0, .int .i64 0, .int .i64 0, .int .i64 0, .int .i64 0, .int .i64 0, .int .i8 0]) Tryd.results25 (by rfl) (by rfl) (World.rangeAt_setCells_same _ _ _ _ hth) Tryd.underlying32 rfl (by kernel_rfl)) rfl ?_
        exact ⟨by rw [HV.out.1, HV.out.2] <;> rfl, bz⟩

end Go.Proofs.YtjdacpnfgpdjhaaDoor

/-
  The document's commands: bytes read as a command, a claim: by contract.
-/
namespace Go.Proofs.YtjdacpnfgpdjhaaDoor
open Go.RowKit
set_option linter.unusedVariables false
set_option linter.unusedSimpArgs false

set_option maxRecDepth 100000 in
set_option maxHeartbeats 4000000 in
theorem refRead_4 (s : ByteArray) (w : World) (hs : s.size ≤ 17592186044416) (g11 : 11 ≤ s.size) (hf : fitsB ((6 : Nat) : Int) (dec (((bytesI s).drop 1).take 6)) = true) (hk : cKindOf (bytesI s) = 4) :
    Calls Tryd.prog 25 #[.string s] w fun e w' => e = .returned (.tuple #[.agg (cmdA (crC s)), .int .i64 (crE s)]) ∧ Below w.heap.size w w' := by
  have p0 := Blk.new w #[.int .i8 0, .int .i64 0, .int .i64 0, .int .i64 0, .int .i64 0, .int .i64 0, .int .i64 0, .int .i8 0] 32
  have b0 : Below w.heap.size w (w.alloc (.cells #[.int .i8 0, .int .i64 0, .int .i64 0, .int .i64 0, .int .i64 0, .int .i64 0, .int .i64 0, .int .i8 0] 32)) := one_below _ _
  have HSZ := Lib.hid hs
  have HH := Lib.hid hk
  have hM : s.size ≤ maxLen := by unfold maxLen; omega
  have HM := Lib.hid hM
  clear hM hk
  go_enter Tryd.func25, Tryd.ntmps25
  go_wp2_with fail
  refine (refGet_any s 1 6 _ HM.out (by omega) (by omega)).mono ?_
  rintro e w1 ⟨rfl, rfl⟩
  have H4 := Lib.hid (four_fits (isBytes_take (isBytes_drop (bytesI_bytes s) 7) 4) (by rw [List.length_take, List.length_drop, bytesI_length]; omega))
  have HG4 : Hid (getOut (bytesI s) 7 4 = .returned (.tuple #[.int .i64 (dec (((bytesI s).drop 7).take 4)), .int .i64 0])) := getOut_yes (mayB_yes (by omega) (by omega)) (by omega) (by rw [bytesI_length]; omega) H4.out
  have HG : Hid (getOut (bytesI s) 1 6 = .returned (.tuple #[.int .i64 (dec (((bytesI s).drop 1).take 6)), .int .i64 0])) := getOut_yes (mayB_yes (by omega) (by omega)) (by omega) (by rw [bytesI_length]; omega) hf
  rw [HG.out]
  clear hf
  obtain ⟨BY, hBY⟩ : ∃ x, Hid (dec (((bytesI s).drop 1).take 6) = x) := ⟨_, rfl⟩
  rw [hBY.out]
  go_wp2_with fail
  refine (refGet_any s 7 4 _ HM.out (by omega) (by omega)).mono ?_
  rintro e w1 ⟨rfl, rfl⟩
  rw [HG4.out]
  obtain ⟨SER, hSER⟩ : ∃ x, Hid (dec (((bytesI s).drop 7).take 4) = x) := ⟨_, rfl⟩
  rw [hSER.out]
  clear HG HG4 H4
  have hsz0 : 0 < s.size := by omega
  have hk0s : cKindOf (bytesI s) = (s[0].toNat : Int) := byte_at s 0 hsz0
  have hk127' : (s[0].toNat : Int) ≤ 127 := by rw [← hk0s]; have := HH.out; omega
  have hk0 : (0 : Int) ≤ (s[0].toNat : Int) := by omega
  clear hk0s
  go_upto_region 9 with fail
  obtain ⟨kb, hkb⟩ : ∃ x : Nat, s[0].toNat = x := ⟨_, rfl⟩
  have HK : Hid (cKindOf (bytesI s) = (kb : Int)) := by show _ = _; rw [← hkb]; exact byte_at s 0 hsz0
  rw [hkb] at hk127' hk0 ⊢
  clear hkb
  obtain ⟨W1, hW1⟩ : ∃ W, W = (w.alloc (.cells #[.int .i8 0, .int .i64 0, .int .i64 0, .int .i64 0, .int .i64 0, .int .i64 0, .int .i64 0, .int .i8 0] 32)).alloc (.cells #[.int .i8 (kb : Int), .int .i64 BY, .int .i64 SER, .int .i64 0, .int .i64 0, .int .i64 0, .int .i64 0, .int .i8 0] 32) := ⟨_, rfl⟩
  have b1 : Below w.heap.size w W1 := hW1 ▸ b0.alloc b0.size _
  have p1 : Blk W1 w.heap.size #[.int .i8 0, .int .i64 0, .int .i64 0, .int .i64 0, .int .i64 0, .int .i64 0, .int .i64 0, .int .i8 0] 32 := hW1 ▸ p0.alloc _
  have q1 : Blk W1 (w.heap.size + 1) #[.int .i8 (kb : Int), .int .i64 BY, .int .i64 SER, .int .i64 0, .int .i64 0, .int .i64 0, .int .i64 0, .int .i8 0] 32 := by
    have h := Blk.new (w.alloc (.cells #[.int .i8 0, .int .i64 0, .int .i64 0, .int .i64 0, .int .i64 0, .int .i64 0, .int .i64 0, .int .i8 0] 32)) #[.int .i8 (kb : Int), .int .i64 BY, .int .i64 SER, .int .i64 0, .int .i64 0, .int .i64 0, .int .i64 0, .int .i8 0] 32
    rw [hW1]
    simpa using h
  rw [← hW1]
  clear hW1 p0 b0
  have p0 := p1
  have q0 := q1
  have b0 := b1
  have q1lt := q1.lt
  clear p1 q1 b1
  obtain ⟨c0, c1, c2, c3, c4, c5, c6, c7⟩ := cmd_cells q0
  have f3 := q0.free 3
  have f4 := q0.free 4
  have f5 := q0.free 5
  have f6 := q0.free 6
  have f7 := q0.free 7
  have lq := q0.lt
  have hR2 : (s.extract 11 s.size).size = s.size - 11 := by simp
  have HR2 := Lib.hid hR2
  clear hR2
  have e2 : ¬ (kb : Int) = 2 := by rw [← HK.out]; have := HH.out; omega
  have e3 : ¬ (kb : Int) = 3 := by rw [← HK.out]; have := HH.out; omega
  have e4 : (kb : Int) = 4 := by rw [← HK.out]; have := HH.out; omega
  have HE := Lib.hid e4
  have k2 : ((kb : Int) == 2) = false := beq_no e2
  have k3 : ((kb : Int) == 3) = false := beq_no e3
  have k4 : ((kb : Int) == 4) = true := beq_yes e4
  clear e2 e3 e4
  go_wp2_with fail
  refine (refRow_any (s.extract 11 s.size) 6 _ (by rw [HR2.out]; have := HSZ.out; omega)).mono ?_
  intro e w3 hpost
  obtain ⟨hb3, hpost⟩ := hpost
  have p3 := p0.below hb3 p0.lt
  have q3 := q0.below hb3 q0.lt
  have b3 := below_then b0 hb3
  clear p0 q0 b0 hb3 c0 c1 c2 c3 c4 c5 c6 c7 f3 f4 f5 f6 f7 lq
  have p0 := p3
  have q0 := q3
  have b0 := b3
  clear p3 q3 b3
  rw [bytesI_extract] at hpost
  rcases hpost with ⟨h1, rfl⟩ | ⟨h0, h1, rfl⟩ | ⟨h0, h1, v, rfl, hown⟩
  · exact absurd h1 (by rw [mayB_yes (by omega) (by omega)]; simp)
  · have hR : cRd (bytesI s) = false := by
      rcases hr : cRd (bytesI s) with _ | _
      · rfl
      · have h2 := rest_row (bytesI_bytes s) hr (by rw [HK.out]; have := HE.out; omega)
        rw [h2] at h1
        cases h1
    have HR := Lib.hid hR
    clear hR h0 h1
    have HV := Lib.hid (cr_no HR.out)
    have hth := p0.there
    have bz := setCells_below [.int .i8 0, .int .i64 0, .int .i64 0, .int .i64 0, .int .i64 0, .int .i64 0, .int .i64 0, .int .i8 0] 0 b0 (Nat.le_refl _)
    go_wp2_with (refine wpList_store_mid (op := ⟨none, .store 32 _ _, _, _, _, none⟩) rfl 32 _ _ (by rfl) w.heap.size 0 #[.int .i8 0, .int .i64 0, .int .i64 0, .int .i64 0, .int .i64 0, .int .i64 0, .int .i64 0, .int .i8 0] (by rfl) (by rfl) (by assumption) (by kernel_rfl) (by kernel_rfl) ?_)
    refine bodyPost_ret (results_pair (cs := [.int .i8 0, .int .i64 0, .int .i64 0, .int .i64 0, .int .i64 0, .int .i64 0, .int .i64 0, .int .i8 0]) Tryd.results25 (by rfl) (by rfl) (World.rangeAt_setCells_same _ _ _ _ hth) Tryd.underlying32 rfl (by kernel_rfl)) rfl ?_
    exact ⟨by rw [HV.out.1, HV.out.2] <;> rfl, bz⟩
  · have hlen : ((bytesI s).drop 11).length = s.size - 11 := by rw [List.length_drop, bytesI_length]
    have hmod : (s.size - 11) % 6 = 0 := by
      have h2 := h1
      unfold rowB at h2
      rw [Bool.and_eq_true, decide_eq_true_eq, hlen] at h2
      exact h2.1
    have hsix : ((6 : Int)).toNat = 6 := rfl
    rw [hlen, hsix] at hown
    obtain ⟨cnt, hcnt⟩ : ∃ n, (s.size - 11) / 6 = n := ⟨_, rfl⟩
    have hsz6 : s.size = 11 + 6 * cnt := by omega
    rw [hcnt] at hown
    have HSC := Lib.hid hsz6
    clear h0 h1 hlen hmod hsix hcnt hsz6
    obtain ⟨c0, c1, c2, c3, c4, c5, c6, c7⟩ := cmd_cells q0
    have f3 := q0.free 3
    have f4 := q0.free 4
    have lq := q0.lt
    by_cases hc0 : cnt = 0
    · subst hc0
      have hR : cRd (bytesI s) = false := rd_len (by rw [bytesI_length, HK.out, HE.out]; show s.size ≠ 23; have := HSC.out; omega)
      have HR := Lib.hid hR
      obtain ⟨A, q, rfl⟩ := own_shape hown
      clear hR hown
      have HV := Lib.hid (cr_no HR.out)
      have hth := p0.there
      have bz := setCells_below [.int .i8 0, .int .i64 0, .int .i64 0, .int .i64 0, .int .i64 0, .int .i64 0, .int .i64 0, .int .i8 0] 0 b0 (Nat.le_refl _)
      go_wp2_with (refine wpList_store_mid (op := ⟨none, .store 32 _ _, _, _, _, none⟩) rfl 32 _ _ (by rfl) w.heap.size 0 #[.int .i8 0, .int .i64 0, .int .i64 0, .int .i64 0, .int .i64 0, .int .i64 0, .int .i64 0, .int .i8 0] (by rfl) (by rfl) (by assumption) (by kernel_rfl) (by kernel_rfl) ?_)
      refine bodyPost_ret (results_pair (cs := [.int .i8 0, .int .i64 0, .int .i64 0, .int .i64 0, .int .i64 0, .int .i64 0, .int .i64 0, .int .i8 0]) Tryd.results25 (by rfl) (by rfl) (World.rangeAt_setCells_same _ _ _ _ hth) Tryd.underlying32 rfl (by kernel_rfl)) rfl ?_
      exact ⟨by rw [HV.out.1, HV.out.2] <;> rfl, bz⟩
    · obtain ⟨g, q, rfl⟩ : ∃ g q, v = .slice (some ⟨g, 0, none⟩) cnt q := by
        rcases hown.2 with ⟨_, h0⟩ | ⟨g, cap, cur, hv, _⟩
        · exact absurd h0 hc0
        · exact ⟨g, cap, hv⟩
      have hg : g < w3.heap.size := by
        rcases hown.2 with ⟨hv, _⟩ | ⟨g', cap, cur, hv, _, hh, _⟩
        · cases hv
        · injection hv with e1
          injection e1 with e1
          injection e1 with e1
          subst e1
          exact lt_of_block hh
      have hgw : w.heap.size + 1 < g := by
        rcases hown.2 with ⟨hv, _⟩ | ⟨g', cap, cur, hv, hbb, _⟩
        · cases hv
        · injection hv with e1
          injection e1 with e1
          injection e1 with e1
          subst e1
          have := q1lt
          omega
      have hcell := Lies.cells0 (Lies.of_own hown)
      have d0 : w3.cell? ⟨g, 0, none⟩ = some (.int .i64 (dec (((bytesI s).drop 11).take 6))) := by
        have h := hcell 0 (.int .i64 (dec (((bytesI s).drop 11).take 6))) (by
          obtain ⟨m, rfl⟩ : ∃ m, cnt = m + 1 := ⟨cnt - 1, by omega⟩
          rw [List.getElem?_map, numK_at (by omega)]
          simp)
        simpa [Addr.add] using h
      obtain ⟨DE, hDE⟩ : ∃ x, Hid (dec (((bytesI s).drop 11).take 6) = x) := ⟨_, rfl⟩
      rw [hDE.out] at d0
      have hc1 : (1 : Int) ≤ (cnt : Int) := by omega
      have hci : (0 : Int) < (cnt : Int) := by omega
      by_cases hc2 : cnt = 2
      · have z2 : ((cnt : Int) == 2) = true := beq_yes (by omega)
        have hci2 : (1 : Int) < (cnt : Int) := by omega
        have d1 : w3.cell? ⟨g, 1, none⟩ = some (.int .i64 (dec (((bytesI s).drop 17).take 6))) := by
          have h := hcell 1 (.int .i64 (dec (((bytesI s).drop 17).take 6))) (by
            subst hc2
            rw [List.getElem?_map, numK_at (by omega)]
            simp [List.drop_drop])
          simpa [Addr.add] using h
        obtain ⟨AW, hAW⟩ : ∃ x, Hid (dec (((bytesI s).drop 17).take 6) = x) := ⟨_, rfl⟩
        rw [hAW.out] at d1
        have HD : Hid (cRd (bytesI s) = true → cCand (bytesI s) = ⟨(kb : Int), BY, SER, DE, AW, 0, 0, 0⟩) := fun hr => by
          rw [HE.out]
          exact cand_4 (HK.out.trans HE.out) hBY.out hSER.out hDE.out hAW.out
        have hgn : ¬ g = w.heap.size + 1 := by omega
        have hgn2 : ¬ w.heap.size + 1 = g := by omega
        clear hcell hown hc0 hc2
        go_wp2_with fail
        obtain ⟨W4, hW4⟩ : ∃ W, W = ((w3.setCell ⟨w.heap.size + 1, 3, none⟩ (.int .i64 DE)).setCell ⟨w.heap.size + 1, 4, none⟩ (.int .i64 AW)) := ⟨_, rfl⟩
        have p2 : Blk W4 w.heap.size #[.int .i8 0, .int .i64 0, .int .i64 0, .int .i64 0, .int .i64 0, .int .i64 0, .int .i64 0, .int .i8 0] 32 := hW4 ▸ ((p0.other (by omega) 3 _).other (by omega) 4 _)
        have q2 : Blk W4 (w.heap.size + 1) #[.int .i8 (kb : Int), .int .i64 BY, .int .i64 SER, .int .i64 DE, .int .i64 AW, .int .i64 0, .int .i64 0, .int .i8 0] 32 := hW4 ▸ ((q0.set 3 _).set 4 _)
        have b2 : Below w.heap.size w W4 := hW4 ▸ ((b0.setCell (Nat.le_succ _) _).setCell (Nat.le_succ _) _)
        rw [← hW4]
        clear hW4 p0 q0 b0 c0 c1 c2 c3 c4 c5 c6 c7 f3 f4 lq
        have p0 := p2
        have q0 := q2
        have b0 := b2
        clear p2 q2 b2
        refine (refBytes_any ((kb : Int)) (BY) (SER) (DE) (AW) (0) (0) (0) _).mono ?_
        rintro e w9 ⟨rfl, hb9⟩
        have p9 := p0.below hb9 p0.lt
        have q9 := q0.below hb9 q0.lt
        have b9 := below_then b0 hb9
        obtain ⟨g0, g1, g2, g3, g4, g5, g6, g7⟩ := cmd_cells q9
        have lq9 := q9.lt
        clear p0 q0 b0 hb9
        cases hm : cMay ⟨(kb : Int), BY, SER, DE, AW, 0, 0, 0⟩ with
        | false =>
          have HN := Lib.hid (cr_off HD.out (.inl hm))
          have HC := Lib.hid (cm_no hm)
          rw [HC.out.1, HC.out.2]
          clear hm
          have HV := Lib.hid (cr_no HN.out)
          have hth := p9.there
          have bz := setCells_below [.int .i8 0, .int .i64 0, .int .i64 0, .int .i64 0, .int .i64 0, .int .i64 0, .int .i64 0, .int .i8 0] 0 b9 (Nat.le_refl _)
          go_wp2_with (refine wpList_store_mid (op := ⟨none, .store 32 _ _, _, _, _, none⟩) rfl 32 _ _ (by rfl) w.heap.size 0 #[.int .i8 0, .int .i64 0, .int .i64 0, .int .i64 0, .int .i64 0, .int .i64 0, .int .i64 0, .int .i8 0] (by rfl) (by rfl) (by assumption) (by kernel_rfl) (by kernel_rfl) ?_)
          refine bodyPost_ret (results_pair (cs := [.int .i8 0, .int .i64 0, .int .i64 0, .int .i64 0, .int .i64 0, .int .i64 0, .int .i64 0, .int .i8 0]) Tryd.results25 (by rfl) (by rfl) (World.rangeAt_setCells_same _ _ _ _ hth) Tryd.underlying32 rfl (by kernel_rfl)) rfl ?_
          exact ⟨by rw [HV.out.1, HV.out.2] <;> rfl, bz⟩
        | true =>
          have HC := Lib.hid (cm_yes hm)
          have HM2 := Lib.hid hm
          rw [HC.out.2]
          obtain ⟨SS, hS⟩ : ∃ S, Hid (cmS ⟨(kb : Int), BY, SER, DE, AW, 0, 0, 0⟩ = S) := ⟨_, rfl⟩
          rw [hS.out]
          clear hm
          by_cases he : SS = s
          · have HV := Lib.hid (cr_of HM2.out (hS.out.trans he))
            have hss : (SS.toList == s.toList) = true := by rw [he]; exact str_same _
            clear he
            have hth := p9.there
            have bz := setCells_below [.int .i8 (kb : Int), .int .i64 BY, .int .i64 SER, .int .i64 DE, .int .i64 AW, .int .i64 0, .int .i64 0, .int .i8 0] 0 b9 (Nat.le_refl _)
            go_wp2_with (refine wpList_store_mid (op := ⟨none, .store 32 _ _, _, _, _, none⟩) rfl 32 _ _ (by rfl) w.heap.size 0 #[.int .i8 (kb : Int), .int .i64 BY, .int .i64 SER, .int .i64 DE, .int .i64 AW, .int .i64 0, .int .i64 0, .int .i8 0] (by rfl) (by rfl) (by assumption) (by kernel_rfl) (by kernel_rfl) ?_)
            refine bodyPost_ret (results_pair (cs := [.int .i8 (kb : Int), .int .i64 BY, .int .i64 SER, .int .i64 DE, .int .i64 AW, .int .i64 0, .int .i64 0, .int .i8 0]) Tryd.results25 (by rfl) (by rfl) (World.rangeAt_setCells_same _ _ _ _ hth) Tryd.underlying32 rfl (by kernel_rfl)) rfl ?_
            exact ⟨by rw [HV.out.2.1, HV.out.2.2] <;> rfl, bz⟩
          · have HN := Lib.hid (cr_off HD.out (.inr (by rw [hS.out]; exact he)))
            have hss : (SS.toList == s.toList) = false := str_diff he
            clear he
            have HV := Lib.hid (cr_no HN.out)
            have hth := p9.there
            have bz := setCells_below [.int .i8 0, .int .i64 0, .int .i64 0, .int .i64 0, .int .i64 0, .int .i64 0, .int .i64 0, .int .i8 0] 0 b9 (Nat.le_refl _)
            go_wp2_with (refine wpList_store_mid (op := ⟨none, .store 32 _ _, _, _, _, none⟩) rfl 32 _ _ (by rfl) w.heap.size 0 #[.int .i8 0, .int .i64 0, .int .i64 0, .int .i64 0, .int .i64 0, .int .i64 0, .int .i64 0, .int .i8 0] (by rfl) (by rfl) (by assumption) (by kernel_rfl) (by kernel_rfl) ?_)
            refine bodyPost_ret (results_pair (cs := [.int .i8 0, .int .i64 0, .int .i64 0, .int .i64 0, .int .i64 0, .int .i64 0, .int .i64 0, .int .i8 0]) Tryd.results25 (by rfl) (by rfl) (World.rangeAt_setCells_same _ _ _ _ hth) Tryd.underlying32 rfl (by kernel_rfl)) rfl ?_
            exact ⟨by rw [HV.out.1, HV.out.2] <;> rfl, bz⟩
      · have z2 : ((cnt : Int) == 2) = false := beq_no (by omega)
        have HD : Hid (cRd (bytesI s) = true → cCand (bytesI s) = ⟨(kb : Int), BY, SER, DE, 0, 0, 0, 0⟩) := fun hr => by
          have h1 : cRd (bytesI s) = false := rd_len (by rw [bytesI_length, HK.out, HE.out]; show s.size ≠ 23; have := HSC.out; omega)
          rw [h1] at hr
          cases hr
        clear hcell hown hc0 hc2
        go_wp2_with fail
        obtain ⟨W4, hW4⟩ : ∃ W, W = (w3.setCell ⟨w.heap.size + 1, 3, none⟩ (.int .i64 DE)) := ⟨_, rfl⟩
        have p2 : Blk W4 w.heap.size #[.int .i8 0, .int .i64 0, .int .i64 0, .int .i64 0, .int .i64 0, .int .i64 0, .int .i64 0, .int .i8 0] 32 := hW4 ▸ (p0.other (by omega) 3 _)
        have q2 : Blk W4 (w.heap.size + 1) #[.int .i8 (kb : Int), .int .i64 BY, .int .i64 SER, .int .i64 DE, .int .i64 0, .int .i64 0, .int .i64 0, .int .i8 0] 32 := hW4 ▸ (q0.set 3 _)
        have b2 : Below w.heap.size w W4 := hW4 ▸ (b0.setCell (Nat.le_succ _) _)
        rw [← hW4]
        clear hW4 p0 q0 b0 c0 c1 c2 c3 c4 c5 c6 c7 f3 f4 lq
        have p0 := p2
        have q0 := q2
        have b0 := b2
        clear p2 q2 b2
        refine (refBytes_any ((kb : Int)) (BY) (SER) (DE) (0) (0) (0) (0) _).mono ?_
        rintro e w9 ⟨rfl, hb9⟩
        have p9 := p0.below hb9 p0.lt
        have q9 := q0.below hb9 q0.lt
        have b9 := below_then b0 hb9
        obtain ⟨g0, g1, g2, g3, g4, g5, g6, g7⟩ := cmd_cells q9
        have lq9 := q9.lt
        clear p0 q0 b0 hb9
        cases hm : cMay ⟨(kb : Int), BY, SER, DE, 0, 0, 0, 0⟩ with
        | false =>
          have HN := Lib.hid (cr_off HD.out (.inl hm))
          have HC := Lib.hid (cm_no hm)
          rw [HC.out.1, HC.out.2]
          clear hm
          have HV := Lib.hid (cr_no HN.out)
          have hth := p9.there
          have bz := setCells_below [.int .i8 0, .int .i64 0, .int .i64 0, .int .i64 0, .int .i64 0, .int .i64 0, .int .i64 0, .int .i8 0] 0 b9 (Nat.le_refl _)
          go_wp2_with (refine wpList_store_mid (op := ⟨none, .store 32 _ _, _, _, _, none⟩) rfl 32 _ _ (by rfl) w.heap.size 0 #[.int .i8 0, .int .i64 0, .int .i64 0, .int .i64 0, .int .i64 0, .int .i64 0, .int .i64 0, .int .i8 0] (by rfl) (by rfl) (by assumption) (by kernel_rfl) (by kernel_rfl) ?_)
          refine bodyPost_ret (results_pair (cs := [.int .i8 0, .int .i64 0, .int .i64 0, .int .i64 0, .int .i64 0, .int .i64 0, .int .i64 0, .int .i8 0]) Tryd.results25 (by rfl) (by rfl) (World.rangeAt_setCells_same _ _ _ _ hth) Tryd.underlying32 rfl (by kernel_rfl)) rfl ?_
          exact ⟨by rw [HV.out.1, HV.out.2] <;> rfl, bz⟩
        | true =>
          have HC := Lib.hid (cm_yes hm)
          have HM2 := Lib.hid hm
          rw [HC.out.2]
          obtain ⟨SS, hS⟩ : ∃ S, Hid (cmS ⟨(kb : Int), BY, SER, DE, 0, 0, 0, 0⟩ = S) := ⟨_, rfl⟩
          rw [hS.out]
          clear hm
          by_cases he : SS = s
          · have HV := Lib.hid (cr_of HM2.out (hS.out.trans he))
            have hss : (SS.toList == s.toList) = true := by rw [he]; exact str_same _
            clear he
            have hth := p9.there
            have bz := setCells_below [.int .i8 (kb : Int), .int .i64 BY, .int .i64 SER, .int .i64 DE, .int .i64 0, .int .i64 0, .int .i64 0, .int .i8 0] 0 b9 (Nat.le_refl _)
            go_wp2_with (refine wpList_store_mid (op := ⟨none, .store 32 _ _, _, _, _, none⟩) rfl 32 _ _ (by rfl) w.heap.size 0 #[.int .i8 (kb : Int), .int .i64 BY, .int .i64 SER, .int .i64 DE, .int .i64 0, .int .i64 0, .int .i64 0, .int .i8 0] (by rfl) (by rfl) (by assumption) (by kernel_rfl) (by kernel_rfl) ?_)
            refine bodyPost_ret (results_pair (cs := [.int .i8 (kb : Int), .int .i64 BY, .int .i64 SER, .int .i64 DE, .int .i64 0, .int .i64 0, .int .i64 0, .int .i8 0]) Tryd.results25 (by rfl) (by rfl) (World.rangeAt_setCells_same _ _ _ _ hth) Tryd.underlying32 rfl (by kernel_rfl)) rfl ?_
            exact ⟨by rw [HV.out.2.1, HV.out.2.2] <;> rfl, bz⟩
          · have HN := Lib.hid (cr_off HD.out (.inr (by rw [hS.out]; exact he)))
            have hss : (SS.toList == s.toList) = false := str_diff he
            clear he
            have HV := Lib.hid (cr_no HN.out)
            have hth := p9.there
            have bz := setCells_below [.int .i8 0, .int .i64 0, .int .i64 0, .int .i64 0, .int .i64 0, .int .i64 0, .int .i64 0, .int .i8 0] 0 b9 (Nat.le_refl _)
            go_wp2_with (refine wpList_store_mid (op := ⟨none, .store 32 _ _, _, _, _, none⟩) rfl 32 _ _ (by rfl) w.heap.size 0 #[.int .i8 0, .int .i64 0, .int .i64 0, .int .i64 0, .int .i64 0, .int .i64 0, .int .i64 0, .int .i8 0] (by rfl) (by rfl) (by assumption) (by kernel_rfl) (by kernel_rfl) ?_)
            refine bodyPost_ret (results_pair (cs := [.int .i8 0, .int .i64 0, .int .i64 0, .int .i64 0, .int .i64 0, .int .i64 0, .int .i64 0, .int .i8 0]) Tryd.results25 (by rfl) (by rfl) (World.rangeAt_setCells_same _ _ _ _ hth) Tryd.underlying32 rfl (by kernel_rfl)) rfl ?_
            exact ⟨by rw [HV.out.1, HV.out.2] <;> rfl, bz⟩

end Go.Proofs.YtjdacpnfgpdjhaaDoor

/-
  The document's commands: bytes read as a command, a purge: by contract.
-/
namespace Go.Proofs.YtjdacpnfgpdjhaaDoor
open Go.RowKit
set_option linter.unusedVariables false
set_option linter.unusedSimpArgs false

set_option maxRecDepth 100000 in
set_option maxHeartbeats 4000000 in
theorem refRead_5 (s : ByteArray) (w : World) (hs : s.size ≤ 17592186044416) (g11 : 11 ≤ s.size) (hf : fitsB ((6 : Nat) : Int) (dec (((bytesI s).drop 1).take 6)) = true) (hk : cKindOf (bytesI s) = 5) :
    Calls Tryd.prog 25 #[.string s] w fun e w' => e = .returned (.tuple #[.agg (cmdA (crC s)), .int .i64 (crE s)]) ∧ Below w.heap.size w w' := by
  have p0 := Blk.new w #[.int .i8 0, .int .i64 0, .int .i64 0, .int .i64 0, .int .i64 0, .int .i64 0, .int .i64 0, .int .i8 0] 32
  have b0 : Below w.heap.size w (w.alloc (.cells #[.int .i8 0, .int .i64 0, .int .i64 0, .int .i64 0, .int .i64 0, .int .i64 0, .int .i64 0, .int .i8 0] 32)) := one_below _ _
  have HSZ := Lib.hid hs
  have HH := Lib.hid hk
  have hM : s.size ≤ maxLen := by unfold maxLen; omega
  have HM := Lib.hid hM
  clear hM hk
  go_enter Tryd.func25, Tryd.ntmps25
  go_wp2_with fail
  refine (refGet_any s 1 6 _ HM.out (by omega) (by omega)).mono ?_
  rintro e w1 ⟨rfl, rfl⟩
  have H4 := Lib.hid (four_fits (isBytes_take (isBytes_drop (bytesI_bytes s) 7) 4) (by rw [List.length_take, List.length_drop, bytesI_length]; omega))
  have HG4 : Hid (getOut (bytesI s) 7 4 = .returned (.tuple #[.int .i64 (dec (((bytesI s).drop 7).take 4)), .int .i64 0])) := getOut_yes (mayB_yes (by omega) (by omega)) (by omega) (by rw [bytesI_length]; omega) H4.out
  have HG : Hid (getOut (bytesI s) 1 6 = .returned (.tuple #[.int .i64 (dec (((bytesI s).drop 1).take 6)), .int .i64 0])) := getOut_yes (mayB_yes (by omega) (by omega)) (by omega) (by rw [bytesI_length]; omega) hf
  rw [HG.out]
  clear hf
  obtain ⟨BY, hBY⟩ : ∃ x, Hid (dec (((bytesI s).drop 1).take 6) = x) := ⟨_, rfl⟩
  rw [hBY.out]
  go_wp2_with fail
  refine (refGet_any s 7 4 _ HM.out (by omega) (by omega)).mono ?_
  rintro e w1 ⟨rfl, rfl⟩
  rw [HG4.out]
  obtain ⟨SER, hSER⟩ : ∃ x, Hid (dec (((bytesI s).drop 7).take 4) = x) := ⟨_, rfl⟩
  rw [hSER.out]
  clear HG HG4 H4
  have hsz0 : 0 < s.size := by omega
  have hk0s : cKindOf (bytesI s) = (s[0].toNat : Int) := byte_at s 0 hsz0
  have hk127' : (s[0].toNat : Int) ≤ 127 := by rw [← hk0s]; have := HH.out; omega
  have hk0 : (0 : Int) ≤ (s[0].toNat : Int) := by omega
  clear hk0s
  go_upto_region 9 with fail
  obtain ⟨kb, hkb⟩ : ∃ x : Nat, s[0].toNat = x := ⟨_, rfl⟩
  have HK : Hid (cKindOf (bytesI s) = (kb : Int)) := by show _ = _; rw [← hkb]; exact byte_at s 0 hsz0
  rw [hkb] at hk127' hk0 ⊢
  clear hkb
  obtain ⟨W1, hW1⟩ : ∃ W, W = (w.alloc (.cells #[.int .i8 0, .int .i64 0, .int .i64 0, .int .i64 0, .int .i64 0, .int .i64 0, .int .i64 0, .int .i8 0] 32)).alloc (.cells #[.int .i8 (kb : Int), .int .i64 BY, .int .i64 SER, .int .i64 0, .int .i64 0, .int .i64 0, .int .i64 0, .int .i8 0] 32) := ⟨_, rfl⟩
  have b1 : Below w.heap.size w W1 := hW1 ▸ b0.alloc b0.size _
  have p1 : Blk W1 w.heap.size #[.int .i8 0, .int .i64 0, .int .i64 0, .int .i64 0, .int .i64 0, .int .i64 0, .int .i64 0, .int .i8 0] 32 := hW1 ▸ p0.alloc _
  have q1 : Blk W1 (w.heap.size + 1) #[.int .i8 (kb : Int), .int .i64 BY, .int .i64 SER, .int .i64 0, .int .i64 0, .int .i64 0, .int .i64 0, .int .i8 0] 32 := by
    have h := Blk.new (w.alloc (.cells #[.int .i8 0, .int .i64 0, .int .i64 0, .int .i64 0, .int .i64 0, .int .i64 0, .int .i64 0, .int .i8 0] 32)) #[.int .i8 (kb : Int), .int .i64 BY, .int .i64 SER, .int .i64 0, .int .i64 0, .int .i64 0, .int .i64 0, .int .i8 0] 32
    rw [hW1]
    simpa using h
  rw [← hW1]
  clear hW1 p0 b0
  have p0 := p1
  have q0 := q1
  have b0 := b1
  have q1lt := q1.lt
  clear p1 q1 b1
  obtain ⟨c0, c1, c2, c3, c4, c5, c6, c7⟩ := cmd_cells q0
  have f3 := q0.free 3
  have f4 := q0.free 4
  have f5 := q0.free 5
  have f6 := q0.free 6
  have f7 := q0.free 7
  have lq := q0.lt
  have hR2 : (s.extract 11 s.size).size = s.size - 11 := by simp
  have HR2 := Lib.hid hR2
  clear hR2
  have e2 : ¬ (kb : Int) = 2 := by rw [← HK.out]; have := HH.out; omega
  have e3 : ¬ (kb : Int) = 3 := by rw [← HK.out]; have := HH.out; omega
  have e4 : ¬ (kb : Int) = 4 := by rw [← HK.out]; have := HH.out; omega
  have e5 : (kb : Int) = 5 := by rw [← HK.out]; have := HH.out; omega
  have HE := Lib.hid e5
  have k2 : ((kb : Int) == 2) = false := beq_no e2
  have k3 : ((kb : Int) == 3) = false := beq_no e3
  have k4 : ((kb : Int) == 4) = false := beq_no e4
  have k5 : ((kb : Int) == 5) = true := beq_yes e5
  clear e2 e3 e4 e5
  go_wp2_with fail
  refine (refRow_any (s.extract 11 s.size) 6 _ (by rw [HR2.out]; have := HSZ.out; omega)).mono ?_
  intro e w3 hpost
  obtain ⟨hb3, hpost⟩ := hpost
  have p3 := p0.below hb3 p0.lt
  have q3 := q0.below hb3 q0.lt
  have b3 := below_then b0 hb3
  clear p0 q0 b0 hb3 c0 c1 c2 c3 c4 c5 c6 c7 f3 f4 f5 f6 f7 lq
  have p0 := p3
  have q0 := q3
  have b0 := b3
  clear p3 q3 b3
  rw [bytesI_extract] at hpost
  rcases hpost with ⟨h1, rfl⟩ | ⟨h0, h1, rfl⟩ | ⟨h0, h1, v, rfl, hown⟩
  · exact absurd h1 (by rw [mayB_yes (by omega) (by omega)]; simp)
  · have hR : cRd (bytesI s) = false := by
      rcases hr : cRd (bytesI s) with _ | _
      · rfl
      · have h2 := rest_row (bytesI_bytes s) hr (by rw [HK.out]; have := HE.out; omega)
        rw [h2] at h1
        cases h1
    have HR := Lib.hid hR
    clear hR h0 h1
    have HV := Lib.hid (cr_no HR.out)
    have hth := p0.there
    have bz := setCells_below [.int .i8 0, .int .i64 0, .int .i64 0, .int .i64 0, .int .i64 0, .int .i64 0, .int .i64 0, .int .i8 0] 0 b0 (Nat.le_refl _)
    go_wp2_with (refine wpList_store_mid (op := ⟨none, .store 32 _ _, _, _, _, none⟩) rfl 32 _ _ (by rfl) w.heap.size 0 #[.int .i8 0, .int .i64 0, .int .i64 0, .int .i64 0, .int .i64 0, .int .i64 0, .int .i64 0, .int .i8 0] (by rfl) (by rfl) (by assumption) (by kernel_rfl) (by kernel_rfl) ?_)
    refine bodyPost_ret (results_pair (cs := [.int .i8 0, .int .i64 0, .int .i64 0, .int .i64 0, .int .i64 0, .int .i64 0, .int .i64 0, .int .i8 0]) Tryd.results25 (by rfl) (by rfl) (World.rangeAt_setCells_same _ _ _ _ hth) Tryd.underlying32 rfl (by kernel_rfl)) rfl ?_
    exact ⟨by rw [HV.out.1, HV.out.2] <;> rfl, bz⟩
  · have hlen : ((bytesI s).drop 11).length = s.size - 11 := by rw [List.length_drop, bytesI_length]
    have hmod : (s.size - 11) % 6 = 0 := by
      have h2 := h1
      unfold rowB at h2
      rw [Bool.and_eq_true, decide_eq_true_eq, hlen] at h2
      exact h2.1
    have hsix : ((6 : Int)).toNat = 6 := rfl
    rw [hlen, hsix] at hown
    obtain ⟨cnt, hcnt⟩ : ∃ n, (s.size - 11) / 6 = n := ⟨_, rfl⟩
    have hsz6 : s.size = 11 + 6 * cnt := by omega
    rw [hcnt] at hown
    have HSC := Lib.hid hsz6
    clear h0 h1 hlen hmod hsix hcnt hsz6
    obtain ⟨c0, c1, c2, c3, c4, c5, c6, c7⟩ := cmd_cells q0
    have f3 := q0.free 3
    have f4 := q0.free 4
    have lq := q0.lt
    by_cases hc0 : cnt = 0
    · subst hc0
      have hR : cRd (bytesI s) = false := rd_len (by rw [bytesI_length, HK.out, HE.out]; show s.size ≠ 17; have := HSC.out; omega)
      have HR := Lib.hid hR
      obtain ⟨A, q, rfl⟩ := own_shape hown
      clear hR hown
      have HV := Lib.hid (cr_no HR.out)
      have hth := p0.there
      have bz := setCells_below [.int .i8 0, .int .i64 0, .int .i64 0, .int .i64 0, .int .i64 0, .int .i64 0, .int .i64 0, .int .i8 0] 0 b0 (Nat.le_refl _)
      go_wp2_with (refine wpList_store_mid (op := ⟨none, .store 32 _ _, _, _, _, none⟩) rfl 32 _ _ (by rfl) w.heap.size 0 #[.int .i8 0, .int .i64 0, .int .i64 0, .int .i64 0, .int .i64 0, .int .i64 0, .int .i64 0, .int .i8 0] (by rfl) (by rfl) (by assumption) (by kernel_rfl) (by kernel_rfl) ?_)
      refine bodyPost_ret (results_pair (cs := [.int .i8 0, .int .i64 0, .int .i64 0, .int .i64 0, .int .i64 0, .int .i64 0, .int .i64 0, .int .i8 0]) Tryd.results25 (by rfl) (by rfl) (World.rangeAt_setCells_same _ _ _ _ hth) Tryd.underlying32 rfl (by kernel_rfl)) rfl ?_
      exact ⟨by rw [HV.out.1, HV.out.2] <;> rfl, bz⟩
    · obtain ⟨g, q, rfl⟩ : ∃ g q, v = .slice (some ⟨g, 0, none⟩) cnt q := by
        rcases hown.2 with ⟨_, h0⟩ | ⟨g, cap, cur, hv, _⟩
        · exact absurd h0 hc0
        · exact ⟨g, cap, hv⟩
      have hg : g < w3.heap.size := by
        rcases hown.2 with ⟨hv, _⟩ | ⟨g', cap, cur, hv, _, hh, _⟩
        · cases hv
        · injection hv with e1
          injection e1 with e1
          injection e1 with e1
          subst e1
          exact lt_of_block hh
      have hgw : w.heap.size + 1 < g := by
        rcases hown.2 with ⟨hv, _⟩ | ⟨g', cap, cur, hv, hbb, _⟩
        · cases hv
        · injection hv with e1
          injection e1 with e1
          injection e1 with e1
          subst e1
          have := q1lt
          omega
      have hcell := Lies.cells0 (Lies.of_own hown)
      have d0 : w3.cell? ⟨g, 0, none⟩ = some (.int .i64 (dec (((bytesI s).drop 11).take 6))) := by
        have h := hcell 0 (.int .i64 (dec (((bytesI s).drop 11).take 6))) (by
          obtain ⟨m, rfl⟩ : ∃ m, cnt = m + 1 := ⟨cnt - 1, by omega⟩
          rw [List.getElem?_map, numK_at (by omega)]
          simp)
        simpa [Addr.add] using h
      obtain ⟨DE, hDE⟩ : ∃ x, Hid (dec (((bytesI s).drop 11).take 6) = x) := ⟨_, rfl⟩
      rw [hDE.out] at d0
      have hc1 : (1 : Int) ≤ (cnt : Int) := by omega
      have hci : (0 : Int) < (cnt : Int) := by omega
      have HD : Hid (cRd (bytesI s) = true → cCand (bytesI s) = ⟨(kb : Int), BY, SER, DE, 0, 0, 0, 0⟩) := fun hr => by
        rw [HE.out]
        exact cand_5 (HK.out.trans HE.out) hBY.out hSER.out hDE.out
      clear hcell hown hc0
      go_wp2_with fail
      obtain ⟨W4, hW4⟩ : ∃ W, W = (w3.setCell ⟨w.heap.size + 1, 3, none⟩ (.int .i64 DE)) := ⟨_, rfl⟩
      have p2 : Blk W4 w.heap.size #[.int .i8 0, .int .i64 0, .int .i64 0, .int .i64 0, .int .i64 0, .int .i64 0, .int .i64 0, .int .i8 0] 32 := hW4 ▸ (p0.other (by omega) 3 _)
      have q2 : Blk W4 (w.heap.size + 1) #[.int .i8 (kb : Int), .int .i64 BY, .int .i64 SER, .int .i64 DE, .int .i64 0, .int .i64 0, .int .i64 0, .int .i8 0] 32 := hW4 ▸ (q0.set 3 _)
      have b2 : Below w.heap.size w W4 := hW4 ▸ (b0.setCell (Nat.le_succ _) _)
      rw [← hW4]
      clear hW4 p0 q0 b0 c0 c1 c2 c3 c4 c5 c6 c7 f3 f4 lq
      have p0 := p2
      have q0 := q2
      have b0 := b2
      clear p2 q2 b2
      refine (refBytes_any ((kb : Int)) (BY) (SER) (DE) (0) (0) (0) (0) _).mono ?_
      rintro e w9 ⟨rfl, hb9⟩
      have p9 := p0.below hb9 p0.lt
      have q9 := q0.below hb9 q0.lt
      have b9 := below_then b0 hb9
      obtain ⟨g0, g1, g2, g3, g4, g5, g6, g7⟩ := cmd_cells q9
      have lq9 := q9.lt
      clear p0 q0 b0 hb9
      cases hm : cMay ⟨(kb : Int), BY, SER, DE, 0, 0, 0, 0⟩ with
      | false =>
        have HN := Lib.hid (cr_off HD.out (.inl hm))
        have HC := Lib.hid (cm_no hm)
        rw [HC.out.1, HC.out.2]
        clear hm
        have HV := Lib.hid (cr_no HN.out)
        have hth := p9.there
        have bz := setCells_below [.int .i8 0, .int .i64 0, .int .i64 0, .int .i64 0, .int .i64 0, .int .i64 0, .int .i64 0, .int .i8 0] 0 b9 (Nat.le_refl _)
        go_wp2_with (refine wpList_store_mid (op := ⟨none, .store 32 _ _, _, _, _, none⟩) rfl 32 _ _ (by rfl) w.heap.size 0 #[.int .i8 0, .int .i64 0, .int .i64 0, .int .i64 0, .int .i64 0, .int .i64 0, .int .i64 0, .int .i8 0] (by rfl) (by rfl) (by assumption) (by kernel_rfl) (by kernel_rfl) ?_)
        refine bodyPost_ret (results_pair (cs := [.int .i8 0, .int .i64 0, .int .i64 0, .int .i64 0, .int .i64 0, .int .i64 0, .int .i64 0, .int .i8 0]) Tryd.results25 (by rfl) (by rfl) (World.rangeAt_setCells_same _ _ _ _ hth) Tryd.underlying32 rfl (by kernel_rfl)) rfl ?_
        exact ⟨by rw [HV.out.1, HV.out.2] <;> rfl, bz⟩
      | true =>
        have HC := Lib.hid (cm_yes hm)
        have HM2 := Lib.hid hm
        rw [HC.out.2]
        obtain ⟨SS, hS⟩ : ∃ S, Hid (cmS ⟨(kb : Int), BY, SER, DE, 0, 0, 0, 0⟩ = S) := ⟨_, rfl⟩
        rw [hS.out]
        clear hm
        by_cases he : SS = s
        · have HV := Lib.hid (cr_of HM2.out (hS.out.trans he))
          have hss : (SS.toList == s.toList) = true := by rw [he]; exact str_same _
          clear he
          have hth := p9.there
          have bz := setCells_below [.int .i8 (kb : Int), .int .i64 BY, .int .i64 SER, .int .i64 DE, .int .i64 0, .int .i64 0, .int .i64 0, .int .i8 0] 0 b9 (Nat.le_refl _)
          go_wp2_with (refine wpList_store_mid (op := ⟨none, .store 32 _ _, _, _, _, none⟩) rfl 32 _ _ (by rfl) w.heap.size 0 #[.int .i8 (kb : Int), .int .i64 BY, .int .i64 SER, .int .i64 DE, .int .i64 0, .int .i64 0, .int .i64 0, .int .i8 0] (by rfl) (by rfl) (by assumption) (by kernel_rfl) (by kernel_rfl) ?_)
          refine bodyPost_ret (results_pair (cs := [.int .i8 (kb : Int), .int .i64 BY, .int .i64 SER, .int .i64 DE, .int .i64 0, .int .i64 0, .int .i64 0, .int .i8 0]) Tryd.results25 (by rfl) (by rfl) (World.rangeAt_setCells_same _ _ _ _ hth) Tryd.underlying32 rfl (by kernel_rfl)) rfl ?_
          exact ⟨by rw [HV.out.2.1, HV.out.2.2] <;> rfl, bz⟩
        · have HN := Lib.hid (cr_off HD.out (.inr (by rw [hS.out]; exact he)))
          have hss : (SS.toList == s.toList) = false := str_diff he
          clear he
          have HV := Lib.hid (cr_no HN.out)
          have hth := p9.there
          have bz := setCells_below [.int .i8 0, .int .i64 0, .int .i64 0, .int .i64 0, .int .i64 0, .int .i64 0, .int .i64 0, .int .i8 0] 0 b9 (Nat.le_refl _)
          go_wp2_with (refine wpList_store_mid (op := ⟨none, .store 32 _ _, _, _, _, none⟩) rfl 32 _ _ (by rfl) w.heap.size 0 #[.int .i8 0, .int .i64 0, .int .i64 0, .int .i64 0, .int .i64 0, .int .i64 0, .int .i64 0, .int .i8 0] (by rfl) (by rfl) (by assumption) (by kernel_rfl) (by kernel_rfl) ?_)
          refine bodyPost_ret (results_pair (cs := [.int .i8 0, .int .i64 0, .int .i64 0, .int .i64 0, .int .i64 0, .int .i64 0, .int .i64 0, .int .i8 0]) Tryd.results25 (by rfl) (by rfl) (World.rangeAt_setCells_same _ _ _ _ hth) Tryd.underlying32 rfl (by kernel_rfl)) rfl ?_
          exact ⟨by rw [HV.out.1, HV.out.2] <;> rfl, bz⟩

end Go.Proofs.YtjdacpnfgpdjhaaDoor

/-
  The document's commands: bytes read as a command, another kind: by contract.
-/
namespace Go.Proofs.YtjdacpnfgpdjhaaDoor
open Go.RowKit
set_option linter.unusedVariables false
set_option linter.unusedSimpArgs false

set_option maxRecDepth 100000 in
set_option maxHeartbeats 4000000 in
theorem refRead_o (s : ByteArray) (w : World) (hs : s.size ≤ 17592186044416) (g11 : 11 ≤ s.size) (hf : fitsB ((6 : Nat) : Int) (dec (((bytesI s).drop 1).take 6)) = true) (hk : cKindOf (bytesI s) ≤ 127 ∧ cKindOf (bytesI s) ≠ 2 ∧ cKindOf (bytesI s) ≠ 3 ∧ cKindOf (bytesI s) ≠ 4 ∧ cKindOf (bytesI s) ≠ 5) :
    Calls Tryd.prog 25 #[.string s] w fun e w' => e = .returned (.tuple #[.agg (cmdA (crC s)), .int .i64 (crE s)]) ∧ Below w.heap.size w w' := by
  have p0 := Blk.new w #[.int .i8 0, .int .i64 0, .int .i64 0, .int .i64 0, .int .i64 0, .int .i64 0, .int .i64 0, .int .i8 0] 32
  have b0 : Below w.heap.size w (w.alloc (.cells #[.int .i8 0, .int .i64 0, .int .i64 0, .int .i64 0, .int .i64 0, .int .i64 0, .int .i64 0, .int .i8 0] 32)) := one_below _ _
  have HSZ := Lib.hid hs
  have HH := Lib.hid hk
  have hM : s.size ≤ maxLen := by unfold maxLen; omega
  have HM := Lib.hid hM
  clear hM hk
  go_enter Tryd.func25, Tryd.ntmps25
  go_wp2_with fail
  refine (refGet_any s 1 6 _ HM.out (by omega) (by omega)).mono ?_
  rintro e w1 ⟨rfl, rfl⟩
  have H4 := Lib.hid (four_fits (isBytes_take (isBytes_drop (bytesI_bytes s) 7) 4) (by rw [List.length_take, List.length_drop, bytesI_length]; omega))
  have HG4 : Hid (getOut (bytesI s) 7 4 = .returned (.tuple #[.int .i64 (dec (((bytesI s).drop 7).take 4)), .int .i64 0])) := getOut_yes (mayB_yes (by omega) (by omega)) (by omega) (by rw [bytesI_length]; omega) H4.out
  have HG : Hid (getOut (bytesI s) 1 6 = .returned (.tuple #[.int .i64 (dec (((bytesI s).drop 1).take 6)), .int .i64 0])) := getOut_yes (mayB_yes (by omega) (by omega)) (by omega) (by rw [bytesI_length]; omega) hf
  rw [HG.out]
  clear hf
  obtain ⟨BY, hBY⟩ : ∃ x, Hid (dec (((bytesI s).drop 1).take 6) = x) := ⟨_, rfl⟩
  rw [hBY.out]
  go_wp2_with fail
  refine (refGet_any s 7 4 _ HM.out (by omega) (by omega)).mono ?_
  rintro e w1 ⟨rfl, rfl⟩
  rw [HG4.out]
  obtain ⟨SER, hSER⟩ : ∃ x, Hid (dec (((bytesI s).drop 7).take 4) = x) := ⟨_, rfl⟩
  rw [hSER.out]
  clear HG HG4 H4
  have hsz0 : 0 < s.size := by omega
  have hk0s : cKindOf (bytesI s) = (s[0].toNat : Int) := byte_at s 0 hsz0
  have hk127' : (s[0].toNat : Int) ≤ 127 := by rw [← hk0s]; have := HH.out; omega
  have hk0 : (0 : Int) ≤ (s[0].toNat : Int) := by omega
  clear hk0s
  go_upto_region 9 with fail
  obtain ⟨kb, hkb⟩ : ∃ x : Nat, s[0].toNat = x := ⟨_, rfl⟩
  have HK : Hid (cKindOf (bytesI s) = (kb : Int)) := by show _ = _; rw [← hkb]; exact byte_at s 0 hsz0
  rw [hkb] at hk127' hk0 ⊢
  clear hkb
  obtain ⟨W1, hW1⟩ : ∃ W, W = (w.alloc (.cells #[.int .i8 0, .int .i64 0, .int .i64 0, .int .i64 0, .int .i64 0, .int .i64 0, .int .i64 0, .int .i8 0] 32)).alloc (.cells #[.int .i8 (kb : Int), .int .i64 BY, .int .i64 SER, .int .i64 0, .int .i64 0, .int .i64 0, .int .i64 0, .int .i8 0] 32) := ⟨_, rfl⟩
  have b1 : Below w.heap.size w W1 := hW1 ▸ b0.alloc b0.size _
  have p1 : Blk W1 w.heap.size #[.int .i8 0, .int .i64 0, .int .i64 0, .int .i64 0, .int .i64 0, .int .i64 0, .int .i64 0, .int .i8 0] 32 := hW1 ▸ p0.alloc _
  have q1 : Blk W1 (w.heap.size + 1) #[.int .i8 (kb : Int), .int .i64 BY, .int .i64 SER, .int .i64 0, .int .i64 0, .int .i64 0, .int .i64 0, .int .i8 0] 32 := by
    have h := Blk.new (w.alloc (.cells #[.int .i8 0, .int .i64 0, .int .i64 0, .int .i64 0, .int .i64 0, .int .i64 0, .int .i64 0, .int .i8 0] 32)) #[.int .i8 (kb : Int), .int .i64 BY, .int .i64 SER, .int .i64 0, .int .i64 0, .int .i64 0, .int .i64 0, .int .i8 0] 32
    rw [hW1]
    simpa using h
  rw [← hW1]
  clear hW1 p0 b0
  have p0 := p1
  have q0 := q1
  have b0 := b1
  have q1lt := q1.lt
  clear p1 q1 b1
  obtain ⟨c0, c1, c2, c3, c4, c5, c6, c7⟩ := cmd_cells q0
  have f3 := q0.free 3
  have f4 := q0.free 4
  have f5 := q0.free 5
  have f6 := q0.free 6
  have f7 := q0.free 7
  have lq := q0.lt
  have hR2 : (s.extract 11 s.size).size = s.size - 11 := by simp
  have HR2 := Lib.hid hR2
  clear hR2
  have e2 : ¬ (kb : Int) = 2 := by rw [← HK.out]; have := HH.out; omega
  have e3 : ¬ (kb : Int) = 3 := by rw [← HK.out]; have := HH.out; omega
  have e4 : ¬ (kb : Int) = 4 := by rw [← HK.out]; have := HH.out; omega
  have e5 : ¬ (kb : Int) = 5 := by rw [← HK.out]; have := HH.out; omega
  have HD : Hid (cRd (bytesI s) = true → cCand (bytesI s) = ⟨(kb : Int), BY, SER, 0, 0, 0, 0, 0⟩) := fun hr => cand_other HK.out hBY.out hSER.out e2 e3 e4 e5
  have k2 : ((kb : Int) == 2) = false := beq_no e2
  have k3 : ((kb : Int) == 3) = false := beq_no e3
  have k4 : ((kb : Int) == 4) = false := beq_no e4
  have k5 : ((kb : Int) == 5) = false := beq_no e5
  clear e2 e3 e4 e5
  go_wp2_with fail
  refine (refBytes_any ((kb : Int)) (BY) (SER) (0) (0) (0) (0) (0) _).mono ?_
  rintro e w9 ⟨rfl, hb9⟩
  have p9 := p0.below hb9 p0.lt
  have q9 := q0.below hb9 q0.lt
  have b9 := below_then b0 hb9
  obtain ⟨g0, g1, g2, g3, g4, g5, g6, g7⟩ := cmd_cells q9
  have lq9 := q9.lt
  clear p0 q0 b0 hb9
  cases hm : cMay ⟨(kb : Int), BY, SER, 0, 0, 0, 0, 0⟩ with
  | false =>
    have HN := Lib.hid (cr_off HD.out (.inl hm))
    have HC := Lib.hid (cm_no hm)
    rw [HC.out.1, HC.out.2]
    clear hm
    have HV := Lib.hid (cr_no HN.out)
    have hth := p9.there
    have bz := setCells_below [.int .i8 0, .int .i64 0, .int .i64 0, .int .i64 0, .int .i64 0, .int .i64 0, .int .i64 0, .int .i8 0] 0 b9 (Nat.le_refl _)
    go_wp2_with (refine wpList_store_mid (op := ⟨none, .store 32 _ _, _, _, _, none⟩) rfl 32 _ _ (by rfl) w.heap.size 0 #[.int .i8 0, .int .i64 0, .int .i64 0, .int .i64 0, .int .i64 0, .int .i64 0, .int .i64 0, .int .i8 0] (by rfl) (by rfl) (by assumption) (by kernel_rfl) (by kernel_rfl) ?_)
    refine bodyPost_ret (results_pair (cs := [.int .i8 0, .int .i64 0, .int .i64 0, .int .i64 0, .int .i64 0, .int .i64 0, .int .i64 0, .int .i8 0]) Tryd.results25 (by rfl) (by rfl) (World.rangeAt_setCells_same _ _ _ _ hth) Tryd.underlying32 rfl (by kernel_rfl)) rfl ?_
    exact ⟨by rw [HV.out.1, HV.out.2] <;> rfl, bz⟩
  | true =>
    have HC := Lib.hid (cm_yes hm)
    have HM2 := Lib.hid hm
    rw [HC.out.2]
    obtain ⟨SS, hS⟩ : ∃ S, Hid (cmS ⟨(kb : Int), BY, SER, 0, 0, 0, 0, 0⟩ = S) := ⟨_, rfl⟩
    rw [hS.out]
    clear hm
    by_cases he : SS = s
    · have HV := Lib.hid (cr_of HM2.out (hS.out.trans he))
      have hss : (SS.toList == s.toList) = true := by rw [he]; exact str_same _
      clear he
      have hth := p9.there
      have bz := setCells_below [.int .i8 (kb : Int), .int .i64 BY, .int .i64 SER, .int .i64 0, .int .i64 0, .int .i64 0, .int .i64 0, .int .i8 0] 0 b9 (Nat.le_refl _)
      go_wp2_with (refine wpList_store_mid (op := ⟨none, .store 32 _ _, _, _, _, none⟩) rfl 32 _ _ (by rfl) w.heap.size 0 #[.int .i8 (kb : Int), .int .i64 BY, .int .i64 SER, .int .i64 0, .int .i64 0, .int .i64 0, .int .i64 0, .int .i8 0] (by rfl) (by rfl) (by assumption) (by kernel_rfl) (by kernel_rfl) ?_)
      refine bodyPost_ret (results_pair (cs := [.int .i8 (kb : Int), .int .i64 BY, .int .i64 SER, .int .i64 0, .int .i64 0, .int .i64 0, .int .i64 0, .int .i8 0]) Tryd.results25 (by rfl) (by rfl) (World.rangeAt_setCells_same _ _ _ _ hth) Tryd.underlying32 rfl (by kernel_rfl)) rfl ?_
      exact ⟨by rw [HV.out.2.1, HV.out.2.2] <;> rfl, bz⟩
    · have HN := Lib.hid (cr_off HD.out (.inr (by rw [hS.out]; exact he)))
      have hss : (SS.toList == s.toList) = false := str_diff he
      clear he
      have HV := Lib.hid (cr_no HN.out)
      have hth := p9.there
      have bz := setCells_below [.int .i8 0, .int .i64 0, .int .i64 0, .int .i64 0, .int .i64 0, .int .i64 0, .int .i64 0, .int .i8 0] 0 b9 (Nat.le_refl _)
      go_wp2_with (refine wpList_store_mid (op := ⟨none, .store 32 _ _, _, _, _, none⟩) rfl 32 _ _ (by rfl) w.heap.size 0 #[.int .i8 0, .int .i64 0, .int .i64 0, .int .i64 0, .int .i64 0, .int .i64 0, .int .i64 0, .int .i8 0] (by rfl) (by rfl) (by assumption) (by kernel_rfl) (by kernel_rfl) ?_)
      refine bodyPost_ret (results_pair (cs := [.int .i8 0, .int .i64 0, .int .i64 0, .int .i64 0, .int .i64 0, .int .i64 0, .int .i64 0, .int .i8 0]) Tryd.results25 (by rfl) (by rfl) (World.rangeAt_setCells_same _ _ _ _ hth) Tryd.underlying32 rfl (by kernel_rfl)) rfl ?_
      exact ⟨by rw [HV.out.1, HV.out.2] <;> rfl, bz⟩

end Go.Proofs.YtjdacpnfgpdjhaaDoor

/-
  The document's commands: bytes read as a command, none: by contract.
-/
namespace Go.Proofs.YtjdacpnfgpdjhaaDoor
open Go.RowKit
set_option linter.unusedVariables false
set_option linter.unusedSimpArgs false

set_option maxRecDepth 100000 in
set_option maxHeartbeats 4000000 in
theorem refRead_n (s : ByteArray) (w : World) (hs : s.size ≤ 17592186044416) (h : s.size < 11 ∨ (11 ≤ s.size ∧ fitsB ((6 : Nat) : Int) (dec (((bytesI s).drop 1).take 6)) = false)) :
    Calls Tryd.prog 25 #[.string s] w fun e w' => e = .returned (.tuple #[.agg (cmdA (crC s)), .int .i64 (crE s)]) ∧ Below w.heap.size w w' := by
  have p0 := Blk.new w #[.int .i8 0, .int .i64 0, .int .i64 0, .int .i64 0, .int .i64 0, .int .i64 0, .int .i64 0, .int .i8 0] 32
  have b0 : Below w.heap.size w (w.alloc (.cells #[.int .i8 0, .int .i64 0, .int .i64 0, .int .i64 0, .int .i64 0, .int .i64 0, .int .i64 0, .int .i8 0] 32)) := one_below _ _
  have HSZ := Lib.hid hs
  by_cases h11 : s.size < 11
  · go_enter Tryd.func25, Tryd.ntmps25
    have HV := Lib.hid (cr_no (cRd_short (l := bytesI s) (by rw [bytesI_length]; exact h11)))
    have hth := p0.there
    have bz := setCells_below [.int .i8 0, .int .i64 0, .int .i64 0, .int .i64 0, .int .i64 0, .int .i64 0, .int .i64 0, .int .i8 0] 0 b0 (Nat.le_refl _)
    go_wp2_with (refine wpList_store_mid (op := ⟨none, .store 32 _ _, _, _, _, none⟩) rfl 32 _ _ (by rfl) w.heap.size 0 #[.int .i8 0, .int .i64 0, .int .i64 0, .int .i64 0, .int .i64 0, .int .i64 0, .int .i64 0, .int .i8 0] (by rfl) (by rfl) (by assumption) (by kernel_rfl) (by kernel_rfl) ?_)
    refine bodyPost_ret (results_pair (cs := [.int .i8 0, .int .i64 0, .int .i64 0, .int .i64 0, .int .i64 0, .int .i64 0, .int .i64 0, .int .i8 0]) Tryd.results25 (by rfl) (by rfl) (World.rangeAt_setCells_same _ _ _ _ hth) Tryd.underlying32 rfl (by kernel_rfl)) rfl ?_
    exact ⟨by rw [HV.out.1, HV.out.2] <;> rfl, bz⟩
  · have g11 : 11 ≤ s.size := by omega
    have hM : s.size ≤ maxLen := by unfold maxLen; omega
    have HM := Lib.hid hM
    clear h11 hM
    go_enter Tryd.func25, Tryd.ntmps25
    go_wp2_with fail
    refine (refGet_any s 1 6 _ HM.out (by omega) (by omega)).mono ?_
    rintro e w1 ⟨rfl, rfl⟩
    have H4 := Lib.hid (four_fits (isBytes_take (isBytes_drop (bytesI_bytes s) 7) 4) (by rw [List.length_take, List.length_drop, bytesI_length]; omega))
    have HG4 : Hid (getOut (bytesI s) 7 4 = .returned (.tuple #[.int .i64 (dec (((bytesI s).drop 7).take 4)), .int .i64 0])) := getOut_yes (mayB_yes (by omega) (by omega)) (by omega) (by rw [bytesI_length]; omega) H4.out
    obtain hf : fitsB ((6 : Nat) : Int) (dec (((bytesI s).drop 1).take 6)) = false := by
      rcases h with h | h
      · omega
      · exact h.2
    · skip
      have HG : Hid (getOut (bytesI s) 1 6 = .returned (.tuple #[.int .i64 0, .int .i64 10])) := getOut_great (mayB_yes (by omega) (by omega)) hf
      have HR := Lib.hid (rd_great (l := bytesI s) (by rw [bytesI_length]; omega) (bytesI_bytes s) hf)
      rw [HG.out]
      clear hf H4
      go_wp2_with fail
      refine (refGet_any s 7 4 _ HM.out (by omega) (by omega)).mono ?_
      rintro e w1 ⟨rfl, rfl⟩
      rw [HG4.out]
      generalize dec (((bytesI s).drop 7).take 4) = SER at *
      have HV := Lib.hid (cr_no HR.out)
      have hth := p0.there
      have bz := setCells_below [.int .i8 0, .int .i64 0, .int .i64 0, .int .i64 0, .int .i64 0, .int .i64 0, .int .i64 0, .int .i8 0] 0 b0 (Nat.le_refl _)
      go_wp2_with (refine wpList_store_mid (op := ⟨none, .store 32 _ _, _, _, _, none⟩) rfl 32 _ _ (by rfl) w.heap.size 0 #[.int .i8 0, .int .i64 0, .int .i64 0, .int .i64 0, .int .i64 0, .int .i64 0, .int .i64 0, .int .i8 0] (by rfl) (by rfl) (by assumption) (by kernel_rfl) (by kernel_rfl) ?_)
      refine bodyPost_ret (results_pair (cs := [.int .i8 0, .int .i64 0, .int .i64 0, .int .i64 0, .int .i64 0, .int .i64 0, .int .i64 0, .int .i8 0]) Tryd.results25 (by rfl) (by rfl) (World.rangeAt_setCells_same _ _ _ _ hth) Tryd.underlying32 rfl (by kernel_rfl)) rfl ?_
      exact ⟨by rw [HV.out.1, HV.out.2] <;> rfl, bz⟩

set_option maxRecDepth 100000 in
set_option maxHeartbeats 4000000 in
theorem refRead_g (s : ByteArray) (w : World) (hs : s.size ≤ 17592186044416) (g11 : 11 ≤ s.size) (hf : fitsB ((6 : Nat) : Int) (dec (((bytesI s).drop 1).take 6)) = true) (hk : 127 < cKindOf (bytesI s)) :
    Calls Tryd.prog 25 #[.string s] w fun e w' => e = .returned (.tuple #[.agg (cmdA (crC s)), .int .i64 (crE s)]) ∧ Below w.heap.size w w' := by
  have p0 := Blk.new w #[.int .i8 0, .int .i64 0, .int .i64 0, .int .i64 0, .int .i64 0, .int .i64 0, .int .i64 0, .int .i8 0] 32
  have b0 : Below w.heap.size w (w.alloc (.cells #[.int .i8 0, .int .i64 0, .int .i64 0, .int .i64 0, .int .i64 0, .int .i64 0, .int .i64 0, .int .i8 0] 32)) := one_below _ _
  have HSZ := Lib.hid hs
  have HH := Lib.hid hk
  have hM : s.size ≤ maxLen := by unfold maxLen; omega
  have HM := Lib.hid hM
  clear hM hk
  go_enter Tryd.func25, Tryd.ntmps25
  go_wp2_with fail
  refine (refGet_any s 1 6 _ HM.out (by omega) (by omega)).mono ?_
  rintro e w1 ⟨rfl, rfl⟩
  have H4 := Lib.hid (four_fits (isBytes_take (isBytes_drop (bytesI_bytes s) 7) 4) (by rw [List.length_take, List.length_drop, bytesI_length]; omega))
  have HG4 : Hid (getOut (bytesI s) 7 4 = .returned (.tuple #[.int .i64 (dec (((bytesI s).drop 7).take 4)), .int .i64 0])) := getOut_yes (mayB_yes (by omega) (by omega)) (by omega) (by rw [bytesI_length]; omega) H4.out
  have HG : Hid (getOut (bytesI s) 1 6 = .returned (.tuple #[.int .i64 (dec (((bytesI s).drop 1).take 6)), .int .i64 0])) := getOut_yes (mayB_yes (by omega) (by omega)) (by omega) (by rw [bytesI_length]; omega) hf
  rw [HG.out]
  clear hf
  obtain ⟨BY, hBY⟩ : ∃ x, Hid (dec (((bytesI s).drop 1).take 6) = x) := ⟨_, rfl⟩
  rw [hBY.out]
  go_wp2_with fail
  refine (refGet_any s 7 4 _ HM.out (by omega) (by omega)).mono ?_
  rintro e w1 ⟨rfl, rfl⟩
  rw [HG4.out]
  obtain ⟨SER, hSER⟩ : ∃ x, Hid (dec (((bytesI s).drop 7).take 4) = x) := ⟨_, rfl⟩
  rw [hSER.out]
  clear HG HG4 H4
  have hsz0 : 0 < s.size := by omega
  have hk0s : cKindOf (bytesI s) = (s[0].toNat : Int) := byte_at s 0 hsz0
  have HR := Lib.hid (rd_kind HH.out)
  have hk127 : 127 < (s[0].toNat : Int) := by rw [← hk0s]; exact HH.out
  clear hk0s
  have HV := Lib.hid (cr_no HR.out)
  have hth := p0.there
  have bz := setCells_below [.int .i8 0, .int .i64 0, .int .i64 0, .int .i64 0, .int .i64 0, .int .i64 0, .int .i64 0, .int .i8 0] 0 b0 (Nat.le_refl _)
  go_wp2_with (refine wpList_store_mid (op := ⟨none, .store 32 _ _, _, _, _, none⟩) rfl 32 _ _ (by rfl) w.heap.size 0 #[.int .i8 0, .int .i64 0, .int .i64 0, .int .i64 0, .int .i64 0, .int .i64 0, .int .i64 0, .int .i8 0] (by rfl) (by rfl) (by assumption) (by kernel_rfl) (by kernel_rfl) ?_)
  refine bodyPost_ret (results_pair (cs := [.int .i8 0, .int .i64 0, .int .i64 0, .int .i64 0, .int .i64 0, .int .i64 0, .int .i64 0, .int .i8 0]) Tryd.results25 (by rfl) (by rfl) (World.rangeAt_setCells_same _ _ _ _ hth) Tryd.underlying32 rfl (by kernel_rfl)) rfl ?_
  exact ⟨by rw [HV.out.1, HV.out.2] <;> rfl, bz⟩

end Go.Proofs.YtjdacpnfgpdjhaaDoor

/-
  The document's commands: bytes read as a command, all kinds: by contract.
-/
namespace Go.Proofs.YtjdacpnfgpdjhaaDoor
open Go.RowKit
set_option linter.unusedVariables false
set_option linter.unusedSimpArgs false

set_option maxRecDepth 100000 in
set_option maxHeartbeats 4000000 in
theorem refRead_any (s : ByteArray) (w : World) (hs : s.size ≤ 17592186044416) :
    Calls Tryd.prog 25 #[.string s] w fun e w' => e = .returned (.tuple #[.agg (cmdA (crC s)), .int .i64 (crE s)]) ∧ Below w.heap.size w w' := by
  by_cases h11 : 11 ≤ s.size
  · cases hf : fitsB ((6 : Nat) : Int) (dec (((bytesI s).drop 1).take 6)) with
    | true =>
      by_cases k1 : 127 < cKindOf (bytesI s)
      · exact refRead_g s w hs h11 hf k1
      by_cases k2 : cKindOf (bytesI s) = 2
      · exact refRead_2 s w hs h11 hf k2
      by_cases k3 : cKindOf (bytesI s) = 3
      · exact refRead_3 s w hs h11 hf k3
      by_cases k4 : cKindOf (bytesI s) = 4
      · exact refRead_4 s w hs h11 hf k4
      by_cases k5 : cKindOf (bytesI s) = 5
      · exact refRead_5 s w hs h11 hf k5
      exact refRead_o s w hs h11 hf ⟨by omega, k2, k3, k4, k5⟩
    | false => exact refRead_n s w hs (.inr ⟨h11, hf⟩)
  · exact refRead_n s w hs (.inl (by omega))

end Go.Proofs.YtjdacpnfgpdjhaaDoor

/-
  The document's decided sectors: a command's sector, and what a sector says: by contract.
-/
namespace Go.Proofs.YtjdacpnfgpdjhaaDoor
open Go.RowKit
set_option linter.unusedVariables false
set_option linter.unusedSimpArgs false

theorem cr_is {s : ByteArray} (h : cIs s = true) : crC s = cOfText s ∧ crE s = 0 := cr_yes h
theorem cr_isnt {s : ByteArray} (h : cIs s = false) : crC s = zeroC ∧ crE s = 100 := cr_no h
theorem dV_yes {s : ByteArray} (h : cIs s = true) : dV s = dSec s ∧ dE s = 0 := ⟨if_pos h, if_pos h⟩
theorem dV_no {s : ByteArray} (h : cIs s = false) : dV s = ⟨#[]⟩ ∧ dE s = 2 := ⟨if_neg (by rw [h]; simp), if_neg (by rw [h]; simp)⟩

set_option maxRecDepth 100000 in
set_option maxHeartbeats 1000000 in
theorem refDBytes_any (s : ByteArray) (w : World) (hs : s.size ≤ 17592186044416) :
    Calls Tryd.prog 9 #[.string s] w fun e w' => e = .returned (.tuple #[.string (dV s), .int .i64 (dE s)]) ∧ Below w.heap.size w w' := by
  go_enter Tryd.func9, Tryd.ntmps9
  go_wp2_with fail
  refine (refRead_any s _ hs).mono ?_
  rintro e w1 ⟨rfl, hb1⟩
  obtain ⟨⟨k, b, sr, d, a, lo, hi, m⟩, hc⟩ : ∃ c, Hid (crC s = c) := ⟨_, rfl⟩
  rw [hc.out, show cmdA ⟨k, b, sr, d, a, lo, hi, m⟩ = #[.int .i8 k, .int .i64 b, .int .i64 sr, .int .i64 d, .int .i64 a, .int .i64 lo, .int .i64 hi, .int .i8 m] from rfl]
  have b2 := below_then hb1 ((Below.refl w1.heap.size w1).alloc (Nat.le_refl _) (.cells #[.int .i8 k, .int .i64 b, .int .i64 sr, .int .i64 d, .int .i64 a, .int .i64 lo, .int .i64 hi, .int .i8 m] 32))
  cases hr : cIs s with
  | false =>
    have HV := Lib.hid (dV_no hr)
    rw [(cr_isnt hr).2]
    clear hr hb1
    go_wp2_with fail
    go_ret2
    exact ⟨by rw [HV.out.1, HV.out.2] <;> rfl, b2⟩
  | true =>
    have HV := Lib.hid (dV_yes hr)
    have hz := cIs_size hr
    have hm : mayS 5 s = true := mayS_yes (by omega) (by omega)
    have HO := Lib.hid (sealOut_yes hm)
    rw [(cr_is hr).2]
    clear hr hb1 hm
    go_wp2_with fail
    refine (refSeal_any 5 s _ (by omega) (by unfold maxLen; omega)).mono ?_
    rintro e w3 ⟨rfl, hb3⟩
    rw [HO.out]
    have b3 := below_then b2 hb3
    clear hb3 b2
    go_wp2_with fail
    go_ret2
    exact ⟨by rw [HV.out.1, HV.out.2] <;> rfl, b3⟩

/-! ### What a sector says -/
def drC (s : ByteArray) : CmdM := if dRd s = true then cOfText (loadS s) else zeroC
def drS (s : ByteArray) : ByteArray := if dRd s = true then loadS s else ⟨#[]⟩
def drE (s : ByteArray) : Int := if dRd s = true then 0 else if s = ⟨#[]⟩ then 0 else 50
theorem dr_yes {s : ByteArray} (h : dRd s = true) : drC s = cOfText (loadS s) ∧ drS s = loadS s ∧ drE s = 0 := ⟨if_pos h, if_pos h, if_pos h⟩
theorem dr_none {s : ByteArray} (h : s = ⟨#[]⟩) : drC s = zeroC ∧ drS s = ⟨#[]⟩ ∧ dRd s = false ∧ drE s = 0 := by
  subst h
  have h := dRd_empty
  refine ⟨if_neg (by rw [h]; simp), if_neg (by rw [h]; simp), h, ?_⟩
  unfold drE
  rw [h]
  simp
theorem dr_bad {s : ByteArray} (h : dRd s = false) (h2 : ¬ s = ⟨#[]⟩) : drC s = zeroC ∧ drS s = ⟨#[]⟩ ∧ drE s = 50 := by
  refine ⟨if_neg (by rw [h]; simp), if_neg (by rw [h]; simp), ?_⟩
  unfold drE
  rw [h, if_neg (by simp), if_neg h2]
theorem results_four {P : Program} {fn : Func} {t u v x : Tmp} {ty : TypeId} (h : fn.results = #[.cell t ty, .tmp u, .tmp v, .tmp x]) {tmps : Array Value} {w : World} {b : Nat} {cs : List Value} {d : TypeDesc} {a1 a2 a3 : Value}
    (hp : tmps.getD t undef = .pointer (some ⟨b, 0, none⟩)) (hv : tmps.getD u undef = a1) (hv2 : tmps.getD v undef = a2) (hv3 : tmps.getD x undef = a3) (hr : w.rangeAt b 0 cs) (hu : P.underlying ty = some d) (hd : d.isRow = true) (hi : (P.info? ty).map (·.size) = some cs.length) :
    (results fn tmps).run P w = .ok (.tuple #[.agg cs.toArray, a1, a2, a3]) w := by
  have hp' : tmps[t]?.getD undef = .pointer (some ⟨b, 0, none⟩) := by simpa using hp
  have hv' : tmps[u]?.getD undef = a1 := by simpa using hv
  have hv2' : tmps[v]?.getD undef = a2 := by simpa using hv2
  have hv3' : tmps[x]?.getD undef = a3 := by simpa using hv3
  simp [results, h, hp', hv', hv2', hv3', asAddr, run_loadVar_mid w b 0 ty cs d hr hu hd hi]

set_option maxRecDepth 100000 in
set_option maxHeartbeats 1000000 in
theorem refDRead_any (s : ByteArray) (w : World) (hM : s.size ≤ maxLen) :
    Calls Tryd.prog 11 #[.string s] w fun e w' => e = .returned (.tuple #[.agg (cmdA (drC s)), .string (drS s), .bool (dRd s), .int .i64 (drE s)]) ∧ Below w.heap.size w w' := by
  have q0 := Blk.new w #[.int .i8 0, .int .i64 0, .int .i64 0, .int .i64 0, .int .i64 0, .int .i64 0, .int .i64 0, .int .i8 0] 32
  have b0 : Below w.heap.size w (w.alloc (.cells #[.int .i8 0, .int .i64 0, .int .i64 0, .int .i64 0, .int .i64 0, .int .i64 0, .int .i64 0, .int .i8 0] 32)) := (Below.refl _ _).alloc (Nat.le_refl _) _
  go_enter Tryd.func11, Tryd.ntmps11
  by_cases he : s = ⟨#[]⟩
  · have HV := Lib.hid (dr_none he)
    have hth := q0.there
    have bz := setCells_below [.int .i8 0, .int .i64 0, .int .i64 0, .int .i64 0, .int .i64 0, .int .i64 0, .int .i64 0, .int .i8 0] 0 b0 (Nat.le_refl _)
    have hq : s.toList.isEmpty = true := by rw [he]; kernel_rfl
    clear he
    go_wp2_with (refine wpList_store_mid (op := ⟨none, .store 32 _ _, _, _, _, none⟩) rfl 32 _ _ (by rfl) w.heap.size 0 #[.int .i8 0, .int .i64 0, .int .i64 0, .int .i64 0, .int .i64 0, .int .i64 0, .int .i64 0, .int .i8 0] (by rfl) (by rfl) (by assumption) (by kernel_rfl) (by kernel_rfl) ?_)
    refine bodyPost_ret (results_four (cs := [.int .i8 0, .int .i64 0, .int .i64 0, .int .i64 0, .int .i64 0, .int .i64 0, .int .i64 0, .int .i8 0]) Tryd.results11 (by rfl) (by rfl) (by rfl) (by rfl) (World.rangeAt_setCells_same _ _ _ _ hth) Tryd.underlying32 rfl (by kernel_rfl)) rfl ?_
    exact ⟨by rw [HV.out.1, HV.out.2.1, HV.out.2.2.1, HV.out.2.2.2] <;> rfl, bz⟩
  · have hq : s.toList.isEmpty = false := by
      have h := str_diff he
      rw [show (⟨#[]⟩ : ByteArray).toList = [] by kernel_rfl] at h
      cases hs : s.toList with
      | nil => rw [hs] at h; cases h
      | cons x l => rfl
    have HE := Lib.hid he
    clear he
    go_wp2_with fail
    refine (refOf_any 5 s _ hM).mono ?_
    rintro e w1 ⟨rfl, hb1⟩
    have q1 := q0.below hb1 q0.lt
    have b1 := below_then b0 hb1
    clear q0 b0 hb1 hM
    cases ho : ofS 5 s with
    | false =>
      have hd : dRd s = false := by unfold dRd; rw [ho]; rfl
      have HV := Lib.hid (dr_bad hd HE.out)
      have HD := Lib.hid hd
      rw [ofOut_no ho]
      have hth := q1.there
      have bz := setCells_below [.int .i8 0, .int .i64 0, .int .i64 0, .int .i64 0, .int .i64 0, .int .i64 0, .int .i64 0, .int .i8 0] 0 b1 (Nat.le_refl _)
      clear ho hd
      go_wp2_with (refine wpList_store_mid (op := ⟨none, .store 32 _ _, _, _, _, none⟩) rfl 32 _ _ (by rfl) w.heap.size 0 #[.int .i8 0, .int .i64 0, .int .i64 0, .int .i64 0, .int .i64 0, .int .i64 0, .int .i64 0, .int .i8 0] (by rfl) (by rfl) (by assumption) (by kernel_rfl) (by kernel_rfl) ?_)
      refine bodyPost_ret (results_four (cs := [.int .i8 0, .int .i64 0, .int .i64 0, .int .i64 0, .int .i64 0, .int .i64 0, .int .i64 0, .int .i8 0]) Tryd.results11 (by rfl) (by rfl) (by rfl) (by rfl) (World.rangeAt_setCells_same _ _ _ _ hth) Tryd.underlying32 rfl (by kernel_rfl)) rfl ?_
      exact ⟨by rw [HV.out.1, HV.out.2.1, HV.out.2.2, HD.out] <;> rfl, bz⟩
    | true =>
      have his : isS s = true := by unfold ofS at ho; rw [Bool.and_eq_true] at ho; exact ho.1
      have hsz := (seal_open his).2.1
      obtain ⟨t, ht⟩ : ∃ t, Hid (loadS s = t) := ⟨_, rfl⟩
      rw [ofOut_yes ho, ht.out]
      rw [ht.out] at hsz
      have HO := Lib.hid ho
      clear ho his
      go_wp2_with fail
      refine (refRead_any t _ (by omega)).mono ?_
      rintro e w2 ⟨rfl, hb2⟩
      have q2 := q1.below hb2 q1.lt
      have b2 := below_then b1 hb2
      clear q1 b1 hb2
      obtain ⟨⟨k, b, sr, d, a, lo, hi, m⟩, hc⟩ : ∃ c, Hid (crC t = c) := ⟨_, rfl⟩
      rw [hc.out, show cmdA ⟨k, b, sr, d, a, lo, hi, m⟩ = #[.int .i8 k, .int .i64 b, .int .i64 sr, .int .i64 d, .int .i64 a, .int .i64 lo, .int .i64 hi, .int .i8 m] from rfl]
      have pk := Blk.new w2 #[.int .i8 k, .int .i64 b, .int .i64 sr, .int .i64 d, .int .i64 a, .int .i64 lo, .int .i64 hi, .int .i8 m] 32
      have bk : Below w2.heap.size w2 (w2.alloc (.cells #[.int .i8 k, .int .i64 b, .int .i64 sr, .int .i64 d, .int .i64 a, .int .i64 lo, .int .i64 hi, .int .i8 m] 32)) := (Below.refl _ _).alloc (Nat.le_refl _) _
      have q3 := q2.below bk q2.lt
      have b3 := below_then b2 bk
      have hl2 := q2.lt
      cases hr : cIs t with
      | false =>
        have hd : dRd s = false := by unfold dRd; rw [ht.out, hr, Bool.and_false]
        have HV := Lib.hid (dr_bad hd HE.out)
        have HD := Lib.hid hd
        rw [(cr_isnt hr).2]
        have hth := q3.there
        have bz := setCells_below [.int .i8 0, .int .i64 0, .int .i64 0, .int .i64 0, .int .i64 0, .int .i64 0, .int .i64 0, .int .i8 0] 0 b3 (Nat.le_refl _)
        clear hr hd pk bk q2
        go_wp2_with (refine wpList_store_mid (op := ⟨none, .store 32 _ _, _, _, _, none⟩) rfl 32 _ _ (by rfl) w.heap.size 0 #[.int .i8 0, .int .i64 0, .int .i64 0, .int .i64 0, .int .i64 0, .int .i64 0, .int .i64 0, .int .i8 0] (by rfl) (by rfl) (by assumption) (by kernel_rfl) (by kernel_rfl) ?_)
        refine bodyPost_ret (results_four (cs := [.int .i8 0, .int .i64 0, .int .i64 0, .int .i64 0, .int .i64 0, .int .i64 0, .int .i64 0, .int .i8 0]) Tryd.results11 (by rfl) (by rfl) (by rfl) (by rfl) (World.rangeAt_setCells_same _ _ _ _ hth) Tryd.underlying32 rfl (by kernel_rfl)) rfl ?_
        exact ⟨by rw [HV.out.1, HV.out.2.1, HV.out.2.2, HD.out] <;> rfl, bz⟩
      | true =>
        have hd : dRd s = true := by unfold dRd; rw [ht.out, hr, HO.out]; rfl
        have HV := Lib.hid (dr_yes hd)
        have HD := Lib.hid hd
        have HC : Hid (cOfText (loadS s) = ⟨k, b, sr, d, a, lo, hi, m⟩) := by show _ = _; rw [ht.out, ← (cr_is hr).1, hc.out]
        rw [(cr_is hr).2]
        have hth := q3.there
        have bz := setCells_below [.int .i8 k, .int .i64 b, .int .i64 sr, .int .i64 d, .int .i64 a, .int .i64 lo, .int .i64 hi, .int .i8 m] 0 b3 (Nat.le_refl _)
        obtain ⟨c0, c1, c2, c3, c4, c5, c6, c7⟩ := cmd_cells pk
        have hlk := pk.lt
        clear hr hd bk q2
        go_wp2_with (refine wpList_store_mid (op := ⟨none, .store 32 _ _, _, _, _, none⟩) rfl 32 _ _ (by rfl) w.heap.size 0 #[.int .i8 k, .int .i64 b, .int .i64 sr, .int .i64 d, .int .i64 a, .int .i64 lo, .int .i64 hi, .int .i8 m] (by rfl) (by rfl) (by assumption) (by kernel_rfl) (by kernel_rfl) ?_)
        refine bodyPost_ret (results_four (cs := [.int .i8 k, .int .i64 b, .int .i64 sr, .int .i64 d, .int .i64 a, .int .i64 lo, .int .i64 hi, .int .i8 m]) Tryd.results11 (by rfl) (by rfl) (by rfl) (by rfl) (World.rangeAt_setCells_same _ _ _ _ hth) Tryd.underlying32 rfl (by kernel_rfl)) rfl ?_
        exact ⟨by rw [HV.out.1, HC.out, HV.out.2.1, ht.out, HV.out.2.2, HD.out] <;> rfl, bz⟩

end Go.Proofs.YtjdacpnfgpdjhaaDoor

/-
  The program's commands: what is written, and its numbers put one behind the other: by contract.
-/
namespace Go.Proofs.YtjdacpnfgpdjhaaDoor
open Go.RowKit
set_option linter.unusedVariables false
set_option linter.unusedSimpArgs false

/-- What is written, in a block of its own: the command's cells, and its bytes so far. -/
def WrAt (w : World) (q B : Nat) (c : CmdM) (n : Nat) (xs : List Int) : Prop :=
  ∃ A p, Blk w q #[.int .i8 c.kind, .int .i64 c.by_, .int .i64 c.serial, .int .i64 c.dead, .int .i64 c.was, .int .i64 c.lo, .int .i64 c.hi, .int .i8 c.mode, .slice A n p] 76 ∧
    w.ownsRow B 5 1 (.slice A n p) n (xs.map (Value.int .u8)) ∧ q < B ∧ B ≤ w.heap.size
theorem WrAt.cells {w : World} {q B n : Nat} {k b s d a lo hi m : Int} {xs : List Int} (h : WrAt w q B ⟨k, b, s, d, a, lo, hi, m⟩ n xs) :
    w.cell? ⟨q, 0, none⟩ = some (.int .i8 k) ∧ w.cell? ⟨q, 1, none⟩ = some (.int .i64 b) ∧ w.cell? ⟨q, 2, none⟩ = some (.int .i64 s) ∧ w.cell? ⟨q, 3, none⟩ = some (.int .i64 d) ∧
    w.cell? ⟨q, 4, none⟩ = some (.int .i64 a) ∧ w.cell? ⟨q, 5, none⟩ = some (.int .i64 lo) ∧ w.cell? ⟨q, 6, none⟩ = some (.int .i64 hi) ∧ w.cell? ⟨q, 7, none⟩ = some (.int .i8 m) := by
  obtain ⟨A, p, h, _⟩ := h
  exact ⟨h.cell 0 _ rfl, h.cell 1 _ rfl, h.cell 2 _ rfl, h.cell 3 _ rfl, h.cell 4 _ rfl, h.cell 5 _ rfl, h.cell 6 _ rfl, h.cell 7 _ rfl⟩
theorem WrAt.frees {w : World} {q B n : Nat} {c : CmdM} {xs : List Int} (h : WrAt w q B c n xs) :
    w.frozen? ⟨q, 0, none⟩ = false ∧ w.frozen? ⟨q, 1, none⟩ = false ∧ w.frozen? ⟨q, 2, none⟩ = false ∧ w.frozen? ⟨q, 3, none⟩ = false ∧
    w.frozen? ⟨q, 4, none⟩ = false ∧ w.frozen? ⟨q, 5, none⟩ = false ∧ w.frozen? ⟨q, 6, none⟩ = false ∧ w.frozen? ⟨q, 7, none⟩ = false := by
  obtain ⟨A, p, h, _⟩ := h
  exact ⟨h.free 0, h.free 1, h.free 2, h.free 3, h.free 4, h.free 5, h.free 6, h.free 7⟩
theorem WrAt.lt {w : World} {q B n : Nat} {c : CmdM} {xs : List Int} (h : WrAt w q B c n xs) : q < w.heap.size := by
  obtain ⟨A, p, h, _⟩ := h
  exact h.lt
/-- A number of its own is stored where it stands. -/
theorem WrAt.same {w : World} {q B n : Nat} {c : CmdM} {xs : List Int} (h : WrAt w q B c n xs) {o : Nat} {v : Value} (hv : w.cell? ⟨q, o, none⟩ = some v) (ho : o < 8) : WrAt (w.setCell ⟨q, o, none⟩ v) q B c n xs := by
  obtain ⟨A, p, h1, h2, h3, h4⟩ := h
  refine ⟨A, p, ?_, ownsRow_setCell_below h2 h3 v, h3, by simpa [World.setCell] using h4⟩
  have h5 := h1.set o v
  have h6 : ∀ (cs : Array Value), cs[o]? = some v → cs.setIfInBounds o v = cs := fun cs hc => by
    obtain ⟨hlt, rfl⟩ := Array.getElem?_eq_some_iff.1 hc
    apply Array.ext
    · simp
    · intro i h7 h8
      rw [Array.getElem_setIfInBounds]
      split
      · rename_i h9; subst h9; rfl
      · rfl
      all_goals exact h8
  rw [h6 _ ?_] at h5
  · exact h5
  · rw [← hv]
    rcases o with _ | _ | _ | _ | _ | _ | _ | _ | o
    · exact (h1.cell 0 _ rfl).symm
    · exact (h1.cell 1 _ rfl).symm
    · exact (h1.cell 2 _ rfl).symm
    · exact (h1.cell 3 _ rfl).symm
    · exact (h1.cell 4 _ rfl).symm
    · exact (h1.cell 5 _ rfl).symm
    · exact (h1.cell 6 _ rfl).symm
    · exact (h1.cell 7 _ rfl).symm
    · omega
theorem WrAt.below {w w' : World} {q B n : Nat} {c : CmdM} {xs : List Int} (h : WrAt w q B c n xs) (hb : Below w.heap.size w w') : WrAt w' q B c n xs := by
  obtain ⟨A, p, h1, h2, h3, h4⟩ := h
  exact ⟨A, p, h1.below hb h1.lt, own_up0 h2 hb, h3, Nat.le_trans h4 hb.size⟩

set_option maxRecDepth 100000 in
theorem wput_any (X : Nat) (x : Int) (n q B : Nat) (k b s d a lo hi m : Int) (xs : List Int) (w : World) (h : WrAt w q B ⟨k, b, s, d, a, lo, hi, m⟩ n xs) (hf : fitsB X x = true) (hn : n ≤ 1000) :
    Calls Tryd.prog 58 #[.pointer (some ⟨q, 0, none⟩), .int .i64 x, .int .i64 X] w fun e w' => e = .returned (.int .i64 x) ∧ WrAt w' q B ⟨k, b, s, d, a, lo, hi, m⟩ (n + X) (xs ++ enc X x) ∧ Below q w w' := by
  obtain ⟨A, p, h1, h2, h3, h4⟩ := h
  have hl := Lies.of_own h2
  have hq := h1.lt
  have c8 := h1.cell 8 _ rfl
  have HL : Hid (xs.length = n) := by show _ = _; have := hl.1; simpa using this
  go_enter Tryd.func58, Tryd.ntmps58
  go_wp2_with fail
  refine (numPut_any (X : Int) A (some ⟨w.heap.size, 0, none⟩) n 1 p 1 xs [x] _ (hl.alloc _) (lies_int w 3 x rfl) (by omega) (by omega)).mono ?_
  intro e w1 hpost
  obtain ⟨v1, rfl, hown1, hb1⟩ := put_single hf hpost
  rw [HL.out] at hown1
  have b1 : Below w.heap.size w w1 := below_then (boxed_new w _) hb1
  have p1 := h1.below b1 h1.lt
  have f8 := p1.free 8
  have c8' := p1.cell 8 _ rfl
  have hq1 := p1.lt
  obtain ⟨A1, q1, rfl⟩ := own_shape hown1
  have hown1 := own_less0 hown1 (show B ≤ _ by simp; omega)
  have P : WrAt (w1.setCell ⟨q, 8, none⟩ (.slice A1 (n + X) q1)) q B ⟨k, b, s, d, a, lo, hi, m⟩ (n + X) (xs ++ enc X x) :=
    ⟨A1, q1, p1.set 8 _, ownsRow_setCell_below hown1 h3 _, h3, by simpa [World.setCell] using Nat.le_trans h4 b1.size⟩
  have b2 : Below q w (w1.setCell ⟨q, 8, none⟩ (.slice A1 (n + X) q1)) := (b1.mono (by omega)).setCell (by simp) _
  clear hpost hb1 hown1 h1 h2 hl c8
  go_wp2_with fail
  go_ret
  exact ⟨rfl, P, b2⟩

theorem fits_small {X : Nat} {x : Int} (h1 : 1 ≤ X) (h6 : X ≤ 6) (h0 : 0 ≤ x) (hx : x < 256) : fitsB X x = true := by
  obtain h | h | h | h | h | h : X = 1 ∨ X = 2 ∨ X = 3 ∨ X = 4 ∨ X = 5 ∨ X = 6 := by omega
  all_goals
    subst h
    exact fitsB_yes (by omega) (by omega) h0 (by simp [mostOf]; omega)
theorem was_fits {a : Int} (h : a = 0 ∨ cKey a = true) : fitsB ((6 : Nat) : Int) a = true := by
  rcases h with rfl | h
  · exact fitsB_yes (by omega) (by omega) (by omega) (by simp [mostOf])
  · exact key_fits h
theorem enc1 {k : Int} (h0 : 0 ≤ k) (h1 : k < 256) : enc 1 k = [k] := by
  simp [enc]
  omega

set_option maxRecDepth 100000 in
set_option maxHeartbeats 1000000 in
theorem eachPut_any (q B : Nat) (k b s d a lo hi m : Int) (w : World) (h : WrAt w q B ⟨k, b, s, d, a, lo, hi, m⟩ 0 []) (hm : cMay ⟨k, b, s, d, a, lo, hi, m⟩ = true) :
    Calls Tryd.prog 57 #[.pointer (some ⟨q, 0, none⟩), .func (.func 58) #[.pointer (some ⟨q, 0, none⟩)] #[]] w fun e w' => e = .returned (.tuple #[]) ∧ WrAt w' q B ⟨k, b, s, d, a, lo, hi, m⟩ (cLen k) (cEnc ⟨k, b, s, d, a, lo, hi, m⟩) ∧ Below q w w' := by
  obtain ⟨hb, hs, hk⟩ := cMay_iff.1 hm
  have hkd := cKind_bd hk
  simp only at hb hs hkd
  have HB := Lib.hid (key_fits hb)
  have HS := Lib.hid (serial_fits hs)
  have HK := Lib.hid hk
  obtain ⟨kd0, kd1⟩ := hkd
  have HKF := Lib.hid (fits_small (X := 1) (by omega) (by omega) kd0 (by omega : k < 256))
  have HE : Hid (cEnc ⟨k, b, s, d, a, lo, hi, m⟩ = ((enc 1 k ++ enc 6 b) ++ enc 4 s) ++ cTail ⟨k, b, s, d, a, lo, hi, m⟩) := by show _ = _; rw [enc1 kd0 (by omega)]; simp [cEnc]
  clear hb hs hk hm
  obtain ⟨c0, c1, c2, c3, c4, c5, c6, c7⟩ := h.cells
  obtain ⟨f0, f1, f2, f3, f4, f5, f6, f7⟩ := h.frees
  have hq := h.lt
  have hs : 0 < w.heap.size := by omega
  go_enter Tryd.func57, Tryd.ntmps57
  go_wp2_with fail
  refine (wput_any 1 k (0) q B k b s d a lo hi m ([]) _ h HKF.out (by omega)).mono ?_
  rintro e w1 ⟨rfl, P1, b1⟩
  clear h c0 c1 c2 c3 c4 c5 c6 c7 f0 f1 f2 f3 f4 f5 f6 f7 hq
  obtain ⟨c0, c1, c2, c3, c4, c5, c6, c7⟩ := P1.cells
  obtain ⟨f0, f1, f2, f3, f4, f5, f6, f7⟩ := P1.frees
  have hq := P1.lt
  have Q1 := P1.same c0 (by omega)
  have d1 : Below q w (w1.setCell ⟨q, 0, none⟩ (.int .i8 k)) := b1.setCell (Nat.le_refl q) _
  go_wp2_with fail
  refine (wput_any 6 b (0 + 1) q B k b s d a lo hi m ([] ++ enc 1 k) _ Q1 HB.out (by omega)).mono ?_
  rintro e w2 ⟨rfl, P2, b2⟩
  have b2 := Below.trans d1 b2
  clear P1 b1 Q1 d1 c0 c1 c2 c3 c4 c5 c6 c7 f0 f1 f2 f3 f4 f5 f6 f7 hq
  obtain ⟨c0, c1, c2, c3, c4, c5, c6, c7⟩ := P2.cells
  obtain ⟨f0, f1, f2, f3, f4, f5, f6, f7⟩ := P2.frees
  have hq := P2.lt
  have Q2 := P2.same c1 (by omega)
  have d2 : Below q w (w2.setCell ⟨q, 1, none⟩ (.int .i64 b)) := b2.setCell (Nat.le_refl q) _
  go_wp2_with fail
  refine (wput_any 4 s (0 + 1 + 6) q B k b s d a lo hi m ([] ++ enc 1 k ++ enc 6 b) _ Q2 HS.out (by omega)).mono ?_
  rintro e w3 ⟨rfl, P3, b3⟩
  have b3 := Below.trans d2 b3
  clear P2 b2 Q2 d2 c0 c1 c2 c3 c4 c5 c6 c7 f0 f1 f2 f3 f4 f5 f6 f7 hq
  obtain ⟨c0, c1, c2, c3, c4, c5, c6, c7⟩ := P3.cells
  obtain ⟨f0, f1, f2, f3, f4, f5, f6, f7⟩ := P3.frees
  have hq := P3.lt
  have Q3 := P3.same c2 (by omega)
  have d3 : Below q w (w3.setCell ⟨q, 2, none⟩ (.int .i64 s)) := b3.setCell (Nat.le_refl q) _
  rcases HK.out with ⟨h1, h2⟩ | ⟨h1, h2, h3, h4, h5⟩ | ⟨h1, h2, h3, h4, h5⟩ | ⟨h1, h2, h3, h4, h5, h6⟩ | ⟨h1, h2, h3, h4, h5, h6⟩
  · simp only at h1 h2
    have hhasSpanB : hasSpanB k = false := by unfold hasSpanB; rcases h1 with h1 | h1 <;> rw [h1] <;> rfl
    have hhasModeB : hasModeB k = false := by unfold hasModeB; rcases h1 with h1 | h1 <;> rw [h1] <;> rfl
    have hhasDeadB : hasDeadB k = false := by unfold hasDeadB; rcases h1 with h1 | h1 <;> rw [h1] <;> rfl
    have hhasWasB : hasWasB k = false := by unfold hasWasB; rcases h1 with h1 | h1 <;> rw [h1] <;> rfl
    have HX : Hid ([] ++ enc 1 k ++ enc 6 b ++ enc 4 s = cEnc ⟨k, b, s, d, a, lo, hi, m⟩) := by show _ = _; rw [HE.out]; unfold cTail; simp only; rw [if_neg (by omega), if_neg (by omega), if_neg (by omega), if_neg (by omega)]; simp
    have HN : Hid (cLen k = 0 + 1 + 6 + 4) := by show _ = _; unfold cLen; rw [if_neg (by omega), if_neg (by omega), if_neg (by omega), if_neg (by omega)]
    clear h1 h2
    go_wp2_with fail
    refine (hasSpan_any k b s d a lo hi m _).mono ?_
    rintro e w4 ⟨rfl, h4⟩
    rw [hhasSpanB]
    have P4 := Q3.below h4
    have d4 := Below.trans d3 (h4.mono (Nat.le_of_lt Q3.lt))
    clear h4 P3 b3 Q3 d3 c0 c1 c2 c3 c4 c5 c6 c7 f0 f1 f2 f3 f4 f5 f6 f7 hq
    obtain ⟨c0, c1, c2, c3, c4, c5, c6, c7⟩ := P4.cells
    obtain ⟨f0, f1, f2, f3, f4, f5, f6, f7⟩ := P4.frees
    have hq := P4.lt
    go_wp2_with fail
    refine (hasMode_any k b s d a lo hi m _).mono ?_
    rintro e w5 ⟨rfl, h5⟩
    rw [hhasModeB]
    have P5 := P4.below h5
    have d5 := Below.trans d4 (h5.mono (Nat.le_of_lt P4.lt))
    clear h5 P4 d4 c0 c1 c2 c3 c4 c5 c6 c7 f0 f1 f2 f3 f4 f5 f6 f7 hq
    obtain ⟨c0, c1, c2, c3, c4, c5, c6, c7⟩ := P5.cells
    obtain ⟨f0, f1, f2, f3, f4, f5, f6, f7⟩ := P5.frees
    have hq := P5.lt
    go_wp2_with fail
    refine (hasDead_any k b s d a lo hi m _).mono ?_
    rintro e w6 ⟨rfl, h6⟩
    rw [hhasDeadB]
    have P6 := P5.below h6
    have d6 := Below.trans d5 (h6.mono (Nat.le_of_lt P5.lt))
    clear h6 P5 d5 c0 c1 c2 c3 c4 c5 c6 c7 f0 f1 f2 f3 f4 f5 f6 f7 hq
    obtain ⟨c0, c1, c2, c3, c4, c5, c6, c7⟩ := P6.cells
    obtain ⟨f0, f1, f2, f3, f4, f5, f6, f7⟩ := P6.frees
    have hq := P6.lt
    go_wp2_with fail
    refine (hasWas_any k b s d a lo hi m _).mono ?_
    rintro e w7 ⟨rfl, h7⟩
    rw [hhasWasB]
    have P7 := P6.below h7
    have d7 := Below.trans d6 (h7.mono (Nat.le_of_lt P6.lt))
    clear h7 P6 d6 c0 c1 c2 c3 c4 c5 c6 c7 f0 f1 f2 f3 f4 f5 f6 f7 hq
    obtain ⟨c0, c1, c2, c3, c4, c5, c6, c7⟩ := P7.cells
    obtain ⟨f0, f1, f2, f3, f4, f5, f6, f7⟩ := P7.frees
    have hq := P7.lt
    have PF : WrAt w7 q B ⟨k, b, s, d, a, lo, hi, m⟩ (cLen k) (cEnc ⟨k, b, s, d, a, lo, hi, m⟩) := by
      have hx := P7
      rw [HX.out] at hx
      rw [HN.out]
      exact hx
    have DF := d7
    clear P7 d7
    go_wp2_with fail
    go_end0
    exact ⟨rfl, PF, DF⟩
  · simp only at h1 h2 h3 h4 h5
    obtain rfl : k = 2 := h1
    obtain ⟨h6, h7, h8⟩ := h4
    have HL := Lib.hid (fits_small (X := 1) (by omega) (by omega) h6 (by omega : lo < 256))
    have HH := Lib.hid (fits_small (X := 1) (by omega) (by omega) (by omega : 0 ≤ hi) (by omega : hi < 256))
    have m0 : 0 ≤ m := by omega
    have m1 : m ≤ 127 := by omega
    have HM := Lib.hid (fits_small (X := 1) (by omega) (by omega) m0 (by omega : m < 256))
    have HX : Hid ([] ++ enc 1 2 ++ enc 6 b ++ enc 4 s ++ enc 1 lo ++ enc 1 hi ++ enc 1 m = cEnc ⟨2, b, s, d, a, lo, hi, m⟩) := by show _ = _; rw [HE.out]; rw [show cTail ⟨2, b, s, d, a, lo, hi, m⟩ = [lo, hi, m] from rfl, enc1 (by omega : 0 ≤ lo) (by omega), enc1 (by omega : 0 ≤ hi) (by omega), enc1 (by omega : 0 ≤ m) (by omega)]; simp
    have HN : Hid (cLen 2 = 0 + 1 + 6 + 4 + 1 + 1 + 1) := by show _ = _; rfl
    clear h2 h3 h5 h6 h7 h8
    go_wp2_with fail
    refine (hasSpan_any 2 b s d a lo hi m _).mono ?_
    rintro e w4 ⟨rfl, h4⟩
    rw [show hasSpanB 2 = true from rfl]
    have P4 := Q3.below h4
    have d4 := Below.trans d3 (h4.mono (Nat.le_of_lt Q3.lt))
    clear h4 P3 b3 Q3 d3 c0 c1 c2 c3 c4 c5 c6 c7 f0 f1 f2 f3 f4 f5 f6 f7 hq
    obtain ⟨c0, c1, c2, c3, c4, c5, c6, c7⟩ := P4.cells
    obtain ⟨f0, f1, f2, f3, f4, f5, f6, f7⟩ := P4.frees
    have hq := P4.lt
    go_wp2_with fail
    refine (wput_any 1 lo (0 + 1 + 6 + 4) q B 2 b s d a lo hi m ([] ++ enc 1 2 ++ enc 6 b ++ enc 4 s) _ P4 HL.out (by omega)).mono ?_
    rintro e w5 ⟨rfl, P5, b5⟩
    have b5 := Below.trans d4 b5
    clear P4 d4 c0 c1 c2 c3 c4 c5 c6 c7 f0 f1 f2 f3 f4 f5 f6 f7 hq
    obtain ⟨c0, c1, c2, c3, c4, c5, c6, c7⟩ := P5.cells
    obtain ⟨f0, f1, f2, f3, f4, f5, f6, f7⟩ := P5.frees
    have hq := P5.lt
    have Q5 := P5.same c5 (by omega)
    have d5 : Below q w (w5.setCell ⟨q, 5, none⟩ (.int .i64 lo)) := b5.setCell (Nat.le_refl q) _
    go_wp2_with fail
    refine (wput_any 1 hi (0 + 1 + 6 + 4 + 1) q B 2 b s d a lo hi m ([] ++ enc 1 2 ++ enc 6 b ++ enc 4 s ++ enc 1 lo) _ Q5 HH.out (by omega)).mono ?_
    rintro e w6 ⟨rfl, P6, b6⟩
    have b6 := Below.trans d5 b6
    clear P5 b5 Q5 d5 c0 c1 c2 c3 c4 c5 c6 c7 f0 f1 f2 f3 f4 f5 f6 f7 hq
    obtain ⟨c0, c1, c2, c3, c4, c5, c6, c7⟩ := P6.cells
    obtain ⟨f0, f1, f2, f3, f4, f5, f6, f7⟩ := P6.frees
    have hq := P6.lt
    have Q6 := P6.same c6 (by omega)
    have d6 : Below q w (w6.setCell ⟨q, 6, none⟩ (.int .i64 hi)) := b6.setCell (Nat.le_refl q) _
    go_wp2_with fail
    refine (hasMode_any 2 b s d a lo hi m _).mono ?_
    rintro e w7 ⟨rfl, h7⟩
    rw [show hasModeB 2 = true from rfl]
    have P7 := Q6.below h7
    have d7 := Below.trans d6 (h7.mono (Nat.le_of_lt Q6.lt))
    clear h7 P6 b6 Q6 d6 c0 c1 c2 c3 c4 c5 c6 c7 f0 f1 f2 f3 f4 f5 f6 f7 hq
    obtain ⟨c0, c1, c2, c3, c4, c5, c6, c7⟩ := P7.cells
    obtain ⟨f0, f1, f2, f3, f4, f5, f6, f7⟩ := P7.frees
    have hq := P7.lt
    go_wp2_with fail
    refine (wput_any 1 m (0 + 1 + 6 + 4 + 1 + 1) q B 2 b s d a lo hi m ([] ++ enc 1 2 ++ enc 6 b ++ enc 4 s ++ enc 1 lo ++ enc 1 hi) _ P7 HM.out (by omega)).mono ?_
    rintro e w8 ⟨rfl, P8, b8⟩
    have b8 := Below.trans d7 b8
    clear P7 d7 c0 c1 c2 c3 c4 c5 c6 c7 f0 f1 f2 f3 f4 f5 f6 f7 hq
    obtain ⟨c0, c1, c2, c3, c4, c5, c6, c7⟩ := P8.cells
    obtain ⟨f0, f1, f2, f3, f4, f5, f6, f7⟩ := P8.frees
    have hq := P8.lt
    have Q8 := P8.same c7 (by omega)
    have d8 : Below q w (w8.setCell ⟨q, 7, none⟩ (.int .i8 m)) := b8.setCell (Nat.le_refl q) _
    go_wp2_with fail
    refine (hasDead_any 2 b s d a lo hi m _).mono ?_
    rintro e w9 ⟨rfl, h9⟩
    rw [show hasDeadB 2 = false from rfl]
    have P9 := Q8.below h9
    have d9 := Below.trans d8 (h9.mono (Nat.le_of_lt Q8.lt))
    clear h9 P8 b8 Q8 d8 c0 c1 c2 c3 c4 c5 c6 c7 f0 f1 f2 f3 f4 f5 f6 f7 hq
    obtain ⟨c0, c1, c2, c3, c4, c5, c6, c7⟩ := P9.cells
    obtain ⟨f0, f1, f2, f3, f4, f5, f6, f7⟩ := P9.frees
    have hq := P9.lt
    go_wp2_with fail
    refine (hasWas_any 2 b s d a lo hi m _).mono ?_
    rintro e w10 ⟨rfl, h10⟩
    rw [show hasWasB 2 = false from rfl]
    have P10 := P9.below h10
    have d10 := Below.trans d9 (h10.mono (Nat.le_of_lt P9.lt))
    clear h10 P9 d9 c0 c1 c2 c3 c4 c5 c6 c7 f0 f1 f2 f3 f4 f5 f6 f7 hq
    obtain ⟨c0, c1, c2, c3, c4, c5, c6, c7⟩ := P10.cells
    obtain ⟨f0, f1, f2, f3, f4, f5, f6, f7⟩ := P10.frees
    have hq := P10.lt
    have PF : WrAt w10 q B ⟨2, b, s, d, a, lo, hi, m⟩ (cLen 2) (cEnc ⟨2, b, s, d, a, lo, hi, m⟩) := by
      have hx := P10
      rw [HX.out] at hx
      rw [HN.out]
      exact hx
    have DF := d10
    clear P10 d10
    go_wp2_with fail
    go_end0
    exact ⟨rfl, PF, DF⟩
  · simp only at h1 h2 h3 h4 h5
    obtain rfl : k = 3 := h1
    obtain ⟨h6, h7, h8⟩ := h4
    have HL := Lib.hid (fits_small (X := 1) (by omega) (by omega) h6 (by omega : lo < 256))
    have HH := Lib.hid (fits_small (X := 1) (by omega) (by omega) (by omega : 0 ≤ hi) (by omega : hi < 256))
    have HX : Hid ([] ++ enc 1 3 ++ enc 6 b ++ enc 4 s ++ enc 1 lo ++ enc 1 hi = cEnc ⟨3, b, s, d, a, lo, hi, m⟩) := by show _ = _; rw [HE.out]; rw [show cTail ⟨3, b, s, d, a, lo, hi, m⟩ = [lo, hi] from rfl, enc1 (by omega : 0 ≤ lo) (by omega), enc1 (by omega : 0 ≤ hi) (by omega)]; simp
    have HN : Hid (cLen 3 = 0 + 1 + 6 + 4 + 1 + 1) := by show _ = _; rfl
    clear h2 h3 h5 h6 h7 h8
    go_wp2_with fail
    refine (hasSpan_any 3 b s d a lo hi m _).mono ?_
    rintro e w4 ⟨rfl, h4⟩
    rw [show hasSpanB 3 = true from rfl]
    have P4 := Q3.below h4
    have d4 := Below.trans d3 (h4.mono (Nat.le_of_lt Q3.lt))
    clear h4 P3 b3 Q3 d3 c0 c1 c2 c3 c4 c5 c6 c7 f0 f1 f2 f3 f4 f5 f6 f7 hq
    obtain ⟨c0, c1, c2, c3, c4, c5, c6, c7⟩ := P4.cells
    obtain ⟨f0, f1, f2, f3, f4, f5, f6, f7⟩ := P4.frees
    have hq := P4.lt
    go_wp2_with fail
    refine (wput_any 1 lo (0 + 1 + 6 + 4) q B 3 b s d a lo hi m ([] ++ enc 1 3 ++ enc 6 b ++ enc 4 s) _ P4 HL.out (by omega)).mono ?_
    rintro e w5 ⟨rfl, P5, b5⟩
    have b5 := Below.trans d4 b5
    clear P4 d4 c0 c1 c2 c3 c4 c5 c6 c7 f0 f1 f2 f3 f4 f5 f6 f7 hq
    obtain ⟨c0, c1, c2, c3, c4, c5, c6, c7⟩ := P5.cells
    obtain ⟨f0, f1, f2, f3, f4, f5, f6, f7⟩ := P5.frees
    have hq := P5.lt
    have Q5 := P5.same c5 (by omega)
    have d5 : Below q w (w5.setCell ⟨q, 5, none⟩ (.int .i64 lo)) := b5.setCell (Nat.le_refl q) _
    go_wp2_with fail
    refine (wput_any 1 hi (0 + 1 + 6 + 4 + 1) q B 3 b s d a lo hi m ([] ++ enc 1 3 ++ enc 6 b ++ enc 4 s ++ enc 1 lo) _ Q5 HH.out (by omega)).mono ?_
    rintro e w6 ⟨rfl, P6, b6⟩
    have b6 := Below.trans d5 b6
    clear P5 b5 Q5 d5 c0 c1 c2 c3 c4 c5 c6 c7 f0 f1 f2 f3 f4 f5 f6 f7 hq
    obtain ⟨c0, c1, c2, c3, c4, c5, c6, c7⟩ := P6.cells
    obtain ⟨f0, f1, f2, f3, f4, f5, f6, f7⟩ := P6.frees
    have hq := P6.lt
    have Q6 := P6.same c6 (by omega)
    have d6 : Below q w (w6.setCell ⟨q, 6, none⟩ (.int .i64 hi)) := b6.setCell (Nat.le_refl q) _
    go_wp2_with fail
    refine (hasMode_any 3 b s d a lo hi m _).mono ?_
    rintro e w7 ⟨rfl, h7⟩
    rw [show hasModeB 3 = false from rfl]
    have P7 := Q6.below h7
    have d7 := Below.trans d6 (h7.mono (Nat.le_of_lt Q6.lt))
    clear h7 P6 b6 Q6 d6 c0 c1 c2 c3 c4 c5 c6 c7 f0 f1 f2 f3 f4 f5 f6 f7 hq
    obtain ⟨c0, c1, c2, c3, c4, c5, c6, c7⟩ := P7.cells
    obtain ⟨f0, f1, f2, f3, f4, f5, f6, f7⟩ := P7.frees
    have hq := P7.lt
    go_wp2_with fail
    refine (hasDead_any 3 b s d a lo hi m _).mono ?_
    rintro e w8 ⟨rfl, h8⟩
    rw [show hasDeadB 3 = false from rfl]
    have P8 := P7.below h8
    have d8 := Below.trans d7 (h8.mono (Nat.le_of_lt P7.lt))
    clear h8 P7 d7 c0 c1 c2 c3 c4 c5 c6 c7 f0 f1 f2 f3 f4 f5 f6 f7 hq
    obtain ⟨c0, c1, c2, c3, c4, c5, c6, c7⟩ := P8.cells
    obtain ⟨f0, f1, f2, f3, f4, f5, f6, f7⟩ := P8.frees
    have hq := P8.lt
    go_wp2_with fail
    refine (hasWas_any 3 b s d a lo hi m _).mono ?_
    rintro e w9 ⟨rfl, h9⟩
    rw [show hasWasB 3 = false from rfl]
    have P9 := P8.below h9
    have d9 := Below.trans d8 (h9.mono (Nat.le_of_lt P8.lt))
    clear h9 P8 d8 c0 c1 c2 c3 c4 c5 c6 c7 f0 f1 f2 f3 f4 f5 f6 f7 hq
    obtain ⟨c0, c1, c2, c3, c4, c5, c6, c7⟩ := P9.cells
    obtain ⟨f0, f1, f2, f3, f4, f5, f6, f7⟩ := P9.frees
    have hq := P9.lt
    have PF : WrAt w9 q B ⟨3, b, s, d, a, lo, hi, m⟩ (cLen 3) (cEnc ⟨3, b, s, d, a, lo, hi, m⟩) := by
      have hx := P9
      rw [HX.out] at hx
      rw [HN.out]
      exact hx
    have DF := d9
    clear P9 d9
    go_wp2_with fail
    go_end0
    exact ⟨rfl, PF, DF⟩
  · simp only at h1 h2 h3 h4 h5 h6
    obtain rfl : k = 4 := h1
    have HD := Lib.hid (key_fits h2)
    have HA : Hid (fitsB ((6 : Nat) : Int) a = true) := was_fits h3
    have HX : Hid ([] ++ enc 1 4 ++ enc 6 b ++ enc 4 s ++ enc 6 d ++ enc 6 a = cEnc ⟨4, b, s, d, a, lo, hi, m⟩) := by show _ = _; rw [HE.out]; rw [show cTail ⟨4, b, s, d, a, lo, hi, m⟩ = enc 6 d ++ enc 6 a from rfl]; simp
    have HN : Hid (cLen 4 = 0 + 1 + 6 + 4 + 6 + 6) := by show _ = _; rfl
    clear h2 h3 h4 h5 h6
    go_wp2_with fail
    refine (hasSpan_any 4 b s d a lo hi m _).mono ?_
    rintro e w4 ⟨rfl, h4⟩
    rw [show hasSpanB 4 = false from rfl]
    have P4 := Q3.below h4
    have d4 := Below.trans d3 (h4.mono (Nat.le_of_lt Q3.lt))
    clear h4 P3 b3 Q3 d3 c0 c1 c2 c3 c4 c5 c6 c7 f0 f1 f2 f3 f4 f5 f6 f7 hq
    obtain ⟨c0, c1, c2, c3, c4, c5, c6, c7⟩ := P4.cells
    obtain ⟨f0, f1, f2, f3, f4, f5, f6, f7⟩ := P4.frees
    have hq := P4.lt
    go_wp2_with fail
    refine (hasMode_any 4 b s d a lo hi m _).mono ?_
    rintro e w5 ⟨rfl, h5⟩
    rw [show hasModeB 4 = false from rfl]
    have P5 := P4.below h5
    have d5 := Below.trans d4 (h5.mono (Nat.le_of_lt P4.lt))
    clear h5 P4 d4 c0 c1 c2 c3 c4 c5 c6 c7 f0 f1 f2 f3 f4 f5 f6 f7 hq
    obtain ⟨c0, c1, c2, c3, c4, c5, c6, c7⟩ := P5.cells
    obtain ⟨f0, f1, f2, f3, f4, f5, f6, f7⟩ := P5.frees
    have hq := P5.lt
    go_wp2_with fail
    refine (hasDead_any 4 b s d a lo hi m _).mono ?_
    rintro e w6 ⟨rfl, h6⟩
    rw [show hasDeadB 4 = true from rfl]
    have P6 := P5.below h6
    have d6 := Below.trans d5 (h6.mono (Nat.le_of_lt P5.lt))
    clear h6 P5 d5 c0 c1 c2 c3 c4 c5 c6 c7 f0 f1 f2 f3 f4 f5 f6 f7 hq
    obtain ⟨c0, c1, c2, c3, c4, c5, c6, c7⟩ := P6.cells
    obtain ⟨f0, f1, f2, f3, f4, f5, f6, f7⟩ := P6.frees
    have hq := P6.lt
    go_wp2_with fail
    refine (wput_any 6 d (0 + 1 + 6 + 4) q B 4 b s d a lo hi m ([] ++ enc 1 4 ++ enc 6 b ++ enc 4 s) _ P6 HD.out (by omega)).mono ?_
    rintro e w7 ⟨rfl, P7, b7⟩
    have b7 := Below.trans d6 b7
    clear P6 d6 c0 c1 c2 c3 c4 c5 c6 c7 f0 f1 f2 f3 f4 f5 f6 f7 hq
    obtain ⟨c0, c1, c2, c3, c4, c5, c6, c7⟩ := P7.cells
    obtain ⟨f0, f1, f2, f3, f4, f5, f6, f7⟩ := P7.frees
    have hq := P7.lt
    have Q7 := P7.same c3 (by omega)
    have d7 : Below q w (w7.setCell ⟨q, 3, none⟩ (.int .i64 d)) := b7.setCell (Nat.le_refl q) _
    go_wp2_with fail
    refine (hasWas_any 4 b s d a lo hi m _).mono ?_
    rintro e w8 ⟨rfl, h8⟩
    rw [show hasWasB 4 = true from rfl]
    have P8 := Q7.below h8
    have d8 := Below.trans d7 (h8.mono (Nat.le_of_lt Q7.lt))
    clear h8 P7 b7 Q7 d7 c0 c1 c2 c3 c4 c5 c6 c7 f0 f1 f2 f3 f4 f5 f6 f7 hq
    obtain ⟨c0, c1, c2, c3, c4, c5, c6, c7⟩ := P8.cells
    obtain ⟨f0, f1, f2, f3, f4, f5, f6, f7⟩ := P8.frees
    have hq := P8.lt
    go_wp2_with fail
    refine (wput_any 6 a (0 + 1 + 6 + 4 + 6) q B 4 b s d a lo hi m ([] ++ enc 1 4 ++ enc 6 b ++ enc 4 s ++ enc 6 d) _ P8 HA.out (by omega)).mono ?_
    rintro e w9 ⟨rfl, P9, b9⟩
    have b9 := Below.trans d8 b9
    clear P8 d8 c0 c1 c2 c3 c4 c5 c6 c7 f0 f1 f2 f3 f4 f5 f6 f7 hq
    obtain ⟨c0, c1, c2, c3, c4, c5, c6, c7⟩ := P9.cells
    obtain ⟨f0, f1, f2, f3, f4, f5, f6, f7⟩ := P9.frees
    have hq := P9.lt
    have Q9 := P9.same c4 (by omega)
    have d9 : Below q w (w9.setCell ⟨q, 4, none⟩ (.int .i64 a)) := b9.setCell (Nat.le_refl q) _
    have PF : WrAt (w9.setCell ⟨q, 4, none⟩ (.int .i64 a)) q B ⟨4, b, s, d, a, lo, hi, m⟩ (cLen 4) (cEnc ⟨4, b, s, d, a, lo, hi, m⟩) := by
      have hx := Q9
      rw [HX.out] at hx
      rw [HN.out]
      exact hx
    have DF := d9
    clear P9 b9 Q9 d9
    go_wp2_with fail
    go_end0
    exact ⟨rfl, PF, DF⟩
  · simp only at h1 h2 h3 h4 h5 h6
    obtain rfl : k = 5 := h1
    have HD := Lib.hid (key_fits h2)
    have HX : Hid ([] ++ enc 1 5 ++ enc 6 b ++ enc 4 s ++ enc 6 d = cEnc ⟨5, b, s, d, a, lo, hi, m⟩) := by show _ = _; rw [HE.out]; rw [show cTail ⟨5, b, s, d, a, lo, hi, m⟩ = enc 6 d from rfl]; simp
    have HN : Hid (cLen 5 = 0 + 1 + 6 + 4 + 6) := by show _ = _; rfl
    clear h2 h3 h4 h5 h6
    go_wp2_with fail
    refine (hasSpan_any 5 b s d a lo hi m _).mono ?_
    rintro e w4 ⟨rfl, h4⟩
    rw [show hasSpanB 5 = false from rfl]
    have P4 := Q3.below h4
    have d4 := Below.trans d3 (h4.mono (Nat.le_of_lt Q3.lt))
    clear h4 P3 b3 Q3 d3 c0 c1 c2 c3 c4 c5 c6 c7 f0 f1 f2 f3 f4 f5 f6 f7 hq
    obtain ⟨c0, c1, c2, c3, c4, c5, c6, c7⟩ := P4.cells
    obtain ⟨f0, f1, f2, f3, f4, f5, f6, f7⟩ := P4.frees
    have hq := P4.lt
    go_wp2_with fail
    refine (hasMode_any 5 b s d a lo hi m _).mono ?_
    rintro e w5 ⟨rfl, h5⟩
    rw [show hasModeB 5 = false from rfl]
    have P5 := P4.below h5
    have d5 := Below.trans d4 (h5.mono (Nat.le_of_lt P4.lt))
    clear h5 P4 d4 c0 c1 c2 c3 c4 c5 c6 c7 f0 f1 f2 f3 f4 f5 f6 f7 hq
    obtain ⟨c0, c1, c2, c3, c4, c5, c6, c7⟩ := P5.cells
    obtain ⟨f0, f1, f2, f3, f4, f5, f6, f7⟩ := P5.frees
    have hq := P5.lt
    go_wp2_with fail
    refine (hasDead_any 5 b s d a lo hi m _).mono ?_
    rintro e w6 ⟨rfl, h6⟩
    rw [show hasDeadB 5 = true from rfl]
    have P6 := P5.below h6
    have d6 := Below.trans d5 (h6.mono (Nat.le_of_lt P5.lt))
    clear h6 P5 d5 c0 c1 c2 c3 c4 c5 c6 c7 f0 f1 f2 f3 f4 f5 f6 f7 hq
    obtain ⟨c0, c1, c2, c3, c4, c5, c6, c7⟩ := P6.cells
    obtain ⟨f0, f1, f2, f3, f4, f5, f6, f7⟩ := P6.frees
    have hq := P6.lt
    go_wp2_with fail
    refine (wput_any 6 d (0 + 1 + 6 + 4) q B 5 b s d a lo hi m ([] ++ enc 1 5 ++ enc 6 b ++ enc 4 s) _ P6 HD.out (by omega)).mono ?_
    rintro e w7 ⟨rfl, P7, b7⟩
    have b7 := Below.trans d6 b7
    clear P6 d6 c0 c1 c2 c3 c4 c5 c6 c7 f0 f1 f2 f3 f4 f5 f6 f7 hq
    obtain ⟨c0, c1, c2, c3, c4, c5, c6, c7⟩ := P7.cells
    obtain ⟨f0, f1, f2, f3, f4, f5, f6, f7⟩ := P7.frees
    have hq := P7.lt
    have Q7 := P7.same c3 (by omega)
    have d7 : Below q w (w7.setCell ⟨q, 3, none⟩ (.int .i64 d)) := b7.setCell (Nat.le_refl q) _
    go_wp2_with fail
    refine (hasWas_any 5 b s d a lo hi m _).mono ?_
    rintro e w8 ⟨rfl, h8⟩
    rw [show hasWasB 5 = false from rfl]
    have P8 := Q7.below h8
    have d8 := Below.trans d7 (h8.mono (Nat.le_of_lt Q7.lt))
    clear h8 P7 b7 Q7 d7 c0 c1 c2 c3 c4 c5 c6 c7 f0 f1 f2 f3 f4 f5 f6 f7 hq
    obtain ⟨c0, c1, c2, c3, c4, c5, c6, c7⟩ := P8.cells
    obtain ⟨f0, f1, f2, f3, f4, f5, f6, f7⟩ := P8.frees
    have hq := P8.lt
    have PF : WrAt w8 q B ⟨5, b, s, d, a, lo, hi, m⟩ (cLen 5) (cEnc ⟨5, b, s, d, a, lo, hi, m⟩) := by
      have hx := P8
      rw [HX.out] at hx
      rw [HN.out]
      exact hx
    have DF := d8
    clear P8 d8
    go_wp2_with fail
    go_end0
    exact ⟨rfl, PF, DF⟩

end Go.Proofs.YtjdacpnfgpdjhaaDoor

/-
  What the program takes of a text is what the document reads of it: over plain values.
-/
namespace Go.Proofs.YtjdacpnfgpdjhaaDoor
open Go.RowKit
set_option linter.unusedVariables false
set_option linter.unusedSimpArgs false

set_option maxRecDepth 100000 in
theorem wrap8_cases (x : Int) (h0 : 0 ≤ x) (h1 : x < 256) : (x ≤ 127 ∧ IntKind.i8.wrap x = x) ∨ IntKind.i8.wrap x < 0 := by
  have h : ∀ n : Fin 256, (((n.val : Nat) : Int) ≤ 127 ∧ IntKind.i8.wrap ((n.val : Nat) : Int) = ((n.val : Nat) : Int)) ∨ IntKind.i8.wrap ((n.val : Nat) : Int) < 0 := by decide
  obtain ⟨n, rfl⟩ := Int.eq_ofNat_of_zero_le h0
  exact h ⟨n, by omega⟩
theorem getErr_zero {l : List Int} {p X : Nat} (h : badV l p X = false) : p + X ≤ l.length ∧ gv l p X = dec ((l.drop p).take X) := by
  have h : getErr l p X = 0 := by
    unfold badV at h
    simpa using h
  unfold getErr at h
  split at h
  · omega
  · rename_i hm
    have hm : mayB (X : Int) = true := by simpa using hm
    split at h
    · rename_i h2
      obtain ⟨h3, h4, h5⟩ := h2
      refine ⟨by omega, ?_⟩
      unfold gv getVal
      rw [if_pos ⟨hm, h3, h4, h5⟩]
      rfl
    · omega
theorem bad_no {l : List Int} {p X : Nat} (h1 : 1 ≤ X) (h6 : X ≤ 6) (hl : p + X ≤ l.length) (hf : fitsB X (dec ((l.drop p).take X)) = true) : badV l p X = false := by
  have hm : mayB (X : Int) = true := mayB_yes (by omega) (by omega)
  unfold badV getErr
  rw [if_neg (by rw [hm]; simp), if_pos ⟨by omega, by omega, hf⟩]
  rfl
theorem dec_one {l : List Int} {p : Nat} (h : p + 1 ≤ l.length) : dec ((l.drop p).take 1) = l.getD p 0 := by
  rw [List.getD_eq_getElem?_getD]
  have h2 : p < l.length := by omega
  have e : (l.drop p).take 1 = [l[p]] := by rw [List.drop_eq_getElem_cons h2]; rfl
  rw [e, List.getElem?_eq_getElem h2]
  simp [dec]
theorem byte_bd {l : List Int} (hl : IsBytes l) (p : Nat) : 0 ≤ l.getD p 0 ∧ l.getD p 0 < 256 := by
  rw [List.getD_eq_getElem?_getD]
  rcases h : l[p]? with _ | x
  · simp
  · have := hl x (List.mem_of_getElem? h)
    simpa using this
theorem bad_one {l : List Int} (hl : IsBytes l) {p : Nat} (h : p + 1 ≤ l.length) : badV l p 1 = false := by
  refine bad_no (by omega) (by omega) h ?_
  rw [dec_one h]
  have := byte_bd hl p
  generalize l.getD p 0 = x at *
  exact fitsB_yes (by omega) (by omega) this.1 (by simp [mostOf]; omega)

theorem was_fits0 {a : Int} (h : a = 0 ∨ cKey a = true) : fitsB ((6 : Nat) : Int) a = true := by
  rcases h with rfl | h
  · exact fitsB_yes (by omega) (by omega) (by omega) (by simp [mostOf])
  · exact key_fits h
/-- Where the kinds are the same, and nothing is bad: the same command. -/
theorem tkC_same {l : List Int} (hK : tkK l = cKindOf l) (hb : tkB l = false) (h5 : 0 ≤ cKindOf l ∧ cKindOf l ≤ 5) (hm : cKindOf l = 2 → IntKind.i8.wrap (gv l 13 1) = gv l 13 1) : tkC l = cCand l := by
  unfold tkB at hb
  simp only [Bool.or_eq_false_iff] at hb
  obtain ⟨⟨⟨⟨⟨⟨b0, b1⟩, b2⟩, b3⟩, b4⟩, b5⟩, b6⟩ := hb
  have e1 := (getErr_zero b1).2
  have e2 := (getErr_zero b2).2
  rw [hK] at b3 b4 b5 b6
  have hc : cKindOf l = 0 ∨ cKindOf l = 1 ∨ cKindOf l = 2 ∨ cKindOf l = 3 ∨ cKindOf l = 4 ∨ cKindOf l = 5 := by omega
  have m2 := hm
  unfold tkC cCand
  rw [hK, e1, e2]
  have one : ∀ p, badV l p 1 = false → gv l p 1 = l.getD p 0 := fun p h => by
    obtain ⟨h1, h2⟩ := getErr_zero h
    rw [h2, dec_one h1]
  rcases hc with hc | hc | hc | hc | hc | hc
  · rw [hc]; rfl
  · rw [hc]; rfl
  · rw [hc] at b3 b4 ⊢
    simp [hasSpanB, hasModeB] at b3 b4
    have m2 := m2 hc
    rw [one 13 b4] at m2
    simp [hasSpanB, hasModeB, hasDeadB, hasWasB, one 11 b3.1, one 12 b3.2, one 13 b4]
    simpa using m2
  · rw [hc] at b3 ⊢
    simp [hasSpanB] at b3
    simp [hasSpanB, hasModeB, hasDeadB, hasWasB, one 11 b3.1, one 12 b3.2]
  · rw [hc] at b5 b6 ⊢
    simp [hasDeadB, hasWasB] at b5 b6
    have f1 := (getErr_zero b5).2
    have f2 := (getErr_zero b6).2
    simp [hasSpanB, hasModeB, hasDeadB, hasWasB, f1, f2]
  · rw [hc] at b5 ⊢
    simp [hasDeadB] at b5
    have f1 := (getErr_zero b5).2
    simp [hasSpanB, hasModeB, hasDeadB, hasWasB, f1]

/-- What is taken whole is what is read. -/
theorem tk_rd {l : List Int} (hl : IsBytes l) : (!tkB l && (decide (cLen (tkK l) = l.length) && cMay (tkC l))) = cRd l ∧ (cRd l = true → tkC l = cCand l) := by
  have fwd : (!tkB l && (decide (cLen (tkK l) = l.length) && cMay (tkC l))) = true → cRd l = true ∧ tkC l = cCand l := by
    intro h
    simp only [Bool.and_eq_true, Bool.not_eq_true', decide_eq_true_eq] at h
    obtain ⟨hb, hn, hm⟩ := h
    have b0 : badV l 0 1 = false := by
      unfold tkB at hb
      simp only [Bool.or_eq_false_iff] at hb
      exact hb.1.1.1.1.1.1
    obtain ⟨z1, z2⟩ := getErr_zero b0
    rw [dec_one z1] at z2
    have hkm : (tkC l).kind = tkK l := rfl
    have hk := cMay_iff.1 hm
    have h5 := cKind_bd hk.2.2
    rw [hkm] at h5
    have hbd := byte_bd hl 0
    have hKe : tkK l = IntKind.i8.wrap (l.getD 0 0) := by unfold tkK; rw [z2]
    have hK : tkK l = cKindOf l := by
      rcases wrap8_cases _ hbd.1 hbd.2 with ⟨_, h⟩ | h
      · rw [hKe, h]; rfl
      · omega
    have hM : cKindOf l = 2 → IntKind.i8.wrap (gv l 13 1) = gv l 13 1 := by
      intro h2
      have hK2 : tkK l = 2 := hK.trans h2
      have hmo : (tkC l).mode = IntKind.i8.wrap (gv l 13 1) := by
        show (if hasModeB (tkK l) = true then _ else _) = _
        rw [hK2]; rfl
      have b4 : badV l 13 1 = false := by
        unfold tkB at hb
        simp only [Bool.or_eq_false_iff] at hb
        have := hb.1.1.2
        rw [hK2] at this
        simpa [hasModeB] using this
      obtain ⟨y1, y2⟩ := getErr_zero b4
      rw [dec_one y1] at y2
      have hbd := byte_bd hl 13
      rw [y2] at hmo ⊢
      rcases wrap8_cases _ hbd.1 hbd.2 with ⟨_, h⟩ | h
      · exact h
      · exfalso
        rcases hk.2.2 with ⟨q, _⟩ | ⟨_, _, _, _, q⟩ | ⟨q, _⟩ | ⟨q, _⟩ | ⟨q, _⟩
        · rw [hkm, hK2] at q; omega
        · rw [hmo] at q; omega
        · rw [hkm, hK2] at q; omega
        · rw [hkm, hK2] at q; omega
        · rw [hkm, hK2] at q; omega
    have e := tkC_same hK hb (by rw [← hK]; exact h5) hM
    exact ⟨cRd_iff.2 ⟨by rw [← hK]; exact hn.symm, by rw [← e]; exact hm⟩, e⟩
  have bwd : cRd l = true → (!tkB l && (decide (cLen (tkK l) = l.length) && cMay (tkC l))) = true := by
    intro h
    obtain ⟨hn, hm⟩ := cRd_iff.1 h
    have hk := cMay_iff.1 hm
    have h5 := cKind_bd hk.2.2
    have hkk : (cCand l).kind = cKindOf l := rfl
    rw [hkk] at h5
    have hL := cLen_bd (cKindOf l)
    have b0 := bad_one hl (p := 0) (by omega)
    obtain ⟨z1, z2⟩ := getErr_zero b0
    rw [dec_one z1] at z2
    have hbd := byte_bd hl 0
    have hK : tkK l = cKindOf l := by
      have hKe : tkK l = IntKind.i8.wrap (l.getD 0 0) := by unfold tkK; rw [z2]
      have h6 : l.getD 0 0 ≤ 5 := h5.2
      rcases wrap8_cases _ hbd.1 hbd.2 with ⟨_, h⟩ | h
      · rw [hKe, h]; rfl
      · exfalso
        have : IntKind.i8.wrap (l.getD 0 0) = l.getD 0 0 := by
          obtain h7 | h7 | h7 | h7 | h7 | h7 : l.getD 0 0 = 0 ∨ l.getD 0 0 = 1 ∨ l.getD 0 0 = 2 ∨ l.getD 0 0 = 3 ∨ l.getD 0 0 = 4 ∨ l.getD 0 0 = 5 := by omega
          all_goals rw [h7]; decide
        omega
    have b1 : badV l 1 6 = false := bad_no (by omega) (by omega) (by omega) (key_fits hk.1)
    have b2 : badV l 7 4 = false := bad_no (by omega) (by omega) (by omega) (serial_fits hk.2.1)
    have hc : cKindOf l = 0 ∨ cKindOf l = 1 ∨ cKindOf l = 2 ∨ cKindOf l = 3 ∨ cKindOf l = 4 ∨ cKindOf l = 5 := by omega
    have hb : tkB l = false := by
      unfold tkB
      rw [b0, b1, b2, hK]
      rcases hc with hc | hc | hc | hc | hc | hc
      · rw [hc]; rfl
      · rw [hc]; rfl
      · rw [hc] at hn ⊢
        have hn : l.length = 14 := hn
        rw [bad_one hl (p := 11) (by omega), bad_one hl (p := 12) (by omega), bad_one hl (p := 13) (by omega)]
        rfl
      · rw [hc] at hn ⊢
        have hn : l.length = 13 := hn
        rw [bad_one hl (p := 11) (by omega), bad_one hl (p := 12) (by omega)]
        rfl
      · rw [hc] at hn ⊢
        have hn : l.length = 23 := hn
        have hd : (cCand l).dead = dec ((l.drop 11).take 6) := by show (if _ then _ else _) = _; rw [hc]; rfl
        have ha : (cCand l).was = dec ((l.drop 17).take 6) := by show (if _ then _ else _) = _; rw [hc]; rfl
        rcases hk.2.2 with ⟨q, _⟩ | ⟨q, _⟩ | ⟨q, _⟩ | ⟨_, q1, q2, _⟩ | ⟨q, _⟩
        · rw [hkk, hc] at q; omega
        · rw [hkk, hc] at q; omega
        · rw [hkk, hc] at q; omega
        · rw [hd] at q1
          rw [ha] at q2
          rw [bad_no (by omega) (by omega) (by omega) (key_fits q1), bad_no (by omega) (by omega) (by omega) (was_fits0 q2)]
          rfl
        · rw [hkk, hc] at q; omega
      · rw [hc] at hn ⊢
        have hn : l.length = 17 := hn
        have hd : (cCand l).dead = dec ((l.drop 11).take 6) := by show (if _ then _ else _) = _; rw [hc]; rfl
        rcases hk.2.2 with ⟨q, _⟩ | ⟨q, _⟩ | ⟨q, _⟩ | ⟨q, _⟩ | ⟨_, q1, _⟩
        · rw [hkk, hc] at q; omega
        · rw [hkk, hc] at q; omega
        · rw [hkk, hc] at q; omega
        · rw [hkk, hc] at q; omega
        · rw [hd] at q1
          rw [bad_no (by omega) (by omega) (by omega) (key_fits q1)]
          rfl
    have hM : cKindOf l = 2 → IntKind.i8.wrap (gv l 13 1) = gv l 13 1 := by
      intro h2
      have b4 := bad_one hl (p := 13) (by rw [hn, h2]; decide)
      obtain ⟨y1, y2⟩ := getErr_zero b4
      rw [dec_one y1] at y2
      have hmo : (cCand l).mode = l.getD 13 0 := by show (if _ then _ else _) = _; rw [h2]; rfl
      rw [y2]
      rcases hk.2.2 with ⟨q, _⟩ | ⟨_, _, _, _, q⟩ | ⟨q, _⟩ | ⟨q, _⟩ | ⟨q, _⟩
      · rw [hkk, h2] at q; omega
      · rw [hmo] at q
        rcases q with q | q <;> rw [q] <;> decide
      · rw [hkk, h2] at q; omega
      · rw [hkk, h2] at q; omega
      · rw [hkk, h2] at q; omega
    have e := tkC_same hK hb h5 hM
    rw [hb, e, hm, hK]
    simp [hn]
  refine ⟨Bool.eq_iff_iff.2 ⟨fun h => (fwd h).1, bwd⟩, fun h => (fwd (bwd h)).2⟩

end Go.Proofs.YtjdacpnfgpdjhaaDoor
