/-
  The document's commands: a command's bytes: by contract.
-/
import Derived.Test.YtjdacpnfgpdjhaaDoorCmdRefMay
import Derived.Test.YtjdacpnfgpdjhaaDoorCmdOut
import Derived.Test.YtjdacpnfgpdjhaaDoorNumRefPut
import Derived.Test.YtjdacpnfgpdjhaaDoorNumRefRow
import Derived.Laws.AppendOwn
namespace Go.Proofs.YtjdacpnfgpdjhaaDoor
open Go.RowKit
set_option linter.unusedVariables false
set_option linter.unusedSimpArgs false

theorem own_less0 {w : World} {B B' n : Nat} {e : TypeId} {v : Value} {xs : List Value} (h : w.ownsRow B e 1 v n xs) (hb : B' ≤ B) : w.ownsRow B' e 1 v n xs := by
  refine ⟨h.1, ?_⟩
  rcases h.2 with h0 | ⟨g, cap, cur, h1, h2, h3⟩
  · exact .inl h0
  · exact .inr ⟨g, cap, cur, h1, by omega, h3⟩
theorem own_up0 {w w' : World} {B n : Nat} {e : TypeId} {v : Value} {xs : List Value} (h : w.ownsRow B e 1 v n xs) (hb : Below w.heap.size w w') : w'.ownsRow B e 1 v n xs := by
  refine ⟨h.1, ?_⟩
  rcases h.2 with h0 | ⟨g, cap, cur, h1, h2, h3, h4⟩
  · exact .inl h0
  · exact .inr ⟨g, cap, cur, h1, h2, (hb.block g (lt_of_block h3)).trans h3, h4⟩
theorem bytes_one (l : List Int) : ∀ u ∈ l.map (Value.int .u8), u.oneCell' = true := fun u hu => by
  obtain ⟨x, _, rfl⟩ := List.mem_map.1 hu
  rfl
theorem one_below (w : World) (o : Obj) : Below w.heap.size w (w.alloc o) := (Below.refl _ _).alloc (Nat.le_refl _) _
theorem Lies.cells0 {w : World} {B n : Nat} {ad : Addr} {xs : List Value} (h : Lies w B (some ad) n xs) : ∀ j u, xs[j]? = some u → w.cell? (ad.add j) = some u := fun j u hj => by
  have hlt := (List.getElem?_eq_some_iff.1 hj).1
  obtain ⟨p, e1, _, hc⟩ := h.2 (by have := h.1; omega)
  injection e1 with e1
  subst e1
  exact hc j u hj
theorem key_fits {k : Int} (h : cKey k = true) : fitsB ((6 : Nat) : Int) k = true := fitsB_yes (by omega) (by omega) (by have := cKey_iff.1 h; omega) (by have := cKey_iff.1 h; simp [mostOf]; omega)
theorem serial_fits {s : Int} (h : 1 ≤ s ∧ s ≤ 2147483648) : fitsB ((4 : Nat) : Int) s = true := fitsB_yes (by omega) (by omega) (by omega) (by simp [mostOf]; omega)
theorem put_two {X : Nat} {n n2 : Int} {zb : List Int} {w w' : World} {e : Ending} (hf : fitsB X n = true) (hf2 : fitsB X n2 = true) (h : PutPost (X : Int) zb [n, n2] w e w') :
    ∃ v, e = .returned (.tuple #[v, .int .i64 0]) ∧ w'.ownsRow w.heap.size 5 1 v (zb.length + X * 2) ((zb ++ (enc X n ++ enc X n2)).map (Value.int .u8)) ∧ Below w.heap.size w w' := by
  obtain ⟨hb, h⟩ := h
  have hm : mayB (X : Int) = true := by
    obtain ⟨⟨h1, h2⟩, _⟩ := of_fitsB hf
    exact mayB_yes h1 h2
  have hall : (mayB (X : Int) && [n, n2].all (fitsB X)) = true := by simp [hm, hf, hf2]
  rcases h with ⟨hno, _⟩ | ⟨_, v, rfl, hown⟩
  · rw [hall] at hno; cases hno
  · refine ⟨v, rfl, ?_, hb⟩
    have e1 : encs ((X : Int)).toNat [n, n2] = enc X n ++ enc X n2 := by simp [encs]
    rw [e1] at hown
    simpa using hown
theorem lies_byte (w : World) (t : TypeId) (n : Int) {b : Nat} (hb : w.heap.size = b) : Lies (w.alloc (.cells #[.int .u8 n] t)) (w.alloc (.cells #[.int .u8 n] t)).heap.size (some ⟨b, 0, none⟩) 1 ([n].map (Value.int .u8)) := by
  subst hb
  exact lies_new w #[.int .u8 n] t (0, 0)
theorem lies_ints (w : World) (t : TypeId) (n n2 : Int) {b : Nat} (hb : w.heap.size = b) : Lies (w.alloc (.cells #[.int .i64 n, .int .i64 n2] t)) (w.alloc (.cells #[.int .i64 n, .int .i64 n2] t)).heap.size (some ⟨b, 0, none⟩) 2 ([n, n2].map (Value.int .i64)) := by
  subst hb
  exact lies_new w #[.int .i64 n, .int .i64 n2] t (0, 0)

set_option maxRecDepth 100000 in
set_option maxHeartbeats 4000000 in
theorem refBytes_any (k b s d a lo hi m : Int) (w : World) :
    Calls Tryd.prog 44 #[.agg #[.int .i8 k, .int .i64 b, .int .i64 s, .int .i64 d, .int .i64 a, .int .i64 lo, .int .i64 hi, .int .i8 m]] w fun e w' => e = .returned (.tuple #[.string (cmS ⟨k, b, s, d, a, lo, hi, m⟩), .int .i64 (cmE ⟨k, b, s, d, a, lo, hi, m⟩)]) ∧ Below w.heap.size w w' := by
  have p0 := Blk.new w #[.int .i8 k, .int .i64 b, .int .i64 s, .int .i64 d, .int .i64 a, .int .i64 lo, .int .i64 hi, .int .i8 m] 32
  have b0 : Below w.heap.size w (w.alloc (.cells #[.int .i8 k, .int .i64 b, .int .i64 s, .int .i64 d, .int .i64 a, .int .i64 lo, .int .i64 hi, .int .i8 m] 32)) := (Below.refl _ _).alloc (Nat.le_refl _) _
  go_enter Tryd.func44, Tryd.ntmps44
  go_wp2_with fail
  refine (refCMay_any k b s d a lo hi m _).mono ?_
  rintro e w1 ⟨rfl, hb1⟩
  have p1 := p0.below hb1 p0.lt
  have b1 := below_then b0 hb1
  clear p0 b0 hb1
  cases hm : cMay ⟨k, b, s, d, a, lo, hi, m⟩ with
  | false =>
    have HV := Lib.hid (cm_no hm)
    go_wp2_with fail
    go_ret2
    exact ⟨by rw [HV.out.1, HV.out.2] <;> rfl, b1⟩
  | true =>
    have HV := Lib.hid (cm_yes hm)
    obtain ⟨hkb, hs, hk⟩ := cMay_iff.1 hm
    have hkd := cKind_bd hk
    simp only at hkb hs hkd
    have HB := Lib.hid (key_fits hkb)
    have HS := Lib.hid (serial_fits hs)
    have HK := Lib.hid hk
    obtain ⟨kd0, kd1⟩ := hkd
    obtain ⟨c0, c1, c2, c3, c4, c5, c6, c7⟩ := cmd_cells p1
    have l1 := p1.lt
    clear hm hkb hs hk
    go_wp2_with fail
    refine (refPut_any ((6 : Nat) : Int) (some ⟨w1.heap.size, 0, none⟩) (some ⟨w1.heap.size + 1, 0, none⟩) 1 1 1 1 [k] [b] _ ((lies_byte w1 5 k rfl).alloc _) (lies_int _ 3 b (by simp)) (by omega) (by omega)).mono ?_
    intro e w2 hpost
    obtain ⟨v2, rfl, hown2, hb2⟩ := put_single HB.out hpost
    have b2 : Below w.heap.size w w2 := below_then ((b1.alloc b1.size _).alloc (by have := b1.size; simp; omega) _) hb2
    have p2 := ((p1.alloc (.cells #[.int .u8 k] 5)).alloc (.cells #[.int .i64 b] 3)).below hb2 (by simp; omega)
    rw [show ([k] : List Int).length + 6 = 7 from rfl] at hown2
    obtain ⟨A2, q2, rfl⟩ := own_shape hown2
    have hl2 := Lies.of_own hown2
    obtain ⟨d0, d1, d2, d3, d4, d5, d6, d7⟩ := cmd_cells p2
    have l2 := p2.lt
    clear hpost hown2 hb2 p1 b1 c0 c1 c2 c3 c4 c5 c6 c7 l1
    go_wp2_with fail
    refine (refPut_any ((4 : Nat) : Int) A2 (some ⟨w2.heap.size, 0, none⟩) 7 1 q2 1 ([k] ++ enc 6 b) [s] _ (hl2.alloc _) (lies_int w2 3 s rfl) (by omega) (by omega)).mono ?_
    intro e w3 hpost
    obtain ⟨v3, rfl, hown3, hb3⟩ := put_single HS.out hpost
    have b3 : Below w.heap.size w w3 := below_then (b2.alloc b2.size _) hb3
    have p3 := (p2.alloc (.cells #[.int .i64 s] 3)).below hb3 (by simp; omega)
    rw [show ([k] ++ enc 6 b).length + 4 = 11 by rw [List.length_append, enc_length]; rfl] at hown3
    obtain ⟨A3, q3, rfl⟩ := own_shape hown3
    obtain ⟨c0, c1, c2, c3, c4, c5, c6, c7⟩ := cmd_cells p3
    have l3 := p3.lt
    have HC : Hid (cEnc ⟨k, b, s, d, a, lo, hi, m⟩ = [k] ++ enc 6 b ++ enc 4 s ++ cTail ⟨k, b, s, d, a, lo, hi, m⟩) := by show _ = _; simp [cEnc]
    have hown3 := own_less0 hown3 (show w.heap.size ≤ _ by have := b2.size; simp; omega)
    clear hpost hl2 hb3 p2 b2 d0 d1 d2 d3 d4 d5 d6 d7 l2 HB HS
    rcases HK.out with ⟨h1, h2⟩ | ⟨h1, h2, h3, h4, h5⟩ | ⟨h1, h2, h3, h4, h5⟩ | ⟨h1, h2, h3, h4, h5, h6⟩ | ⟨h1, h2, h3, h4, h5, h6⟩
    · simp only at h1 h2
      have HE : strOfNums ([k] ++ enc 6 b ++ enc 4 s) = cmS ⟨k, b, s, d, a, lo, hi, m⟩ := by
        rw [HV.out.1, HC.out]
        have e1 : cTail ⟨k, b, s, d, a, lo, hi, m⟩ = [] := by unfold cTail; simp only; rw [if_neg (by omega), if_neg (by omega), if_neg (by omega), if_neg (by omega)]
        rw [e1, List.append_nil]
      have k2 : (k == 2) = false := beq_no (by omega)
      have k3 : (k == 3) = false := beq_no (by omega)
      have k4 : (k == 4) = false := beq_no (by omega)
      have k5 : (k == 5) = false := beq_no (by omega)
      clear h1 h2 HK HC kd0 kd1
      have hconv := conv_own (P := Tryd.prog) 50 9 5 Tryd.underlying50 Tryd.underlying5 Tryd.underlying9 hown3
      rw [HE] at hconv
      clear HE
      go_wp2_with fail
      go_ret2
      exact ⟨by rw [HV.out.2] <;> rfl, b3⟩
    · simp only at h1 h2 h3 h4 h5
      obtain rfl : k = 2 := h1
      obtain ⟨h6, h7, h8⟩ := h4
      have z0 : 0 ≤ lo := by omega
      have y0 : lo < 256 := by omega
      have z1 : 0 ≤ hi := by omega
      have y1 : hi < 256 := by omega
      have z2 : 0 ≤ m := by omega
      have y2 : m < 256 := by omega
      have HE : strOfNums ([2] ++ enc 6 b ++ enc 4 s ++ [lo, hi, m]) = cmS ⟨2, b, s, d, a, lo, hi, m⟩ := by
        rw [HV.out.1, HC.out]
        rfl
      obtain ⟨i0, hi0, hz0, hz1, hz2⟩ := info_parts infoByte
      clear h2 h3 h5 h6 h7 h8 HK HC kd0 kd1
      go_wp2_with (at_builtin; refine wpList_append_own _ rfl _ _ 50 rfl w.heap.size 5 i0 (.int .u8 0) 1 1 Tryd.underlying50 hi0 hz0 hz1 hz2 rfl (by decide) _ _ _ rfl (own_up0 hown3 (one_below w3 _)) ⟨w3.heap.size, 0, none⟩ 3 3 ([lo, hi, m].map (Value.int .u8)) rfl rfl (lies_new w3 #[.int .u8 lo, .int .u8 hi, .int .u8 m] 5 (0, 0)).cells0 (bytes_one [lo, hi, m]) ?d1 ?d2 ?d3 ?_)
      case d1 => unfold maxLen; omega
      case d2 => omega
      case d3 => have := b3.size; simp; omega
      intro v4 w4 hown4 hgrow _
      have hown4 : w4.ownsRow w.heap.size 5 1 v4 (11 + 3) (([2] ++ enc 6 b ++ enc 4 s ++ [lo, hi, m]).map (Value.int .u8)) := by rw [List.map_append]; exact hown4
      have b4 : Below w.heap.size w w4 := (b3.alloc b3.size _).grown hgrow (by have := b3.size; simp; omega) (fun j hj => (hown3.lt j hj).1)
      have hconv := conv_own (P := Tryd.prog) 50 9 5 Tryd.underlying50 Tryd.underlying5 Tryd.underlying9 hown4
      rw [HE] at hconv
      clear HE
      go_wp2_with fail
      go_ret2
      exact ⟨by rw [HV.out.2] <;> rfl, b4⟩
    · simp only at h1 h2 h3 h4 h5
      obtain rfl : k = 3 := h1
      obtain ⟨h6, h7, h8⟩ := h4
      have z0 : 0 ≤ lo := by omega
      have y0 : lo < 256 := by omega
      have z1 : 0 ≤ hi := by omega
      have y1 : hi < 256 := by omega
      have HE : strOfNums ([3] ++ enc 6 b ++ enc 4 s ++ [lo, hi]) = cmS ⟨3, b, s, d, a, lo, hi, m⟩ := by
        rw [HV.out.1, HC.out]
        rfl
      obtain ⟨i0, hi0, hz0, hz1, hz2⟩ := info_parts infoByte
      clear h2 h3 h5 h6 h7 h8 HK HC kd0 kd1
      go_wp2_with (at_builtin; refine wpList_append_own _ rfl _ _ 50 rfl w.heap.size 5 i0 (.int .u8 0) 1 1 Tryd.underlying50 hi0 hz0 hz1 hz2 rfl (by decide) _ _ _ rfl (own_up0 hown3 (one_below w3 _)) ⟨w3.heap.size, 0, none⟩ 2 2 ([lo, hi].map (Value.int .u8)) rfl rfl (lies_new w3 #[.int .u8 lo, .int .u8 hi] 5 (0, 0)).cells0 (bytes_one [lo, hi]) ?d1 ?d2 ?d3 ?_)
      case d1 => unfold maxLen; omega
      case d2 => omega
      case d3 => have := b3.size; simp; omega
      intro v4 w4 hown4 hgrow _
      have hown4 : w4.ownsRow w.heap.size 5 1 v4 (11 + 2) (([3] ++ enc 6 b ++ enc 4 s ++ [lo, hi]).map (Value.int .u8)) := by rw [List.map_append]; exact hown4
      have b4 : Below w.heap.size w w4 := (b3.alloc b3.size _).grown hgrow (by have := b3.size; simp; omega) (fun j hj => (hown3.lt j hj).1)
      have hconv := conv_own (P := Tryd.prog) 50 9 5 Tryd.underlying50 Tryd.underlying5 Tryd.underlying9 hown4
      rw [HE] at hconv
      clear HE
      go_wp2_with fail
      go_ret2
      exact ⟨by rw [HV.out.2] <;> rfl, b4⟩
    · simp only at h1 h2 h3 h4 h5 h6
      obtain rfl : k = 4 := h1
      have HD := Lib.hid (key_fits h2)
      have HA : Hid (fitsB ((6 : Nat) : Int) a = true) := by
        rcases h3 with rfl | h3
        · exact fitsB_yes (by omega) (by omega) (by omega) (by simp [mostOf])
        · exact key_fits h3
      have HE : strOfNums ([4] ++ enc 6 b ++ enc 4 s ++ (enc 6 d ++ enc 6 a)) = cmS ⟨4, b, s, d, a, lo, hi, m⟩ := by
        rw [HV.out.1, HC.out]
        rfl
      have hl3 := Lies.of_own hown3
      clear h2 h3 h4 h5 h6 HK HC kd0 kd1
      go_wp2_with fail
      refine (refPut_any ((6 : Nat) : Int) A3 (some ⟨w3.heap.size, 0, none⟩) 11 2 q3 2 ([4] ++ enc 6 b ++ enc 4 s) [d, a] _ (hl3.alloc _) (lies_ints w3 3 d a rfl) (by omega) (by omega)).mono ?_
      intro e w4 hpost
      obtain ⟨v4, rfl, hown4, hb4⟩ := put_two HD.out HA.out hpost
      have b4 : Below w.heap.size w w4 := below_then (b3.alloc b3.size _) hb4
      clear hpost hb4 hl3 hown3
      have hconv := conv_own (P := Tryd.prog) 50 9 5 Tryd.underlying50 Tryd.underlying5 Tryd.underlying9 hown4
      rw [HE] at hconv
      clear HE
      go_wp2_with fail
      go_ret2
      exact ⟨by rw [HV.out.2] <;> rfl, b4⟩
    · simp only at h1 h2 h3 h4 h5 h6
      obtain rfl : k = 5 := h1
      have HD := Lib.hid (key_fits h2)
      have HE : strOfNums ([5] ++ enc 6 b ++ enc 4 s ++ enc 6 d) = cmS ⟨5, b, s, d, a, lo, hi, m⟩ := by
        rw [HV.out.1, HC.out]
        rfl
      have hl3 := Lies.of_own hown3
      clear h2 h3 h4 h5 h6 HK HC kd0 kd1
      go_wp2_with fail
      refine (refPut_any ((6 : Nat) : Int) A3 (some ⟨w3.heap.size, 0, none⟩) 11 1 q3 1 ([5] ++ enc 6 b ++ enc 4 s) [d] _ (hl3.alloc _) (lies_int w3 3 d rfl) (by omega) (by omega)).mono ?_
      intro e w4 hpost
      obtain ⟨v4, rfl, hown4, hb4⟩ := put_single HD.out hpost
      have b4 : Below w.heap.size w w4 := below_then (b3.alloc b3.size _) hb4
      clear hpost hb4 hl3 hown3
      have hconv := conv_own (P := Tryd.prog) 50 9 5 Tryd.underlying50 Tryd.underlying5 Tryd.underlying9 hown4
      rw [HE] at hconv
      clear HE
      go_wp2_with fail
      go_ret2
      exact ⟨by rw [HV.out.2] <;> rfl, b4⟩

end Go.Proofs.YtjdacpnfgpdjhaaDoor
