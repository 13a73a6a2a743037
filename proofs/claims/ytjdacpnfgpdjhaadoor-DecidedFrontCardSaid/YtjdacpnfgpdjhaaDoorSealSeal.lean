/-
  seal: Seal, and the document's own Seal: by contract.
-/
import Derived.Test.YtjdacpnfgpdjhaaDoorSealDo
namespace Go.Proofs.YtjdacpnfgpdjhaaDoor
open Go.RowKit
set_option linter.unusedVariables false
set_option linter.unusedSimpArgs false

/-- What Seal answers. -/
def sealVal (k : Int) (s : ByteArray) : ByteArray := if mayS k s = true then sealS k s else ⟨#[]⟩
def sealErr (k : Int) (s : ByteArray) : Int := if mayS k s = true then 0 else 2
def sealOut (k : Int) (s : ByteArray) : Ending := .returned (.tuple #[.string (sealVal k s), .int .i64 (sealErr k s)])
theorem of_mayS {k : Int} {s : ByteArray} (h : mayS k s = true) : 1 ≤ k ∧ s.size ≤ 505 := by simpa [mayS] using h
theorem mayS_yes {k : Int} {s : ByteArray} (h1 : 1 ≤ k) (h2 : s.size ≤ 505) : mayS k s = true := by simp [mayS, h1, h2]
theorem mayS_no {k : Int} {s : ByteArray} (h : ¬ (1 ≤ k ∧ s.size ≤ 505)) : mayS k s = false := by
  rcases hh : mayS k s with _ | _
  · rfl
  · exact absurd (of_mayS hh) h
theorem sealOut_yes {k : Int} {s : ByteArray} (h : mayS k s = true) : sealOut k s = .returned (.tuple #[.string (sealS k s), .int .i64 0]) := by
  simp [sealOut, sealVal, sealErr, h]
theorem sealOut_no {k : Int} {s : ByteArray} (h : mayS k s = false) : sealOut k s = .returned (.tuple #[.string ⟨#[]⟩, .int .i64 2]) := by
  simp [sealOut, sealVal, sealErr, h]

set_option maxRecDepth 100000 in
set_option maxHeartbeats 1000000 in
theorem Seal_any (k : Int) (s : ByteArray) (w : World) (h1 : k ≤ 127) (hs : s.size ≤ maxLen) (ht : TabOk w) :
    Calls Tryd.prog 24 #[.int .i8 k, .string s] w fun e w' => e = sealOut k s ∧ Below w.heap.size w w' := by
  have p0 := ParAt.new w 81 k s
  have b0 : Below w.heap.size w (w.alloc (.cells #[.int .i8 k, .string s] 81)) := (Below.refl _ _).alloc (Nat.le_refl _) _
  go_enter Tryd.func24, Tryd.ntmps24
  go_wp2_with fail
  refine (pmay_any k s _ hs).mono ?_
  rintro e w1 ⟨rfl, hb1⟩
  have p1 := p0.below hb1 p0.lt
  have hb01 := b0.trans (hb1.mono (by simp))
  have ck1 := p1.kind
  have cl1 := p1.load
  have ht1 := ht.below hb01
  clear hb1 p0 b0
  by_cases hm : mayS k s = true
  · have HO := Lib.hid (sealOut_yes hm)
    have h2 := (of_mayS hm).2
    have h0 := (of_mayS hm).1
    rw [hm]
    clear hm
    go_wp2_with fail
    refine (sector_any k s w1 h0 h1 h2 ht1).mono ?_
    rintro e w2 ⟨rfl, hb2⟩
    have hb02 := hb01.trans (hb2.mono hb01.size)
    clear hb2 hb01 p1 ck1 cl1
    go_wp2_with fail
    go_ret2
    exact ⟨HO.out.symm, hb02⟩
  · have hm' : mayS k s = false := by simpa using hm
    have HO := Lib.hid (sealOut_no hm')
    rw [hm']
    clear hm hm'
    go_wp2_with fail
    go_ret2
    exact ⟨HO.out.symm, hb01⟩

set_option maxRecDepth 100000 in
set_option maxHeartbeats 1000000 in
theorem refSeal_any (k : Int) (s : ByteArray) (w : World) (h1 : k ≤ 127) (hs : s.size ≤ maxLen) :
    Calls Tryd.prog 26 #[.int .i8 k, .string s] w fun e w' => e = sealOut k s ∧ Below w.heap.size w w' := by
  unfold maxLen at hs
  by_cases h0 : 1 ≤ k
  · by_cases h2 : s.size ≤ 505
    · have HO := Lib.hid (sealOut_yes (mayS_yes h0 h2))
      have hk : k % 256 = k := by omega
      obtain ⟨i0, hi, hz0, hz1, hz2⟩ := info_parts infoByte
      go_enter Tryd.func26, Tryd.ntmps26
      go_wp2_with fail
      refine (refPut_any ((2 : Nat) : Int) (some ⟨w.heap.size, 0, none⟩) (some ⟨w.heap.size + 1, 0, none⟩) 1 1 1 1 [k] [(s.size : Int)] _ ((lies_new w #[.int .u8 k] 5 (0, 0)).alloc _) (lies_int _ 3 (s.size : Int) (by simp)) (by omega) (by omega)).mono ?_
      intro e w1 hpost
      have hf2 : fitsB ((2 : Nat) : Int) (s.size : Int) = true := fitsB_yes (by omega) (by omega) (by omega) (by simp [mostOf]; omega)
      obtain ⟨v1, rfl, hown1, hb1⟩ := put_single hf2 hpost
      have b0 : Below w.heap.size w ((w.alloc (.cells #[.int .u8 k] 5)).alloc (.cells #[.int .i64 (s.size : Int)] 3)) := ((Below.refl _ _).alloc (Nat.le_refl _) _).alloc (by simp) _
      have hb01 : Below w.heap.size w w1 := b0.trans (hb1.mono (by simp; omega))
      have hB1 : w.heap.size ≤ ((w.alloc (.cells #[.int .u8 k] 5)).alloc (.cells #[.int .i64 (s.size : Int)] 3)).heap.size := b0.size
      have hB1' := hb1.size
      generalize ((w.alloc (.cells #[.int .u8 k] 5)).alloc (.cells #[.int .i64 (s.size : Int)] 3)).heap.size = B1 at *
      clear hpost hb1 b0 hf2
      go_wp2_with (at_builtin; refine Lib.wpList_append_own_string w1 rfl _ _ 50 9 rfl B1 5 i0 Tryd.underlying50 Tryd.underlying9 hi hz0 hz1 hz2 _ _ _ rfl hown1 s rfl ?c1 ?c2 hB1' ?_)
      case c1 => unfold maxLen; simp; omega
      case c2 => simp; omega
      intro v3 w3 hown3 hg3 _
      have hb03 : Below w.heap.size w w3 := hb01.grown hg3 hb01.size (fun j hj => Nat.le_trans hB1 (hown1.lt j hj).1)
      have hB3 : B1 ≤ w3.heap.size := Nat.le_trans hB1' hg3.size
      have ehead : List.map (Value.int .u8) ([k] ++ enc 2 (s.size : Int)) ++ Lib.strCells s = (headI k (bytesI s)).map (Value.int .u8) := by
        rw [strCells_bytesI, ← List.map_append, headI, bytesI_length, List.append_assoc]
        rfl
      replace hown3 : w3.ownsRow B1 5 1 v3 (3 + s.size) ((headI k (bytesI s)).map (Value.int .u8)) := by
        rw [← ehead]
        exact hown3
      obtain ⟨A3, c3, rfl⟩ := own_shape hown3
      have hl3 := Lies.of_own hown3
      have hby := headI_bytes (k := k) (l := bytesI s) (by omega) (by omega) (bytesI_bytes s)
      have HD : Hid (headI k (bytesI s) ++ enc 4 (sumI (headI k (bytesI s)) : Nat) = sealI k (bytesI s)) := rfl
      have hsl := sumI_lt hby
      have hn3 : 3 + s.size ≤ 600 := by omega
      generalize 3 + s.size = n3 at *
      generalize headI k (bytesI s) = hd at *
      clear hg3 ehead hown1 hb01 hB1'
      go_wp2_with fail
      refine (refSumI_any w3.heap.size n3 c3 A3 hd w3 hl3 hby (by omega)).mono ?_
      rintro e w4 ⟨rfl, rfl⟩
      generalize sumI hd = S at *
      have henc : enc 4 (S : Int) = [(S : Int) % 256, (S : Int) / 256 % 256, (S : Int) / 65536 % 256, (S : Int) / 16777216] := by
        have e1 : (S : Int) / 256 / 256 = (S : Int) / 65536 := by omega
        have e2 : (S : Int) / 65536 / 256 = (S : Int) / 16777216 := by omega
        have e3 : (S : Int) / 16777216 % 256 = (S : Int) / 16777216 := by omega
        simp [enc, e1, e2, e3]
      have HENC := Lib.hid henc
      clear henc
      go_wp2_with (at_builtin; refine wpList_append_lies rfl (.tmp 31) (.tmp 43) 50 rfl B1 5 i0 (.int .u8 0) 1 Tryd.underlying50 hi hz0 hz1 hz2 rfl _ _ _ rfl (hown3.alloc _) _ _ 4 4 _ rfl (lies_new w3 #[.int .u8 ((S : Int) % 256), .int .u8 ((S : Int) / 256 % 256), .int .u8 ((S : Int) / 65536 % 256), .int .u8 ((S : Int) / 16777216)] 5 (0, 0)) ?e1 ?e2 ?e3 ?e4 ?_)
      case e1 => simp [Value.oneCell']
      case e2 => unfold maxLen; omega
      case e3 => omega
      case e4 => simp; omega
      intro v5 w5 hown5 hg5
      have hb05 : Below w.heap.size w w5 := (hb03.alloc hb03.size _).grown hg5 (by have := hb03.size; simp; omega) (fun j hj => Nat.le_trans hB1 (hown3.lt j hj).1)
      have eall : List.map (Value.int .u8) hd ++ [.int .u8 ((S : Int) % 256), .int .u8 ((S : Int) / 256 % 256), .int .u8 ((S : Int) / 65536 % 256), .int .u8 ((S : Int) / 16777216)] = (sealI k (bytesI s)).map (Value.int .u8) := by
        rw [← HD.out, HENC.out, List.map_append]
        rfl
      replace hown5 : w5.ownsRow B1 5 1 v5 (n3 + 4) ((sealI k (bytesI s)).map (Value.int .u8)) := by
        rw [← eall]
        exact hown5
      have hconv := conv_own (P := Tryd.prog) 50 9 5 Tryd.underlying50 Tryd.underlying5 Tryd.underlying9 hown5
      clear hown5 hg5 eall hown3 hl3 HENC HD
      go_wp2_with fail
      go_ret2
      exact ⟨HO.out.symm, hb05⟩
    · have HO := Lib.hid (sealOut_no (mayS_no (k := k) (s := s) (by omega)))
      go_enter Tryd.func26, Tryd.ntmps26
      go_wp2_with fail
      go_ret2
      exact ⟨HO.out.symm, Below.refl _ _⟩
  · have h0' : k < 1 := by omega
    have HO := Lib.hid (sealOut_no (mayS_no (k := k) (s := s) (by omega)))
    clear h0
    go_enter Tryd.func26, Tryd.ntmps26
    go_wp2_with fail
    go_ret2
    exact ⟨HO.out.symm, Below.refl _ _⟩

end Go.Proofs.YtjdacpnfgpdjhaaDoor
