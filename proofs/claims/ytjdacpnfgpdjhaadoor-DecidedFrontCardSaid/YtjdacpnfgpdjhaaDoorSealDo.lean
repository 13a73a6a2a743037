/-
  seal: may a parcel be sealed; its sector; Seal; and the document's own Seal: by contract.
-/
import Derived.Test.YtjdacpnfgpdjhaaDoorSealMath
namespace Go.Proofs.YtjdacpnfgpdjhaaDoor
open Go.RowKit
set_option linter.unusedVariables false
set_option linter.unusedSimpArgs false

/-- May this be sealed? -/
def mayS (k : Int) (s : ByteArray) : Bool := decide (1 ≤ k) && decide (s.size ≤ 505)

set_option maxRecDepth 100000 in
theorem pmay_any (k : Int) (s : ByteArray) (w : World) (hs : s.size ≤ maxLen) :
    Calls Tryd.prog 40 #[.agg #[.int .i8 k, .string s]] w fun e w' => e = .returned (.bool (mayS k s)) ∧ Below w.heap.size w w' := by
  unfold maxLen at hs
  by_cases h1 : 1 ≤ k
  · go_enter Tryd.func40, Tryd.ntmps40
    go_wp2_with fail
    go_ret
    exact ⟨ret_bool (by simp [mayS, h1]; omega), (Below.refl _ _).alloc (Nat.le_refl _) _⟩
  · have h1' : k < 1 := by omega
    go_enter Tryd.func40, Tryd.ntmps40
    go_wp2_with fail
    go_ret
    exact ⟨ret_bool (by simp [mayS]; omega), (Below.refl _ _).alloc (Nat.le_refl _) _⟩

/-- A parcel in a block of its own. -/
def ParAt (w : World) (b : Nat) (T : TypeId) (k : Int) (s : ByteArray) : Prop := w.heap[b]? = some (.cells #[.int .i8 k, .string s] T (0, 0))
section
variable {w w' : World} {b B : Nat} {T : TypeId} {k : Int} {s : ByteArray}
theorem ParAt.new (w : World) (T : TypeId) (k : Int) (s : ByteArray) : ParAt (w.alloc (.cells #[.int .i8 k, .string s] T)) w.heap.size T k s := heap_alloc_new w _
theorem ParAt.lt (h : ParAt w b T k s) : b < w.heap.size := lt_of_block h
theorem ParAt.kind (h : ParAt w b T k s) : w.cell? ⟨b, 0, none⟩ = some (.int .i8 k) := by simp [World.cell?, show w.heap[b]? = _ from h]
theorem ParAt.load (h : ParAt w b T k s) : w.cell? ⟨b, 1, none⟩ = some (.string s) := by simp [World.cell?, show w.heap[b]? = _ from h]
theorem ParAt.free (h : ParAt w b T k s) (i : Nat) : w.frozen? ⟨b, i, none⟩ = false := by simp [World.frozen?, show w.heap[b]? = _ from h]
theorem ParAt.setKind (h : ParAt w b T k s) (k' : Int) : ParAt (w.setCell ⟨b, 0, none⟩ (.int .i8 k')) b T k' s := by
  have hlt := lt_of_block h
  have h' : w.heap[b] = .cells #[.int .i8 k, .string s] T (0, 0) := by simpa [Array.getElem?_eq_getElem hlt] using (show w.heap[b]? = _ from h)
  show (w.heap.modify b _)[b]? = _
  rw [Array.getElem?_eq_getElem (by simpa using hlt), Array.getElem_modify_self, h']
  rfl
theorem ParAt.setLoad (h : ParAt w b T k s) (s' : ByteArray) : ParAt (w.setCell ⟨b, 1, none⟩ (.string s')) b T k s' := by
  have hlt := lt_of_block h
  have h' : w.heap[b] = .cells #[.int .i8 k, .string s] T (0, 0) := by simpa [Array.getElem?_eq_getElem hlt] using (show w.heap[b]? = _ from h)
  show (w.heap.modify b _)[b]? = _
  rw [Array.getElem?_eq_getElem (by simpa using hlt), Array.getElem_modify_self, h']
  rfl
theorem Only.setAt (h : Only b w w') (i : Nat) (u : Value) : Only b w (w'.setCell ⟨b, i, none⟩ u) :=
  ⟨h.os, h.tape, h.output, by simpa [World.setCell] using h.size, fun j hj hne => (Below.heap_setCell w' ⟨b, i, none⟩ u j (by
    rintro rfl
    exact hne rfl)).trans (h.block j hj hne)⟩
theorem ParAt.below (h : ParAt w b T k s) (hb : Below B w w') (hB : b < B) : ParAt w' b T k s := (hb.block b hB).trans h
end

/-- The sealed sector of a kind and a load, as a text. -/
def sealS (k : Int) (s : ByteArray) : ByteArray := strOfNums (sealI k (bytesI s))
theorem sealS_size (k : Int) (s : ByteArray) : (sealS k s).size = s.size + 7 := by rw [sealS, strOfNums_size, sealI_length, bytesI_length]
theorem bytesI_sealS {k : Int} (h0 : 0 ≤ k) (h1 : k < 256) (s : ByteArray) : bytesI (sealS k s) = sealI k (bytesI s) := bytesI_strOfNums (sealI_bytes h0 h1 (bytesI_bytes s))
theorem enc_one {k : Int} (h0 : 0 ≤ k) (h1 : k < 256) : enc 1 k = [k] := by
  simp [enc]
  omega

set_option maxRecDepth 100000 in
set_option maxHeartbeats 1000000 in
theorem sector_any (k : Int) (s : ByteArray) (w : World) (h0 : 1 ≤ k) (h1 : k ≤ 127) (hs : s.size ≤ 505) (ht : TabOk w) :
    Calls Tryd.prog 41 #[.agg #[.int .i8 k, .string s]] w fun e w' => e = .returned (.string (sealS k s)) ∧ Below w.heap.size w w' := by
  obtain ⟨i0, hi, hz0, hz1, hz2⟩ := info_parts infoByte
  have hf1 : fitsB ((1 : Nat) : Int) k = true := fitsB_yes (by omega) (by omega) (by omega) (by simp [mostOf]; omega)
  have hf2 : fitsB ((2 : Nat) : Int) (s.size : Int) = true := fitsB_yes (by omega) (by omega) (by omega) (by simp [mostOf]; omega)
  have b0 : Below w.heap.size w ((w.alloc (.cells #[.int .i8 k, .string s] 81)).alloc (.cells #[.int .i64 k] 3)) := ((Below.refl _ _).alloc (Nat.le_refl _) _).alloc (by simp) _
  have p0 : ParAt ((w.alloc (.cells #[.int .i8 k, .string s] 81)).alloc (.cells #[.int .i64 k] 3)) w.heap.size 81 k s :=
    (ParAt.new w 81 k s).below ((Below.refl _ _).alloc (Nat.le_refl _) _) (by simp)
  have HF1 := Lib.hid hf1
  have HF2 := Lib.hid hf2
  clear hf1 hf2
  go_enter Tryd.func41, Tryd.ntmps41
  go_wp2_with fail
  refine (numPut_any ((1 : Nat) : Int) none (some ⟨w.heap.size + 1, 0, none⟩) 0 1 0 1 [] [k] _ Lies.nothing (lies_int _ 3 k (by simp)) (by omega) (by omega)).mono ?_
  intro e w1 hpost
  obtain ⟨v1, rfl, hown1, hb1⟩ := put_single HF1.out hpost
  have hb01 : Below w.heap.size w w1 := b0.trans (hb1.mono (by simp; omega))
  have p1 := p0.below hb1 p0.lt
  obtain ⟨A1, c1, rfl⟩ := own_shape hown1
  have hl1 := Lies.of_own hown1
  rw [List.nil_append, enc_one (by omega) (by omega)] at hl1
  clear hpost hown1 hb1 b0 p0
  have cl1 := p1.load
  go_wp2_with fail
  refine (numPut_any ((2 : Nat) : Int) A1 (some ⟨w1.heap.size, 0, none⟩) 1 1 c1 1 [k] [(s.size : Int)] _ (hl1.alloc _) (lies_int w1 3 (s.size : Int) rfl) (by omega) (by omega)).mono ?_
  intro e w2 hpost
  obtain ⟨v2, rfl, hown2, hb2⟩ := put_single HF2.out hpost
  have hb02 : Below w.heap.size w w2 := (hb01.alloc hb01.size _).trans (hb2.mono (by have := hb01.size; simp; omega))
  have p2 := (p1.below ((Below.refl _ _).alloc (Nat.le_refl _) _) p1.lt).below hb2 (by have := p1.lt; simp; omega)
  have hB2 : w.heap.size ≤ (w1.alloc (.cells #[.int .i64 (s.size : Int)] 3)).heap.size := by have := hb01.size; simp; omega
  have hB2' := hb2.size
  clear hpost hb2 hb01 p1 cl1 hl1
  generalize (w1.alloc (.cells #[.int .i64 (s.size : Int)] 3)).heap.size = B2 at *
  have cl2 := p2.load
  go_wp2_with (at_builtin; refine Lib.wpList_append_own_string w2 rfl _ _ 50 9 rfl B2 5 i0 Tryd.underlying50 Tryd.underlying9 hi hz0 hz1 hz2 _ _ _ rfl hown2 s rfl ?c1 ?c2 hB2' ?_)
  case c1 => unfold maxLen; simp; omega
  case c2 => simp; omega
  intro v3 w3 hown3 hg3 _
  have hb03 : Below w.heap.size w w3 := hb02.grown hg3 hb02.size (fun j hj => Nat.le_trans hB2 (hown2.lt j hj).1)
  have ehead : List.map (Value.int .u8) ([k] ++ enc 2 (s.size : Int)) ++ Lib.strCells s = (headI k (bytesI s)).map (Value.int .u8) := by
    rw [strCells_bytesI, ← List.map_append, headI, bytesI_length, List.append_assoc]
    rfl
  replace hown3 : w3.ownsRow B2 5 1 v3 (3 + s.size) ((headI k (bytesI s)).map (Value.int .u8)) := by
    rw [← ehead]
    exact hown3
  obtain ⟨A3, c3, rfl⟩ := own_shape hown3
  have hl3 := Lies.of_own hown3
  have hby := headI_bytes (k := k) (l := bytesI s) (by omega) (by omega) (bytesI_bytes s)
  have hlen := headI_length k (bytesI s)
  rw [bytesI_length] at hlen
  have HD : Hid (headI k (bytesI s) ++ enc 4 (sumI (headI k (bytesI s)) : Nat) = sealI k (bytesI s)) := rfl
  have hsl := sumI_lt hby
  have hn3 : 3 + s.size ≤ 9223372036854775807 := by omega
  have ht3 := ht.below hb03
  generalize 3 + s.size = n3 at *
  generalize headI k (bytesI s) = hd at *
  clear hown3 hg3 ehead hown2 hb02 p2 cl2 hB2 hB2'
  go_wp2_with fail
  refine (sumI_any n3 c3 A3 hd w3 ht3 hl3 hby hn3).mono ?_
  rintro e w4 ⟨rfl, hb4⟩
  have hb04 := hb03.trans (hb4.mono hb03.size)
  have hl4 := hl3.up hb4 (Nat.le_refl _)
  have hfs : fitsB ((4 : Nat) : Int) ((sumI hd : Nat) : Int) = true := fitsB_yes (by omega) (by omega) (by omega) (by simp [mostOf]; omega)
  have HFS := Lib.hid hfs
  clear hb4 hb03 hl3 ht3 hfs
  go_wp2_with fail
  refine (numPut_any ((4 : Nat) : Int) A3 (some ⟨w4.heap.size, 0, none⟩) n3 1 c3 1 hd [((sumI hd : Nat) : Int)] _ (hl4.alloc _) (lies_int w4 3 ((sumI hd : Nat) : Int) rfl) ?d1 (by omega)).mono ?_
  case d1 => have := hl4.1; simp at this; omega
  intro e w5 hpost
  obtain ⟨v5, rfl, hown5, hb5⟩ := put_single HFS.out hpost
  have hb05 : Below w.heap.size w w5 := (hb04.alloc hb04.size _).trans (hb5.mono (by have := hb04.size; simp; omega))
  have hconv := conv_own (P := Tryd.prog) 50 9 5 Tryd.underlying50 Tryd.underlying5 Tryd.underlying9 hown5
  rw [HD.out] at hconv
  clear hpost hb5 hown5 hb04 hl4
  go_wp2_with fail
  go_ret
  exact ⟨rfl, hb05⟩

end Go.Proofs.YtjdacpnfgpdjhaaDoor
