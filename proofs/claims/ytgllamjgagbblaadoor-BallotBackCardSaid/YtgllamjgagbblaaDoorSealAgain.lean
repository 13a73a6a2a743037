/-
  What was sealed is opened as it was; numbers that were made into a sector are read again; what is read, made, is the sector. It speaks of no program's function.
-/
import Derived.Test.YtgllamjgagbblaaDoorSealRefMake
import Derived.Test.YtgllamjgagbblaaDoorSealRefFields
namespace Go.Proofs.YtgllamjgagbblaaDoor
open Go.RowKit
set_option linter.unusedVariables false
set_option linter.unusedSimpArgs false

theorem makeOut_gen (k : Int) (s : ByteArray) (zw zl : List Int) : ∃ l e, makeOut k s zw zl = .returned (.tuple #[.string l, .int .i64 e]) := by
  unfold makeOut
  split
  · exact ⟨_, _, rfl⟩
  · exact ⟨_, _, rfl⟩
theorem fldVal_len (k : Int) (t : ByteArray) (zw : List Int) : (fldVal k t zw).length ≤ zw.length := by
  unfold fldVal
  split
  · rw [valK_length]; exact Nat.le_refl _
  · simp

theorem isS_sealS {k : Int} {s : ByteArray} (h : mayS k s = true) (h2 : k ≤ 127) : isS (sealS k s) = true := by
  obtain ⟨h1, h3⟩ := of_mayS h
  unfold isS
  rw [bytesI_sealS (by omega) (by omega)]
  exact isI_seal h1 h2 (by rw [bytesI_length]; exact h3)
theorem kindS_sealS {k : Int} (s : ByteArray) (h1 : 1 ≤ k) (h2 : k ≤ 127) : kindS (sealS k s) = k := by
  unfold kindS
  rw [bytesI_sealS (by omega) (by omega), kind_seal]
theorem loadS_sealS {k : Int} (s : ByteArray) (h1 : 1 ≤ k) (h2 : k ≤ 127) : loadS (sealS k s) = s := by
  apply bytesI_inj
  rw [bytesI_loadS, bytesI_sealS (by omega) (by omega), load_seal]
theorem open_seal {k : Int} {s : ByteArray} (h : mayS k s = true) (h2 : k ≤ 127) : openOut (sealS k s) = .returned (.tuple #[.int .i8 k, .string s, .int .i64 0]) := by
  rw [openOut_yes (isS_sealS h h2), kindS_sealS s (of_mayS h).1 h2, loadS_sealS s (of_mayS h).1 h2]
theorem seal_open {t : ByteArray} (h : isS t = true) : kindS t ≤ 127 ∧ (loadS t).size ≤ 505 ∧ sealOut (kindS t) (loadS t) = .returned (.tuple #[.string t, .int .i64 0]) := by
  obtain ⟨h7, h5, h1, h2, _⟩ := isI_parts h
  rw [bytesI_length] at h7 h5
  have hl := loadS_size h7
  have h1 : 1 ≤ kindS t := h1
  have h2 : kindS t ≤ 127 := h2
  refine ⟨h2, by omega, ?_⟩
  rw [sealOut_yes (mayS_yes h1 (by omega)), (isS_seal h7 h5 h1 h2).1 h]

theorem encZ_append (a b : List (Int × Int)) : encZ (a ++ b) = encZ a ++ encZ b := by simp [encZ]
theorem okZ_append (a b : List (Int × Int)) : okZ (a ++ b) = (okZ a && okZ b) := by simp [okZ]
theorem encZ_take_length {zw zl : List Int} (hl : zw.length = zl.length) : ∀ {j : Nat}, j ≤ zw.length → (encZ ((zw.zip zl).take j)).length = atK zw j := by
  intro j
  induction j with
  | zero => intro _; rfl
  | succ j ih =>
    intro hj
    rw [zip_take_succ (by omega) (by omega), encZ_snoc, List.length_append, enc_length, ih (by omega), atK_succ (by omega)]
/-- Each number is read again. -/
theorem read_again {zw zl rest : List Int} (hl : zw.length = zl.length) (hok : okZ (zw.zip zl) = true) {j : Nat} (hj : j < zw.length) :
    getErr (encZ (zw.zip zl) ++ rest) (atK zw j) zw[j] = 0 ∧ getVal (encZ (zw.zip zl) ++ rest) (atK zw j) zw[j] = zl[j]'(by omega) := by
  have hjl : j < zl.length := by omega
  have e : zw.zip zl = (zw.zip zl).take (j + 1) ++ (zw.zip zl).drop (j + 1) := (List.take_append_drop _ _).symm
  have e2 : encZ (zw.zip zl) = encZ ((zw.zip zl).take j) ++ (enc zw[j].toNat zl[j] ++ encZ ((zw.zip zl).drop (j + 1))) := by
    have h := encZ_append ((zw.zip zl).take (j + 1)) ((zw.zip zl).drop (j + 1))
    rw [← e, zip_take_succ hj hjl, encZ_snoc, List.append_assoc] at h
    exact h
  have hf : fitsB zw[j] zl[j] = true := by
    have h := okZ_append ((zw.zip zl).take (j + 1)) ((zw.zip zl).drop (j + 1))
    rw [← e, hok, zip_take_succ hj hjl, okZ_snoc] at h
    rcases hh : fitsB zw[j] zl[j] with _ | _
    · rw [hh] at h; simp at h
    · rfl
  obtain ⟨⟨h1, h2⟩, h3, h4⟩ := of_fitsB hf
  have hm := mayB_yes h1 h2
  have hlen := encZ_take_length hl (j := j) (by omega)
  have hdt : ((encZ (zw.zip zl) ++ rest).drop ((atK zw j : Nat) : Int).toNat).take zw[j].toNat = enc zw[j].toNat zl[j] := by
    rw [Int.toNat_natCast, e2, List.append_assoc, List.drop_left' hlen, List.append_assoc, List.take_left' (enc_length _ _)]
  have hdec : dec (enc zw[j].toNat zl[j]) = zl[j] := dec_enc _ _ h3 (Int.lt_of_le_of_lt h4 (mostOf_pow h1 h2))
  have hle : ((atK zw j : Nat) : Int) + zw[j] ≤ ((encZ (zw.zip zl) ++ rest).length : Int) := by
    rw [e2, List.length_append, List.length_append, List.length_append, enc_length, hlen]
    omega
  constructor
  · unfold getErr
    rw [hdt, hdec, hm, if_neg (by simp), if_pos ⟨by omega, hle, hf⟩]
  · unfold getVal
    rw [hdt, hdec, if_pos ⟨hm, by omega, hle, hf⟩]
theorem fields_again {zw zl rest : List Int} (hl : zw.length = zl.length) (hok : okZ (zw.zip zl) = true) :
    ∀ {j : Nat}, j ≤ zw.length → okK (encZ (zw.zip zl) ++ rest) zw j = true ∧ valK (encZ (zw.zip zl) ++ rest) zw j = zl.take j := by
  intro j
  induction j with
  | zero => intro _; exact ⟨rfl, by simp [valK]⟩
  | succ j ih =>
    intro hj
    have h1 := ih (by omega)
    obtain ⟨h2, h3⟩ := read_again (rest := rest) hl hok (j := j) (by omega)
    rw [okK_succ (by omega), valK_succ (by omega), h1.1, h1.2, h2, h3, List.take_succ_eq_append_getElem (by omega)]
    exact ⟨rfl, rfl⟩
/-- What Fields answers of what was made. -/
theorem fields_make {k : Int} {s : ByteArray} {zw zl : List Int} (h : makeB k s zw zl = true) (h2 : k ≤ 127) :
    fldVal k (sealS k (makeS s zw zl)) zw = zl ∧ fldRest k (sealS k (makeS s zw zl)) zw = s ∧ fldErr k (sealS k (makeS s zw zl)) zw = 0 := by
  obtain ⟨hl, hok, hm⟩ := makeB_iff.1 h
  have h1 := (of_mayS hm).1
  have hload := loadS_sealS (makeS s zw zl) h1 h2
  have hbl : loadI (bytesI (sealS k (makeS s zw zl))) = encZ (zw.zip zl) ++ bytesI s := by
    rw [← bytesI_loadS, hload]
    unfold makeS
    rw [bytesI_append, bytesI_strOfNums (encZ_bytes _)]
  have hf := fields_again (rest := bytesI s) hl hok (Nat.le_refl zw.length)
  have hB : fldB k (sealS k (makeS s zw zl)) zw = true := by
    unfold fldB ofS
    rw [isS_sealS hm h2, kindS_sealS _ h1 h2, hbl, hf.1]
    simp
  refine ⟨?_, ?_, ?_⟩
  · unfold fldVal
    rw [if_pos hB, hbl, hf.2, hl, List.take_length]
  · unfold fldRest
    rw [if_pos hB, hload]
    apply bytesI_inj
    rw [bytesI_extract]
    unfold makeS
    have hat : (encZ (zw.zip zl)).length = atK zw zw.length := by
      have h := encZ_take_length hl (Nat.le_refl zw.length)
      rwa [List.take_of_length_le (by rw [List.length_zip]; omega)] at h
    rw [bytesI_append, bytesI_strOfNums (encZ_bytes _), List.drop_left' hat]
  · unfold fldErr
    rw [if_pos hB]
theorem of_other {k j : Int} {s : ByteArray} (h1 : 1 ≤ k) (h2 : k ≤ 127) (hj : ¬ k = j) : ofOut j (sealS k s) = .returned (.tuple #[.string ⟨#[]⟩, .int .i64 30]) := by
  apply ofOut_no
  unfold ofS
  rw [kindS_sealS s h1 h2]
  simp [hj]

/-- What was read, put, is the bytes. -/
theorem read_enc {l : List Int} (hl : IsBytes l) {a : Nat} {x : Int} (h : getErr l a x = 0) : fitsB x (getVal l a x) = true ∧ enc x.toNat (getVal l a x) = (l.drop a).take x.toNat := by
  unfold getErr at h
  split at h
  · cases h
  · rename_i hm
    have hm' : mayB x = true := by simpa using hm
    split at h
    · rename_i hc
      have hv : getVal l a x = dec ((l.drop a).take x.toNat) := by
        unfold getVal
        rw [if_pos ⟨hm', hc.1, hc.2.1, hc.2.2⟩, Int.toNat_natCast]
      have hc3 := hc.2.2
      have hc2 := hc.2.1
      rw [Int.toNat_natCast] at hc3
      rw [hv]
      refine ⟨hc3, ?_⟩
      have hb := isBytes_take (isBytes_drop hl a) x.toNat
      have hlen : ((l.drop a).take x.toNat).length = x.toNat := by rw [List.length_take, List.length_drop]; omega
      have := enc_dec hb
      rwa [hlen] at this
    · cases h
theorem fields_enc {l zw : List Int} (hl : IsBytes l) : ∀ {j : Nat}, j ≤ zw.length → okK l zw j = true →
    okZ ((zw.take j).zip (valK l zw j)) = true ∧ encZ ((zw.take j).zip (valK l zw j)) = l.take (atK zw j) := by
  intro j
  induction j with
  | zero => intro _ _; simp [valK, okZ, encZ, atK]
  | succ j ih =>
    intro hj h
    have hj' : j < zw.length := by omega
    rw [okK_succ hj', Bool.and_eq_true, beq_iff_eq] at h
    obtain ⟨h1, h2⟩ := ih (by omega) h.1
    obtain ⟨h3, h4⟩ := read_enc hl h.2
    have he := err_zero h.2
    have hz : (zw.take (j + 1)).zip (valK l zw (j + 1)) = (zw.take j).zip (valK l zw j) ++ [(zw[j], getVal l (atK zw j) zw[j])] := by
      rw [List.take_succ_eq_append_getElem hj', valK_succ hj', List.zip_append (by rw [List.length_take, valK_length]; omega)]
      rfl
    rw [hz, okZ_snoc, encZ_snoc, h1, h2, h3, h4, atK_succ hj']
    refine ⟨rfl, ?_⟩
    rw [List.take_add]
/-- A sector whose numbers were read, nothing being left, is made of them. -/
theorem make_fields {k : Int} {t : ByteArray} {zw : List Int} (h : fldB k t zw = true) (hr : fldRest k t zw = ⟨#[]⟩) :
    1 ≤ k ∧ k ≤ 127 ∧ (fldVal k t zw).length = zw.length ∧ makeB k ⟨#[]⟩ zw (fldVal k t zw) = true ∧ sealS k (makeS ⟨#[]⟩ zw (fldVal k t zw)) = t := by
  have h' := h
  unfold fldB ofS at h
  rw [Bool.and_eq_true, Bool.and_eq_true, decide_eq_true_iff] at h
  obtain ⟨⟨hs, hk⟩, hok⟩ := h
  obtain ⟨h7, h5, h1, h2, _⟩ := isI_parts hs
  rw [bytesI_length] at h7 h5
  have h1 : 1 ≤ kindS t := h1
  have h2 : kindS t ≤ 127 := h2
  have hlb : IsBytes (loadI (bytesI t)) := load_bytes (bytesI_bytes t)
  have hll : (loadI (bytesI t)).length = (loadS t).size := by rw [← bytesI_loadS, bytesI_length]
  have hv : fldVal k t zw = valK (loadI (bytesI t)) zw zw.length := by unfold fldVal; rw [if_pos h']
  have hat : (loadS t).size ≤ atK zw zw.length := by
    unfold fldRest at hr
    rw [if_pos h'] at hr
    have := congrArg ByteArray.size hr
    rw [ByteArray.size_extract] at this
    have h0 : (⟨#[]⟩ : ByteArray).size = 0 := rfl
    omega
  obtain ⟨hz, he⟩ := fields_enc hlb (Nat.le_refl zw.length) hok
  rw [List.take_length] at hz he
  rw [List.take_of_length_le (by omega)] at he
  have hm : makeS ⟨#[]⟩ zw (valK (loadI (bytesI t)) zw zw.length) = loadS t := by
    apply bytesI_inj
    unfold makeS
    rw [bytesI_append, bytesI_strOfNums (encZ_bytes _), he, bytesI_loadS]
    exact List.append_nil _
  have hls := loadS_size h7
  refine ⟨by omega, by omega, by rw [hv, valK_length], ?_, ?_⟩
  · rw [hv]
    exact makeB_iff.2 ⟨by rw [valK_length], hz, by rw [hm]; exact mayS_yes (by omega) (by omega)⟩
  · rw [hv, hm, ← hk]
    exact (isS_seal h7 h5 h1 h2).1 hs

end Go.Proofs.YtgllamjgagbblaaDoor
