/-
  The statement SealBack: what was sealed is opened as it was, fields come back, and what is opened, sealed, is the sector: for every kind, all texts, widths and numbers the call answers true and the arguments stay as they were. No conditions; the listed table is tied to the program's text.
-/
import Derived.Test.YtmnaemfijplnkaaDoorSealRefMake
import Derived.Test.YtmnaemfijplnkaaDoorSealRefFields
import Derived.ShutString
import Derived.ChangeOld
namespace Go.Proofs.YtmnaemfijplnkaaDoor.sealBack
open Go.ChangeShapes Go.WideShapes Go.ChangeAt Go.RowKit
open Go.ChangeMaps (open_string shut_string)
set_option linter.unusedVariables false
set_option linter.unusedSimpArgs false

theorem makeOut_gen (k : Int) (s : ByteArray) (zw zl : List Int) : ∃ l e, makeOut k s zw zl = .returned (.tuple #[.string l, .int .i64 e]) := by
  unfold makeOut
  split
  · exact ⟨_, _, rfl⟩
  · exact ⟨_, _, rfl⟩
theorem fldVal_len (k : Int) (t : ByteArray) (zw : List Int) : (fldVal k t zw).length ≤ zw.length := by
  unfold fldVal
  split
  · rw [valK_length]; exact Nat.le_refl _
  · simp

theorem isS_sealS {k : Int} {s : ByteArray} (h : mayS k s = true) (h2 : k ≤ 127) : isS (sealS k s) = true := by
  obtain ⟨h1, h3⟩ := of_mayS h
  unfold isS
  rw [bytesI_sealS (by omega) (by omega)]
  exact isI_seal h1 h2 (by rw [bytesI_length]; exact h3)
theorem kindS_sealS {k : Int} (s : ByteArray) (h1 : 1 ≤ k) (h2 : k ≤ 127) : kindS (sealS k s) = k := by
  unfold kindS
  rw [bytesI_sealS (by omega) (by omega), kind_seal]
theorem loadS_sealS {k : Int} (s : ByteArray) (h1 : 1 ≤ k) (h2 : k ≤ 127) : loadS (sealS k s) = s := by
  apply bytesI_inj
  rw [bytesI_loadS, bytesI_sealS (by omega) (by omega), load_seal]
theorem open_seal {k : Int} {s : ByteArray} (h : mayS k s = true) (h2 : k ≤ 127) : openOut (sealS k s) = .returned (.tuple #[.int .i8 k, .string s, .int .i64 0]) := by
  rw [openOut_yes (isS_sealS h h2), kindS_sealS s (of_mayS h).1 h2, loadS_sealS s (of_mayS h).1 h2]
theorem seal_open {t : ByteArray} (h : isS t = true) : kindS t ≤ 127 ∧ (loadS t).size ≤ 505 ∧ sealOut (kindS t) (loadS t) = .returned (.tuple #[.string t, .int .i64 0]) := by
  obtain ⟨h7, h5, h1, h2, _⟩ := isI_parts h
  rw [bytesI_length] at h7 h5
  have hl := loadS_size h7
  have h1 : 1 ≤ kindS t := h1
  have h2 : kindS t ≤ 127 := h2
  refine ⟨h2, by omega, ?_⟩
  rw [sealOut_yes (mayS_yes h1 (by omega)), (isS_seal h7 h5 h1 h2).1 h]

theorem encZ_append (a b : List (Int × Int)) : encZ (a ++ b) = encZ a ++ encZ b := by simp [encZ]
theorem okZ_append (a b : List (Int × Int)) : okZ (a ++ b) = (okZ a && okZ b) := by simp [okZ]
theorem encZ_take_length {zw zl : List Int} (hl : zw.length = zl.length) : ∀ {j : Nat}, j ≤ zw.length → (encZ ((zw.zip zl).take j)).length = atK zw j := by
  intro j
  induction j with
  | zero => intro _; rfl
  | succ j ih =>
    intro hj
    rw [zip_take_succ (by omega) (by omega), encZ_snoc, List.length_append, enc_length, ih (by omega), atK_succ (by omega)]
/-- Each number is read again. -/
theorem read_again {zw zl rest : List Int} (hl : zw.length = zl.length) (hok : okZ (zw.zip zl) = true) {j : Nat} (hj : j < zw.length) :
    getErr (encZ (zw.zip zl) ++ rest) (atK zw j) zw[j] = 0 ∧ getVal (encZ (zw.zip zl) ++ rest) (atK zw j) zw[j] = zl[j]'(by omega) := by
  have hjl : j < zl.length := by omega
  have e : zw.zip zl = (zw.zip zl).take (j + 1) ++ (zw.zip zl).drop (j + 1) := (List.take_append_drop _ _).symm
  have e2 : encZ (zw.zip zl) = encZ ((zw.zip zl).take j) ++ (enc zw[j].toNat zl[j] ++ encZ ((zw.zip zl).drop (j + 1))) := by
    have h := encZ_append ((zw.zip zl).take (j + 1)) ((zw.zip zl).drop (j + 1))
    rw [← e, zip_take_succ hj hjl, encZ_snoc, List.append_assoc] at h
    exact h
  have hf : fitsB zw[j] zl[j] = true := by
    have h := okZ_append ((zw.zip zl).take (j + 1)) ((zw.zip zl).drop (j + 1))
    rw [← e, hok, zip_take_succ hj hjl, okZ_snoc] at h
    rcases hh : fitsB zw[j] zl[j] with _ | _
    · rw [hh] at h; simp at h
    · rfl
  obtain ⟨⟨h1, h2⟩, h3, h4⟩ := of_fitsB hf
  have hm := mayB_yes h1 h2
  have hlen := encZ_take_length hl (j := j) (by omega)
  have hdt : ((encZ (zw.zip zl) ++ rest).drop ((atK zw j : Nat) : Int).toNat).take zw[j].toNat = enc zw[j].toNat zl[j] := by
    rw [Int.toNat_natCast, e2, List.append_assoc, List.drop_left' hlen, List.append_assoc, List.take_left' (enc_length _ _)]
  have hdec : dec (enc zw[j].toNat zl[j]) = zl[j] := dec_enc _ _ h3 (Int.lt_of_le_of_lt h4 (mostOf_pow h1 h2))
  have hle : ((atK zw j : Nat) : Int) + zw[j] ≤ ((encZ (zw.zip zl) ++ rest).length : Int) := by
    rw [e2, List.length_append, List.length_append, List.length_append, enc_length, hlen]
    omega
  constructor
  · unfold getErr
    rw [hdt, hdec, hm, if_neg (by simp), if_pos ⟨by omega, hle, hf⟩]
  · unfold getVal
    rw [hdt, hdec, if_pos ⟨hm, by omega, hle, hf⟩]
theorem fields_again {zw zl rest : List Int} (hl : zw.length = zl.length) (hok : okZ (zw.zip zl) = true) :
    ∀ {j : Nat}, j ≤ zw.length → okK (encZ (zw.zip zl) ++ rest) zw j = true ∧ valK (encZ (zw.zip zl) ++ rest) zw j = zl.take j := by
  intro j
  induction j with
  | zero => intro _; exact ⟨rfl, by simp [valK]⟩
  | succ j ih =>
    intro hj
    have h1 := ih (by omega)
    obtain ⟨h2, h3⟩ := read_again (rest := rest) hl hok (j := j) (by omega)
    rw [okK_succ (by omega), valK_succ (by omega), h1.1, h1.2, h2, h3, List.take_succ_eq_append_getElem (by omega)]
    exact ⟨rfl, rfl⟩
/-- What Fields answers of what was made. -/
theorem fields_make {k : Int} {s : ByteArray} {zw zl : List Int} (h : makeB k s zw zl = true) (h2 : k ≤ 127) :
    fldVal k (sealS k (makeS s zw zl)) zw = zl ∧ fldRest k (sealS k (makeS s zw zl)) zw = s ∧ fldErr k (sealS k (makeS s zw zl)) zw = 0 := by
  obtain ⟨hl, hok, hm⟩ := makeB_iff.1 h
  have h1 := (of_mayS hm).1
  have hload := loadS_sealS (makeS s zw zl) h1 h2
  have hbl : loadI (bytesI (sealS k (makeS s zw zl))) = encZ (zw.zip zl) ++ bytesI s := by
    rw [← bytesI_loadS, hload]
    unfold makeS
    rw [bytesI_append, bytesI_strOfNums (encZ_bytes _)]
  have hf := fields_again (rest := bytesI s) hl hok (Nat.le_refl zw.length)
  have hB : fldB k (sealS k (makeS s zw zl)) zw = true := by
    unfold fldB ofS
    rw [isS_sealS hm h2, kindS_sealS _ h1 h2, hbl, hf.1]
    simp
  refine ⟨?_, ?_, ?_⟩
  · unfold fldVal
    rw [if_pos hB, hbl, hf.2, hl, List.take_length]
  · unfold fldRest
    rw [if_pos hB, hload]
    apply bytesI_inj
    rw [bytesI_extract]
    unfold makeS
    have hat : (encZ (zw.zip zl)).length = atK zw zw.length := by
      have h := encZ_take_length hl (Nat.le_refl zw.length)
      rwa [List.take_of_length_le (by rw [List.length_zip]; omega)] at h
    rw [bytesI_append, bytesI_strOfNums (encZ_bytes _), List.drop_left' hat]
  · unfold fldErr
    rw [if_pos hB]
theorem of_other {k j : Int} {s : ByteArray} (h1 : 1 ≤ k) (h2 : k ≤ 127) (hj : ¬ k = j) : ofOut j (sealS k s) = .returned (.tuple #[.string ⟨#[]⟩, .int .i64 30]) := by
  apply ofOut_no
  unfold ofS
  rw [kindS_sealS s h1 h2]
  simp [hj]

set_option maxRecDepth 100000 in
set_option maxHeartbeats 2000000 in
theorem walk (a0 : Int) (a1 : ByteArray) (a2 : ByteArray) (a3 : Option Addr) (len3 cap3 : Nat) (z3 : List Int) (a4 : Option Addr) (len4 cap4 : Nat) (z4 : List Int) (w : World) (w0 : (Lit.int .i8 a0).wf = true) (w1 : a1.size ≤ maxLen) (w2 : a2.size ≤ maxLen) (w3 : IsRow .i64 w a3 len3 cap3 z3) (w4 : IsRow .i64 w a4 len4 cap4 z4) (ht : TabOk w) :
    Calls Tryd.prog 5 #[.int .i8 a0, .string a1, .string a2, .slice a3 len3 cap3, .slice a4 len4 cap4] w fun e w' => e = .returned (.bool true) ∧ Below w.heap.size w w' := by
  have hk := (bd_i8 w0).2
  have M1 := Lib.hid w1
  have M2 := Lib.hid w2
  obtain ⟨hl3, -, hx3⟩ := lies_of_row w3
  obtain ⟨hl4, -, hx4⟩ := lies_of_row w4
  unfold maxLen at w1 w2 hx3 hx4
  generalize z3.take len3 = zw at *
  generalize z4.take len4 = zl at *
  clear w3 w4
  by_cases g1 : a1.size ≤ 2000
  · by_cases g2 : a2.size ≤ 2000
    · by_cases g3 : len3 ≤ 200
      · by_cases g4 : len4 ≤ 200
        · have HL4 : Hid (zl.length = len4) := by show _ = _; simpa using hl4.1
          clear w0
          by_cases hmy : mayS a0 a1 = true
          · have EO := Lib.hid (open_seal hmy hk)
            have SO := Lib.hid (sealOut_yes hmy)
            have hsz := sealS_size a0 a1
            clear hmy
            generalize sealS a0 a1 = S1 at *
            have hS1 : S1.size ≤ maxLen := by unfold maxLen; omega
            have hne7 : ((S1.size : Int) != (a1.size : Int) + 7) = false := by rw [bne_eq_false_iff_eq]; omega
            have HSZ := Lib.hid hsz
            clear hsz
            go_enter Tryd.func5, Tryd.ntmps5
            go_wp2_with fail
            refine (Seal_any a0 a1 w hk M1.out ht).mono ?_
            rintro e v1 ⟨rfl, hb1⟩
            rw [SO.out]
            have ht1 := ht.below hb1
            go_wp2_with fail
            refine (Open_any S1 v1 hS1 ht1).mono ?_
            rintro e v2 ⟨rfl, hb2⟩
            rw [EO.out]
            have hb02 := hb1.trans (hb2.mono hb1.size)
            clear hb1 hb2 ht1 EO SO hS1
            have ht4 := ht.below hb02
            go_wp2_with fail
            refine (Open_any a2 v2 M2.out ht4).mono ?_
            rintro e v4 ⟨rfl, hb4⟩
            have hb04 := hb02.trans (hb4.mono hb02.size)
            have ht4 := ht.below hb04
            clear hb4
            by_cases hs2 : isS a2 = true
            · obtain ⟨s1, s2, s3⟩ := seal_open hs2
              rw [openOut_yes hs2]
              clear hs2
              have hm5 : (loadS a2).size ≤ maxLen := by unfold maxLen; omega
              generalize loadS a2 = L2 at *
              generalize kindS a2 = K2 at *
              go_wp2_with fail
              refine (Seal_any K2 L2 v4 s1 hm5 ht4).mono ?_
              rintro e v5 ⟨rfl, hb5⟩
              rw [s3]
              have hb05 := hb04.trans (hb5.mono hb04.size)
              clear hb5 ht4 s3 hb04
              have ht8 := ht.below hb05
              have k3 := hl3.up hb05 (Nat.le_refl _)
              have k4 := hl4.up hb05 (Nat.le_refl _)
              go_wp2_with fail
              refine (Make_any a0 a1 a3 a4 len3 len4 cap3 cap4 zw zl v5 hk (by omega) k3 k4 (by omega) (by omega) ht8).mono ?_
              rintro e v8 ⟨rfl, hb8⟩
              have hb08 := hb05.trans (hb8.mono hb05.size)
              have k3 := hl3.up hb08 (Nat.le_refl _)
              have k4 := hl4.up hb08 (Nat.le_refl _)
              have ht8 := ht.below hb08
              clear hb8
              by_cases hmk : makeB a0 a1 zw zl = true
              · have FM := fields_make hmk hk
                have hm2 := (makeB_iff.1 hmk).2.2
                have k1 := (of_mayS hm2).1
                have hsz9 := sealS_size a0 (makeS a1 zw zl)
                have h505 := (of_mayS hm2).2
                have HOT := Lib.hid (fun j => of_other (s := makeS a1 zw zl) (j := j) k1 hk)
                rw [makeOut_yes hmk]
                clear hmk hm2
                generalize sealS a0 (makeS a1 zw zl) = C at *
                obtain ⟨f1, f2, f3⟩ := FM
                have hCm : C.size ≤ maxLen := by unfold maxLen; omega
                clear hsz9 h505
                go_wp2_with fail
                refine (Fields_any a0 C a3 len3 cap3 zw v8 hCm k3 (by omega) ht8).mono ?_
                rintro e v9 ⟨hb9, A9, n9, c9, rfl, HN9, hA9⟩
                rw [f1] at HN9 hA9
                rw [f2, f3]
                have hb09 := hb08.trans (hb9.mono hb08.size)
                have k4 := hl4.up hb09 (Nat.le_refl _)
                have ht9 := ht.below hb09
                have hn9 : n9 = len4 := by rw [← HN9.out]; exact HL4.out
                clear hb9 f1 f2 f3 k3 HN9
                subst hn9
                by_cases h127 : a0 = 127
                · subst h127
                  go_wp2_with fail
                  refine (Of_any _ C v9 hCm ht9).mono ?_
                  rintro e v10 ⟨rfl, hb10⟩
                  rw [HOT.out 1 (by omega)]
                  have hb010 := hb09.trans (hb10.mono hb09.size)
                  have hA9 := hA9.up hb10 (Nat.le_refl _)
                  have k4 := hl4.up hb010 (Nat.le_refl _)
                  clear hb10 hb09 ht9
                  go_wp2_with fail
                  refine (ints_any a4 A9 _ _ n9 n9 cap4 c9 zl zl v10 k4 hA9 (by omega) (by omega)).mono ?_
                  rintro e v11 ⟨rfl, q, rfl⟩
                  rw [show decide (zl = zl) = true from by simp]
                  have hb11 : Below w.heap.size w (v10.drewN q) := hb010.trans (drewN_below _ _ _)
                  have ht11 := ht.below hb11
                  generalize v10.drewN q = v11 at *
                  clear hb010 hA9 k4
                  go_wp2_with fail
                  refine (wakes_any _ ht11).mono ?_
                  rintro e v12 ⟨rfl, hb12⟩
                  have hb012 := hb11.trans (hb12.mono hb11.size)
                  clear hb11 hb12 ht11
                  go_wp2_with fail
                  go_ret
                  exact ⟨rfl, hb012⟩
                · have htm : a0.tmod 127 = a0 := Int.tmod_eq_of_lt (by omega) (by omega)
                  have ha7 : a0 < 127 := by omega
                  go_wp2_with fail
                  refine (Of_any _ C v9 hCm ht9).mono ?_
                  rintro e v10 ⟨rfl, hb10⟩
                  rw [HOT.out (a0 + 1) (by omega)]
                  have hb010 := hb09.trans (hb10.mono hb09.size)
                  have hA9 := hA9.up hb10 (Nat.le_refl _)
                  have k4 := hl4.up hb010 (Nat.le_refl _)
                  clear hb10 hb09 ht9
                  go_wp2_with fail
                  refine (ints_any a4 A9 _ _ n9 n9 cap4 c9 zl zl v10 k4 hA9 (by omega) (by omega)).mono ?_
                  rintro e v11 ⟨rfl, q, rfl⟩
                  rw [show decide (zl = zl) = true from by simp]
                  have hb11 : Below w.heap.size w (v10.drewN q) := hb010.trans (drewN_below _ _ _)
                  have ht11 := ht.below hb11
                  generalize v10.drewN q = v11 at *
                  clear hb010 hA9 k4
                  go_wp2_with fail
                  refine (wakes_any _ ht11).mono ?_
                  rintro e v12 ⟨rfl, hb12⟩
                  have hb012 := hb11.trans (hb12.mono hb11.size)
                  clear hb11 hb12 ht11
                  go_wp2_with fail
                  go_ret
                  exact ⟨rfl, hb012⟩
              · have hmk' : makeB a0 a1 zw zl = false := by simpa using hmk
                rw [makeOut_no hmk']
                clear hmk hmk' k3 k4
                go_wp2_with fail
                refine (wakes_any _ ht8).mono ?_
                rintro e v9 ⟨rfl, hb9⟩
                have hb09 := hb08.trans (hb9.mono hb08.size)
                clear hb08 hb9
                go_wp2_with fail
                go_ret
                exact ⟨rfl, hb09⟩
            · rw [openOut_no (by simpa using hs2)]
              clear hs2 ht4
              have ht8 := ht.below hb04
              have k3 := hl3.up hb04 (Nat.le_refl _)
              have k4 := hl4.up hb04 (Nat.le_refl _)
              go_wp2_with fail
              refine (Make_any a0 a1 a3 a4 len3 len4 cap3 cap4 zw zl v4 hk (by omega) k3 k4 (by omega) (by omega) ht8).mono ?_
              rintro e v8 ⟨rfl, hb8⟩
              have hb08 := hb04.trans (hb8.mono hb04.size)
              have k3 := hl3.up hb08 (Nat.le_refl _)
              have k4 := hl4.up hb08 (Nat.le_refl _)
              have ht8 := ht.below hb08
              clear hb8
              by_cases hmk : makeB a0 a1 zw zl = true
              · have FM := fields_make hmk hk
                have hm2 := (makeB_iff.1 hmk).2.2
                have k1 := (of_mayS hm2).1
                have hsz9 := sealS_size a0 (makeS a1 zw zl)
                have h505 := (of_mayS hm2).2
                have HOT := Lib.hid (fun j => of_other (s := makeS a1 zw zl) (j := j) k1 hk)
                rw [makeOut_yes hmk]
                clear hmk hm2
                generalize sealS a0 (makeS a1 zw zl) = C at *
                obtain ⟨f1, f2, f3⟩ := FM
                have hCm : C.size ≤ maxLen := by unfold maxLen; omega
                clear hsz9 h505
                go_wp2_with fail
                refine (Fields_any a0 C a3 len3 cap3 zw v8 hCm k3 (by omega) ht8).mono ?_
                rintro e v9 ⟨hb9, A9, n9, c9, rfl, HN9, hA9⟩
                rw [f1] at HN9 hA9
                rw [f2, f3]
                have hb09 := hb08.trans (hb9.mono hb08.size)
                have k4 := hl4.up hb09 (Nat.le_refl _)
                have ht9 := ht.below hb09
                have hn9 : n9 = len4 := by rw [← HN9.out]; exact HL4.out
                clear hb9 f1 f2 f3 k3 HN9
                subst hn9
                by_cases h127 : a0 = 127
                · subst h127
                  go_wp2_with fail
                  refine (Of_any _ C v9 hCm ht9).mono ?_
                  rintro e v10 ⟨rfl, hb10⟩
                  rw [HOT.out 1 (by omega)]
                  have hb010 := hb09.trans (hb10.mono hb09.size)
                  have hA9 := hA9.up hb10 (Nat.le_refl _)
                  have k4 := hl4.up hb010 (Nat.le_refl _)
                  clear hb10 hb09 ht9
                  go_wp2_with fail
                  refine (ints_any a4 A9 _ _ n9 n9 cap4 c9 zl zl v10 k4 hA9 (by omega) (by omega)).mono ?_
                  rintro e v11 ⟨rfl, q, rfl⟩
                  rw [show decide (zl = zl) = true from by simp]
                  have hb11 : Below w.heap.size w (v10.drewN q) := hb010.trans (drewN_below _ _ _)
                  have ht11 := ht.below hb11
                  generalize v10.drewN q = v11 at *
                  clear hb010 hA9 k4
                  go_wp2_with fail
                  refine (wakes_any _ ht11).mono ?_
                  rintro e v12 ⟨rfl, hb12⟩
                  have hb012 := hb11.trans (hb12.mono hb11.size)
                  clear hb11 hb12 ht11
                  go_wp2_with fail
                  go_ret
                  exact ⟨rfl, hb012⟩
                · have htm : a0.tmod 127 = a0 := Int.tmod_eq_of_lt (by omega) (by omega)
                  have ha7 : a0 < 127 := by omega
                  go_wp2_with fail
                  refine (Of_any _ C v9 hCm ht9).mono ?_
                  rintro e v10 ⟨rfl, hb10⟩
                  rw [HOT.out (a0 + 1) (by omega)]
                  have hb010 := hb09.trans (hb10.mono hb09.size)
                  have hA9 := hA9.up hb10 (Nat.le_refl _)
                  have k4 := hl4.up hb010 (Nat.le_refl _)
                  clear hb10 hb09 ht9
                  go_wp2_with fail
                  refine (ints_any a4 A9 _ _ n9 n9 cap4 c9 zl zl v10 k4 hA9 (by omega) (by omega)).mono ?_
                  rintro e v11 ⟨rfl, q, rfl⟩
                  rw [show decide (zl = zl) = true from by simp]
                  have hb11 : Below w.heap.size w (v10.drewN q) := hb010.trans (drewN_below _ _ _)
                  have ht11 := ht.below hb11
                  generalize v10.drewN q = v11 at *
                  clear hb010 hA9 k4
                  go_wp2_with fail
                  refine (wakes_any _ ht11).mono ?_
                  rintro e v12 ⟨rfl, hb12⟩
                  have hb012 := hb11.trans (hb12.mono hb11.size)
                  clear hb11 hb12 ht11
                  go_wp2_with fail
                  go_ret
                  exact ⟨rfl, hb012⟩
              · have hmk' : makeB a0 a1 zw zl = false := by simpa using hmk
                rw [makeOut_no hmk']
                clear hmk hmk' k3 k4
                go_wp2_with fail
                refine (wakes_any _ ht8).mono ?_
                rintro e v9 ⟨rfl, hb9⟩
                have hb09 := hb08.trans (hb9.mono hb08.size)
                clear hb08 hb9
                go_wp2_with fail
                go_ret
                exact ⟨rfl, hb09⟩
          · have SO := Lib.hid (sealOut_no (by simpa using hmy))
            clear hmy
            go_enter Tryd.func5, Tryd.ntmps5
            go_wp2_with fail
            refine (Seal_any a0 a1 w hk M1.out ht).mono ?_
            rintro e v1 ⟨rfl, hb1⟩
            rw [SO.out]
            clear SO
            have ht4 := ht.below hb1
            go_wp2_with fail
            refine (Open_any a2 v1 M2.out ht4).mono ?_
            rintro e v4 ⟨rfl, hb4⟩
            have hb04 := hb1.trans (hb4.mono hb1.size)
            have ht4 := ht.below hb04
            clear hb4
            by_cases hs2 : isS a2 = true
            · obtain ⟨s1, s2, s3⟩ := seal_open hs2
              rw [openOut_yes hs2]
              clear hs2
              have hm5 : (loadS a2).size ≤ maxLen := by unfold maxLen; omega
              generalize loadS a2 = L2 at *
              generalize kindS a2 = K2 at *
              go_wp2_with fail
              refine (Seal_any K2 L2 v4 s1 hm5 ht4).mono ?_
              rintro e v5 ⟨rfl, hb5⟩
              rw [s3]
              have hb05 := hb04.trans (hb5.mono hb04.size)
              clear hb5 ht4 s3 hb04
              have ht8 := ht.below hb05
              have k3 := hl3.up hb05 (Nat.le_refl _)
              have k4 := hl4.up hb05 (Nat.le_refl _)
              go_wp2_with fail
              refine (Make_any a0 a1 a3 a4 len3 len4 cap3 cap4 zw zl v5 hk (by omega) k3 k4 (by omega) (by omega) ht8).mono ?_
              rintro e v8 ⟨rfl, hb8⟩
              have hb08 := hb05.trans (hb8.mono hb05.size)
              have k3 := hl3.up hb08 (Nat.le_refl _)
              have k4 := hl4.up hb08 (Nat.le_refl _)
              have ht8 := ht.below hb08
              clear hb8
              by_cases hmk : makeB a0 a1 zw zl = true
              · have FM := fields_make hmk hk
                have hm2 := (makeB_iff.1 hmk).2.2
                have k1 := (of_mayS hm2).1
                have hsz9 := sealS_size a0 (makeS a1 zw zl)
                have h505 := (of_mayS hm2).2
                have HOT := Lib.hid (fun j => of_other (s := makeS a1 zw zl) (j := j) k1 hk)
                rw [makeOut_yes hmk]
                clear hmk hm2
                generalize sealS a0 (makeS a1 zw zl) = C at *
                obtain ⟨f1, f2, f3⟩ := FM
                have hCm : C.size ≤ maxLen := by unfold maxLen; omega
                clear hsz9 h505
                go_wp2_with fail
                refine (Fields_any a0 C a3 len3 cap3 zw v8 hCm k3 (by omega) ht8).mono ?_
                rintro e v9 ⟨hb9, A9, n9, c9, rfl, HN9, hA9⟩
                rw [f1] at HN9 hA9
                rw [f2, f3]
                have hb09 := hb08.trans (hb9.mono hb08.size)
                have k4 := hl4.up hb09 (Nat.le_refl _)
                have ht9 := ht.below hb09
                have hn9 : n9 = len4 := by rw [← HN9.out]; exact HL4.out
                clear hb9 f1 f2 f3 k3 HN9
                subst hn9
                by_cases h127 : a0 = 127
                · subst h127
                  go_wp2_with fail
                  refine (Of_any _ C v9 hCm ht9).mono ?_
                  rintro e v10 ⟨rfl, hb10⟩
                  rw [HOT.out 1 (by omega)]
                  have hb010 := hb09.trans (hb10.mono hb09.size)
                  have hA9 := hA9.up hb10 (Nat.le_refl _)
                  have k4 := hl4.up hb010 (Nat.le_refl _)
                  clear hb10 hb09 ht9
                  go_wp2_with fail
                  refine (ints_any a4 A9 _ _ n9 n9 cap4 c9 zl zl v10 k4 hA9 (by omega) (by omega)).mono ?_
                  rintro e v11 ⟨rfl, q, rfl⟩
                  rw [show decide (zl = zl) = true from by simp]
                  have hb11 : Below w.heap.size w (v10.drewN q) := hb010.trans (drewN_below _ _ _)
                  have ht11 := ht.below hb11
                  generalize v10.drewN q = v11 at *
                  clear hb010 hA9 k4
                  go_wp2_with fail
                  refine (wakes_any _ ht11).mono ?_
                  rintro e v12 ⟨rfl, hb12⟩
                  have hb012 := hb11.trans (hb12.mono hb11.size)
                  clear hb11 hb12 ht11
                  go_wp2_with fail
                  go_ret
                  exact ⟨rfl, hb012⟩
                · have htm : a0.tmod 127 = a0 := Int.tmod_eq_of_lt (by omega) (by omega)
                  have ha7 : a0 < 127 := by omega
                  go_wp2_with fail
                  refine (Of_any _ C v9 hCm ht9).mono ?_
                  rintro e v10 ⟨rfl, hb10⟩
                  rw [HOT.out (a0 + 1) (by omega)]
                  have hb010 := hb09.trans (hb10.mono hb09.size)
                  have hA9 := hA9.up hb10 (Nat.le_refl _)
                  have k4 := hl4.up hb010 (Nat.le_refl _)
                  clear hb10 hb09 ht9
                  go_wp2_with fail
                  refine (ints_any a4 A9 _ _ n9 n9 cap4 c9 zl zl v10 k4 hA9 (by omega) (by omega)).mono ?_
                  rintro e v11 ⟨rfl, q, rfl⟩
                  rw [show decide (zl = zl) = true from by simp]
                  have hb11 : Below w.heap.size w (v10.drewN q) := hb010.trans (drewN_below _ _ _)
                  have ht11 := ht.below hb11
                  generalize v10.drewN q = v11 at *
                  clear hb010 hA9 k4
                  go_wp2_with fail
                  refine (wakes_any _ ht11).mono ?_
                  rintro e v12 ⟨rfl, hb12⟩
                  have hb012 := hb11.trans (hb12.mono hb11.size)
                  clear hb11 hb12 ht11
                  go_wp2_with fail
                  go_ret
                  exact ⟨rfl, hb012⟩
              · have hmk' : makeB a0 a1 zw zl = false := by simpa using hmk
                rw [makeOut_no hmk']
                clear hmk hmk' k3 k4
                go_wp2_with fail
                refine (wakes_any _ ht8).mono ?_
                rintro e v9 ⟨rfl, hb9⟩
                have hb09 := hb08.trans (hb9.mono hb08.size)
                clear hb08 hb9
                go_wp2_with fail
                go_ret
                exact ⟨rfl, hb09⟩
            · rw [openOut_no (by simpa using hs2)]
              clear hs2 ht4
              have ht8 := ht.below hb04
              have k3 := hl3.up hb04 (Nat.le_refl _)
              have k4 := hl4.up hb04 (Nat.le_refl _)
              go_wp2_with fail
              refine (Make_any a0 a1 a3 a4 len3 len4 cap3 cap4 zw zl v4 hk (by omega) k3 k4 (by omega) (by omega) ht8).mono ?_
              rintro e v8 ⟨rfl, hb8⟩
              have hb08 := hb04.trans (hb8.mono hb04.size)
              have k3 := hl3.up hb08 (Nat.le_refl _)
              have k4 := hl4.up hb08 (Nat.le_refl _)
              have ht8 := ht.below hb08
              clear hb8
              by_cases hmk : makeB a0 a1 zw zl = true
              · have FM := fields_make hmk hk
                have hm2 := (makeB_iff.1 hmk).2.2
                have k1 := (of_mayS hm2).1
                have hsz9 := sealS_size a0 (makeS a1 zw zl)
                have h505 := (of_mayS hm2).2
                have HOT := Lib.hid (fun j => of_other (s := makeS a1 zw zl) (j := j) k1 hk)
                rw [makeOut_yes hmk]
                clear hmk hm2
                generalize sealS a0 (makeS a1 zw zl) = C at *
                obtain ⟨f1, f2, f3⟩ := FM
                have hCm : C.size ≤ maxLen := by unfold maxLen; omega
                clear hsz9 h505
                go_wp2_with fail
                refine (Fields_any a0 C a3 len3 cap3 zw v8 hCm k3 (by omega) ht8).mono ?_
                rintro e v9 ⟨hb9, A9, n9, c9, rfl, HN9, hA9⟩
                rw [f1] at HN9 hA9
                rw [f2, f3]
                have hb09 := hb08.trans (hb9.mono hb08.size)
                have k4 := hl4.up hb09 (Nat.le_refl _)
                have ht9 := ht.below hb09
                have hn9 : n9 = len4 := by rw [← HN9.out]; exact HL4.out
                clear hb9 f1 f2 f3 k3 HN9
                subst hn9
                by_cases h127 : a0 = 127
                · subst h127
                  go_wp2_with fail
                  refine (Of_any _ C v9 hCm ht9).mono ?_
                  rintro e v10 ⟨rfl, hb10⟩
                  rw [HOT.out 1 (by omega)]
                  have hb010 := hb09.trans (hb10.mono hb09.size)
                  have hA9 := hA9.up hb10 (Nat.le_refl _)
                  have k4 := hl4.up hb010 (Nat.le_refl _)
                  clear hb10 hb09 ht9
                  go_wp2_with fail
                  refine (ints_any a4 A9 _ _ n9 n9 cap4 c9 zl zl v10 k4 hA9 (by omega) (by omega)).mono ?_
                  rintro e v11 ⟨rfl, q, rfl⟩
                  rw [show decide (zl = zl) = true from by simp]
                  have hb11 : Below w.heap.size w (v10.drewN q) := hb010.trans (drewN_below _ _ _)
                  have ht11 := ht.below hb11
                  generalize v10.drewN q = v11 at *
                  clear hb010 hA9 k4
                  go_wp2_with fail
                  refine (wakes_any _ ht11).mono ?_
                  rintro e v12 ⟨rfl, hb12⟩
                  have hb012 := hb11.trans (hb12.mono hb11.size)
                  clear hb11 hb12 ht11
                  go_wp2_with fail
                  go_ret
                  exact ⟨rfl, hb012⟩
                · have htm : a0.tmod 127 = a0 := Int.tmod_eq_of_lt (by omega) (by omega)
                  have ha7 : a0 < 127 := by omega
                  go_wp2_with fail
                  refine (Of_any _ C v9 hCm ht9).mono ?_
                  rintro e v10 ⟨rfl, hb10⟩
                  rw [HOT.out (a0 + 1) (by omega)]
                  have hb010 := hb09.trans (hb10.mono hb09.size)
                  have hA9 := hA9.up hb10 (Nat.le_refl _)
                  have k4 := hl4.up hb010 (Nat.le_refl _)
                  clear hb10 hb09 ht9
                  go_wp2_with fail
                  refine (ints_any a4 A9 _ _ n9 n9 cap4 c9 zl zl v10 k4 hA9 (by omega) (by omega)).mono ?_
                  rintro e v11 ⟨rfl, q, rfl⟩
                  rw [show decide (zl = zl) = true from by simp]
                  have hb11 : Below w.heap.size w (v10.drewN q) := hb010.trans (drewN_below _ _ _)
                  have ht11 := ht.below hb11
                  generalize v10.drewN q = v11 at *
                  clear hb010 hA9 k4
                  go_wp2_with fail
                  refine (wakes_any _ ht11).mono ?_
                  rintro e v12 ⟨rfl, hb12⟩
                  have hb012 := hb11.trans (hb12.mono hb11.size)
                  clear hb11 hb12 ht11
                  go_wp2_with fail
                  go_ret
                  exact ⟨rfl, hb012⟩
              · have hmk' : makeB a0 a1 zw zl = false := by simpa using hmk
                rw [makeOut_no hmk']
                clear hmk hmk' k3 k4
                go_wp2_with fail
                refine (wakes_any _ ht8).mono ?_
                rintro e v9 ⟨rfl, hb9⟩
                have hb09 := hb08.trans (hb9.mono hb08.size)
                clear hb08 hb9
                go_wp2_with fail
                go_ret
                exact ⟨rfl, hb09⟩
        · have g4' : 200 < len4 := by omega
          clear g4
          go_enter Tryd.func5, Tryd.ntmps5
          go_wp2_with fail
          refine (wakes_any _ ht).mono ?_
          rintro e w6 ⟨rfl, hb6⟩
          go_wp2_with fail
          go_ret
          exact ⟨rfl, hb6⟩
      · have g3' : 200 < len3 := by omega
        clear g3
        go_enter Tryd.func5, Tryd.ntmps5
        go_wp2_with fail
        refine (wakes_any _ ht).mono ?_
        rintro e w6 ⟨rfl, hb6⟩
        go_wp2_with fail
        go_ret
        exact ⟨rfl, hb6⟩
    · have g2' : 2000 < a2.size := by omega
      clear g2
      go_enter Tryd.func5, Tryd.ntmps5
      go_wp2_with fail
      refine (wakes_any _ ht).mono ?_
      rintro e w6 ⟨rfl, hb6⟩
      go_wp2_with fail
      go_ret
      exact ⟨rfl, hb6⟩
  · have g1' : 2000 < a1.size := by omega
    clear g1
    go_enter Tryd.func5, Tryd.ntmps5
    go_wp2_with fail
    refine (wakes_any _ ht).mono ?_
    rintro e w6 ⟨rfl, hb6⟩
    go_wp2_with fail
    go_ret
    exact ⟨rfl, hb6⟩

/-! ### THE ROW's STEP: WRITTEN OUT: LEAVE IT -/
set_option maxRecDepth 100000 in
theorem lifted (os : Os) (started : os.Started) (H : Type) (enc : TypeId × Value → H) :
    ReturnsInHanded {} Tryd.checked os 5 .any (fun w args => (Rows.sealBackSpec.pre enc Tryd.prog Tryd.f5 [] false w args ∧ laidMetH Tryd.prog laidL w) ∧ sizedMet enc Tryd.prog Tryd.f5 (OpenSpec.ofChange Rows.sealBackSpec) false w args) (Rows.sealBackSpec.post enc Tryd.prog Tryd.f5 false true false false) := by
  refine returnsInHanded_of_change_and (C := Tryd.checked) (X := fun w _ => laidMetH Tryd.prog laidL w) (fun _ _ _ hh h => h.of_heap hh) own started (by kernel_rfl) Tryd.func5
    (ChangeSpec.witness_shaped (enc := enc) (C := Tryd.checked) (os := os) (X := fun w _ => laidMetH Tryd.prog laidL w) false (World.doorLaid Tryd.prog 14 os) #[.int .i8 0, .string ByteArray.empty, .string ByteArray.empty, .slice none 0 0, .slice none 0 0] 8 rfl (World.shaped_of_RefB (by kernel_rfl) (by kernel_rfl)) (by kernel_rfl) (by kernel_rfl) (by kernel_rfl) (door_met os _)) ?_
  intro W base args ds gs before hval0 hW _ _ hL _
  have hval : ∀ (j : Nat) t v, Tryd.f5.params[j]? = some t → args[j]? = some v → Value.okWide Tryd.prog W .any base t v := hval0
  have hW' := hW
  obtain ⟨p, q, hA0, hV, rfl, hfz, hnd⟩ := hW
  have hA : DataW.TrodAll enc Tryd.prog W 0 (fun _ => true) true Tryd.f5.params.toList args.toList ds p := hA0
  rw [Tryd.params5] at hA hval
  obtain ⟨v0, vs0, d0, ds0, p0, q0, hargs, rfl, rfl, h0, r0⟩ := trodAll_cons hA
  obtain ⟨v1, vs1, d1, ds1, p1, q1, rfl, rfl, rfl, h1, r1⟩ := trodAll_cons r0
  obtain ⟨v2, vs2, d2, ds2, p2, q2, rfl, rfl, rfl, h2, r2⟩ := trodAll_cons r1
  obtain ⟨v3, vs3, d3, ds3, p3, q3, rfl, rfl, rfl, h3, r3⟩ := trodAll_cons r2
  obtain ⟨v4, vs4, d4, ds4, p4, q4, rfl, rfl, rfl, h4, r4⟩ := trodAll_cons r3
  obtain ⟨rfl, rfl, rfl⟩ := trodAll_nil r4
  obtain rfl : args = #[v0, v1, v2, v3, v4] := by cases args; simp_all
  obtain ⟨rfl, rfl⟩ := trodVars_none hV
  obtain ⟨a0, rfl, rfl, rfl, w0⟩ := open_int Tryd.underlying22 (hval 0 22 v0 rfl rfl) h0
  obtain ⟨a1, rfl, rfl, rfl, w1⟩ := open_string Tryd.underlying9 (hval 1 9 v1 rfl rfl) h1
  obtain ⟨a2, rfl, rfl, rfl, w2⟩ := open_string Tryd.underlying9 (hval 2 9 v2 rfl rfl) h2
  obtain ⟨a3, len3, cap3, rfl⟩ := okWide_slice Tryd.underlying30 (hval 3 30 v3 rfl rfl)
  have k3 := h3
  have lt3 : ∀ x ∈ p3, x.block < W.heap.size := by obtain ⟨m, hm⟩ := k3; exact DataW.trod_lt m _ _ _ hm
  obtain ⟨z3, w3⟩ : ∃ zs, IsRow .i64 W a3 len3 cap3 zs := by
    obtain ⟨fuel, hf⟩ := h3
    rcases open_ints Tryd.underlying30 Tryd.underlying3 (by kernel_rfl) hf with ⟨hcs, _⟩ | ⟨x, l, c, zs, hcs, _, hl, hm, hz, _, hcell, hwz⟩
    · simp [Value.cells] at hcs
      obtain ⟨rfl, rfl, rfl⟩ := hcs
      exact ⟨[], .inl ⟨rfl, rfl, rfl, rfl⟩⟩
    · simp [Value.cells] at hcs
      obtain ⟨rfl, rfl, rfl⟩ := hcs
      exact ⟨zs, .inr ⟨_, rfl, hl, hm, by simpa using hz, hcell, hwz⟩⟩
  obtain ⟨a4, len4, cap4, rfl⟩ := okWide_slice Tryd.underlying30 (hval 4 30 v4 rfl rfl)
  have k4 := h4
  have lt4 : ∀ x ∈ p4, x.block < W.heap.size := by obtain ⟨m, hm⟩ := k4; exact DataW.trod_lt m _ _ _ hm
  obtain ⟨z4, w4⟩ : ∃ zs, IsRow .i64 W a4 len4 cap4 zs := by
    obtain ⟨fuel, hf⟩ := h4
    rcases open_ints Tryd.underlying30 Tryd.underlying3 (by kernel_rfl) hf with ⟨hcs, _⟩ | ⟨x, l, c, zs, hcs, _, hl, hm, hz, _, hcell, hwz⟩
    · simp [Value.cells] at hcs
      obtain ⟨rfl, rfl, rfl⟩ := hcs
      exact ⟨[], .inl ⟨rfl, rfl, rfl, rfl⟩⟩
    · simp [Value.cells] at hcs
      obtain ⟨rfl, rfl, rfl⟩ := hcs
      exact ⟨zs, .inr ⟨_, rfl, hl, hm, by simpa using hz, hcell, hwz⟩⟩
  clear hA0 hval0
  refine (walk a0 a1 a2 a3 len3 cap3 z3 a4 len4 cap4 z4 W w0 w1 w2 w3 w4 (met_of_laid hL)).mono fun e W' ⟨he, bel⟩ => ?_
  subst he
  exact ⟨_, rfl, _, _, _, [], _, [], hW', trodAll_mk1 (shut_bool Tryd.underlying4 _), (trodAll_cons_mk (shut_int Tryd.underlying22 w0) (trodAll_cons_mk (shut_string Tryd.underlying9 w1) (trodAll_cons_mk (shut_string Tryd.underlying9 w2) (trodAll_cons_mk (Below.trod laidOut (by kernel_rfl) (of_decide_eq_true (by kernel_rfl)) k3 bel lt3) (trodAll_cons_mk (Below.trod laidOut (by kernel_rfl) (of_decide_eq_true (by kernel_rfl)) k4 bel lt4) trodAll_mk0))))), rfl, bel.frame _, fun h => by cases h⟩

theorem over : Rows.sealBackRow.holds Tryd.pinned (OpenSpec.ofChange Rows.sealBackSpec) :=
  OpenClaim.holds_of_wide 5 Tryd.f5 rfl rfl rfl rfl rfl rfl rfl ⟨rfl, rfl, rfl, rfl, rfl⟩ rfl rfl rfl rfl rfl (by kernel_rfl) Tryd.func5 (by kernel_rfl)
    (of_decide_eq_true (by kernel_rfl)) (by unfold Func.isWrapper; first | (rw [if_pos (by decide +kernel)]; kernel_rfl) | (rw [if_neg (by decide +kernel)]; exact ⟨rfl, rfl⟩))
    (fun os started H enc _ => lifted os started H enc)

/-- ████ THE STATEMENT ████ -/
theorem proved : Rows.SealBackSaid := over
#print axioms proved

/-- THE TIED CARD. -/
theorem card : Rows.SealBackCardSaid :=
  Claim7.holds_tied_plain_at .later [] [.data] true (true, "13dc331e1975aa81921650795ae8cf8570dddbb58092df3655d18c083ec1526f") false
    proved (fun _ h => by cases h) (by kernel_rfl) (fun _ h => by cases h) sealBack_row_tie rfl ⟨rfl, rfl⟩ (by kernel_rfl) rfl
    (fun f fn hf hfn => by
      obtain rfl : f = 5 := Option.some.inj ((show Tryd.prog.funcNamed "breakwater/breakwaterlaw03.SealBack" = some 5 by kernel_rfl).symm.trans hf) |>.symm
      obtain rfl : fn = Tryd.f5 := (Option.some.inj (Tryd.func5.symm.trans hfn)).symm
      exact ⟨by kernel_rfl, fun j t ht => by
        rw [Tryd.params5] at ht
        have hm : t ∈ [22, 9, 9, 30, 30] := by simpa using Array.mem_of_getElem? ht
        have hall : ([22, 9, 9, 30, 30].all fun u => !Tryd.prog.wantsStandIn u) = true := by kernel_rfl
        exact (show Tryd.prog.wantsStandIn t = false by simpa using List.all_eq_true.1 hall t hm)⟩)
    (by kernel_rfl)
#print axioms card
end Go.Proofs.YtmnaemfijplnkaaDoor.sealBack
