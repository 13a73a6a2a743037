/-
  Records of ballots, their sectors, the next ballot of a node, over plain values. It speaks of no program's function.
-/
import Derived.Test.YtgllamjgagbblaaDoorSealAgain
namespace Go.Proofs.YtgllamjgagbblaaDoor
open Go.RowKit
set_option linter.unusedVariables false
set_option linter.unusedSimpArgs false

/-- A sector whose numbers were read is made of them and of what is left. -/
theorem make_fields_any {k : Int} {t : ByteArray} {zw : List Int} (h : fldB k t zw = true) :
    1 ≤ k ∧ k ≤ 127 ∧ (fldVal k t zw).length = zw.length ∧ makeB k (fldRest k t zw) zw (fldVal k t zw) = true ∧ sealS k (makeS (fldRest k t zw) zw (fldVal k t zw)) = t := by
  have h' := h
  unfold fldB ofS at h
  rw [Bool.and_eq_true, Bool.and_eq_true, decide_eq_true_iff] at h
  obtain ⟨⟨hs, hk⟩, hok⟩ := h
  obtain ⟨h7, h5, h1, h2, _⟩ := isI_parts hs
  rw [bytesI_length] at h7 h5
  have h1 : 1 ≤ kindS t := h1
  have h2 : kindS t ≤ 127 := h2
  have hlb : IsBytes (loadI (bytesI t)) := load_bytes (bytesI_bytes t)
  have hv : fldVal k t zw = valK (loadI (bytesI t)) zw zw.length := by unfold fldVal; rw [if_pos h']
  have hr : fldRest k t zw = (loadS t).extract (atK zw zw.length) (loadS t).size := by unfold fldRest; rw [if_pos h']
  obtain ⟨hz, he⟩ := fields_enc hlb (Nat.le_refl zw.length) hok
  rw [List.take_length] at hz he
  have hm : makeS (fldRest k t zw) zw (valK (loadI (bytesI t)) zw zw.length) = loadS t := by
    apply bytesI_inj
    unfold makeS
    rw [bytesI_append, bytesI_strOfNums (encZ_bytes _), he, hr, bytesI_extract, bytesI_loadS]
    exact List.take_append_drop _ _
  have hls := loadS_size h7
  refine ⟨by omega, by omega, by rw [hv, valK_length], ?_, ?_⟩
  · rw [hv]
    exact makeB_iff.2 ⟨by rw [valK_length], hz, by rw [hm]; exact mayS_yes (by omega) (by omega)⟩
  · rw [hv, hm, ← hk]
    exact (isS_seal h7 h5 h1 h2).1 hs

/-- The widths of a record's numbers; may it be; its sector. -/
def recW : List Int := [2, 6, 6]
def recMay (i m b : Int) (v : ByteArray) : Bool :=
  (decide (0 ≤ i) && decide (i ≤ 512)) && ((decide (0 ≤ m) && decide (m ≤ 1099511627776)) && ((decide (0 ≤ b) && decide (b ≤ m)) && (if 0 < b then decide (1 ≤ v.size) && decide (v.size ≤ 64) else decide (v.size = 0))))
theorem of_recMay {i m b : Int} {v : ByteArray} (h : recMay i m b v = true) : 0 ≤ i ∧ i ≤ 512 ∧ 0 ≤ m ∧ m ≤ 1099511627776 ∧ 0 ≤ b ∧ b ≤ m ∧ v.size ≤ 64 := by
  unfold recMay at h
  simp only [Bool.and_eq_true, decide_eq_true_iff] at h
  obtain ⟨⟨h1, h2⟩, ⟨h3, h4⟩, ⟨h5, h6⟩, h7⟩ := h
  split at h7
  · simp only [Bool.and_eq_true, decide_eq_true_iff] at h7
    omega
  · simp only [decide_eq_true_iff] at h7
    omega
def recS (i m b : Int) (v : ByteArray) : ByteArray := sealS 4 (makeS v recW [i, m, b])
def recV (i m b : Int) (v : ByteArray) : ByteArray := if recMay i m b v = true then recS i m b v else ⟨#[]⟩
def recE (i m b : Int) (v : ByteArray) : Int := if recMay i m b v = true then 0 else 2
theorem rec_ok {i m b : Int} {v : ByteArray} (h : recMay i m b v = true) : makeB 4 v recW [i, m, b] = true := by
  obtain ⟨h1, h2, h3, h4, h5, h6, h7⟩ := of_recMay h
  have w6 : mostOf 6 = 1099511627776 := rfl
  have w2 : mostOf 2 = 65535 := rfl
  have hz : okZ (recW.zip [i, m, b]) = true := by
    simp only [recW, List.zip_cons_cons, List.zip_nil_right, okZ, List.all_cons, List.all_nil, Bool.and_true, Bool.and_eq_true]
    exact ⟨fitsB_yes (by omega) (by omega) (by omega) (by omega), fitsB_yes (by omega) (by omega) (by omega) (by omega), fitsB_yes (by omega) (by omega) (by omega) (by omega)⟩
  refine makeB_iff.2 ⟨rfl, hz, mayS_yes (by omega) ?_⟩
  have h6 := (encZ_le hz).2
  have hl : (recW.zip [i, m, b]).length = 3 := rfl
  rw [makeS_size]
  omega
theorem rec_yes {i m b : Int} {v : ByteArray} (h : recMay i m b v = true) : recV i m b v = recS i m b v ∧ recE i m b v = 0 := by simp [recV, recE, h]
theorem rec_no {i m b : Int} {v : ByteArray} (h : recMay i m b v = false) : recV i m b v = ⟨#[]⟩ ∧ recE i m b v = 2 := by simp [recV, recE, h]
/-- What the program makes of a record that may be. -/
theorem rec_make {i m b : Int} {v : ByteArray} (h : recMay i m b v = true) : makeOut 4 v recW [i, m, b] = .returned (.tuple #[.string (recV i m b v), .int .i64 (recE i m b v)]) := by
  rw [makeOut_yes (rec_ok h), (rec_yes h).1, (rec_yes h).2]
  rfl
theorem recS_size {i m b : Int} {v : ByteArray} (h : recMay i m b v = true) : 7 ≤ (recS i m b v).size ∧ (recS i m b v).size ≤ 512 := by
  obtain ⟨_, _, hm⟩ := makeB_iff.1 (rec_ok h)
  have h1 := isS_sealS hm (by omega : (4 : Int) ≤ 127)
  obtain ⟨h7, h5, _⟩ := isI_parts h1
  rw [bytesI_length] at h7 h5
  unfold recS
  omega

/-- What is read of a sector. -/
def valN (s : ByteArray) (j : Nat) : Int := (fldVal 4 s recW).getD j 0
def rdB (s : ByteArray) : Bool := fldB 4 s recW && recMay (valN s 0) (valN s 1) (valN s 2) (fldRest 4 s recW)
def rdI (s : ByteArray) : Int := if rdB s = true then valN s 0 else 0
def rdM (s : ByteArray) : Int := if rdB s = true then valN s 1 else 0
def rdL (s : ByteArray) : Int := if rdB s = true then valN s 2 else 0
def rdV (s : ByteArray) : ByteArray := if rdB s = true then fldRest 4 s recW else ⟨#[]⟩
def rdE (s : ByteArray) : Int := if s = ⟨#[]⟩ ∨ rdB s = true then 0 else 50
theorem rdB_empty : rdB ⟨#[]⟩ = false := by
  unfold rdB fldB ofS isS
  have : isI (bytesI ⟨#[]⟩) = false := by decide
  rw [this]
  rfl
theorem rd_no {s : ByteArray} (h : rdB s = false) : rdI s = 0 ∧ rdM s = 0 ∧ rdL s = 0 ∧ rdV s = ⟨#[]⟩ := by simp [rdI, rdM, rdL, rdV, h]
theorem rd_yes {s : ByteArray} (h : rdB s = true) : rdI s = valN s 0 ∧ rdM s = valN s 1 ∧ rdL s = valN s 2 ∧ rdV s = fldRest 4 s recW ∧ rdE s = 0 := by simp [rdI, rdM, rdL, rdV, rdE, h]
theorem rd_bad {s : ByteArray} (h : rdB s = false) (h2 : ¬ s = ⟨#[]⟩) : rdI s = 0 ∧ rdM s = 0 ∧ rdL s = 0 ∧ rdV s = ⟨#[]⟩ ∧ rdE s = 50 := by simp [rdI, rdM, rdL, rdV, rdE, h, h2]
theorem rd_empty : rdI ⟨#[]⟩ = 0 ∧ rdM ⟨#[]⟩ = 0 ∧ rdL ⟨#[]⟩ = 0 ∧ rdV ⟨#[]⟩ = ⟨#[]⟩ ∧ rdE ⟨#[]⟩ = 0 := by simp [rdI, rdM, rdL, rdV, rdE, rdB_empty]

/-- A record's sector is read as it. -/
theorem rd_rec {i m b : Int} {v : ByteArray} (h : recMay i m b v = true) : rdI (recS i m b v) = i ∧ rdM (recS i m b v) = m ∧ rdL (recS i m b v) = b ∧ rdV (recS i m b v) = v ∧ rdE (recS i m b v) = 0 := by
  obtain ⟨h3, h4, h5⟩ := fields_make (rec_ok h) (by omega)
  have hf : fldB 4 (recS i m b v) recW = true := by
    unfold recS
    rcases hh : fldB 4 (sealS 4 (makeS v recW [i, m, b])) recW with _ | _
    · unfold fldErr at h5
      rw [hh] at h5
      simp at h5
    · rfl
  have e0 : valN (recS i m b v) 0 = i := by unfold valN recS; rw [h3]; rfl
  have e1 : valN (recS i m b v) 1 = m := by unfold valN recS; rw [h3]; rfl
  have e2 : valN (recS i m b v) 2 = b := by unfold valN recS; rw [h3]; rfl
  have e3 : fldRest 4 (recS i m b v) recW = v := h4
  have hb : rdB (recS i m b v) = true := by
    unfold rdB
    rw [hf, e0, e1, e2, e3, h]
    rfl
  obtain ⟨g1, g2, g3, g4, g5⟩ := rd_yes hb
  rw [g1, g2, g3, g4, g5, e0, e1, e2, e3]
  exact ⟨rfl, rfl, rfl, rfl, rfl⟩
/-- What is read may be, and its sector is the text. -/
theorem rec_rd {s : ByteArray} (h : rdB s = true) : recMay (rdI s) (rdM s) (rdL s) (rdV s) = true ∧ recS (rdI s) (rdM s) (rdL s) (rdV s) = s := by
  obtain ⟨g1, g2, g3, g4, g5⟩ := rd_yes h
  rw [g1, g2, g3, g4]
  unfold rdB at h
  rw [Bool.and_eq_true] at h
  refine ⟨h.2, ?_⟩
  obtain ⟨_, _, hl, _, hs⟩ := make_fields_any h.1
  unfold recS valN
  have hl : (fldVal 4 s recW).length = 3 := hl
  generalize fldVal 4 s recW = V at *
  match V, hl with
  | [a, b, c], _ => exact hs
theorem recMay_zero : recMay 0 0 0 ⟨#[]⟩ = true := by decide

/-- The greatest of what was seen and 15; the next ballot; whose a ballot is. -/
def topV (l : List Int) : Int := l.foldl max 15
def nextV (node : Int) (l : List Int) : Int :=
  if 0 ≤ node ∧ node ≤ 15 ∧ topV l < 1099511627776 ∧ 16 * ((topV l - node) / 16 + 1) + node ≤ 1099511627776 then 16 * ((topV l - node) / 16 + 1) + node else 0
def nodeV (b : Int) : Int := if 16 ≤ b ∧ b ≤ 1099511627776 then b % 16 else -1
theorem topV_snoc (l : List Int) (x : Int) : topV (l ++ [x]) = max (topV l) x := by simp [topV]
theorem topV_take {l : List Int} {k : Nat} (h : k < l.length) : topV (l.take (k + 1)) = max (topV (l.take k)) l[k] := by
  rw [List.take_succ_eq_append_getElem h, topV_snoc]
theorem topV_le (l : List Int) : 15 ≤ topV l := by
  unfold topV
  have : ∀ (l : List Int) (a : Int), a ≤ l.foldl max a := by
    intro l
    induction l with
    | nil => intro a; exact Int.le_refl _
    | cons x l ih => intro a; exact Int.le_trans (Int.le_max_left a x) (ih (max a x))
  exact this l 15
theorem next_no {node : Int} {l : List Int} (h : ¬ (0 ≤ node ∧ node ≤ 15 ∧ topV l < 1099511627776 ∧ 16 * ((topV l - node) / 16 + 1) + node ≤ 1099511627776)) : nextV node l = 0 := by
  unfold nextV
  rw [if_neg h]
theorem next_yes {node : Int} {l : List Int} (h1 : 0 ≤ node) (h2 : node ≤ 15) (h3 : topV l < 1099511627776) (h4 : 16 * ((topV l - node) / 16 + 1) + node ≤ 1099511627776) : nextV node l = 16 * ((topV l - node) / 16 + 1) + node := by
  unfold nextV
  rw [if_pos ⟨h1, h2, h3, h4⟩]
theorem node_yes {b : Int} (h1 : 16 ≤ b) (h2 : b ≤ 1099511627776) : nodeV b = b % 16 := by
  unfold nodeV
  rw [if_pos ⟨h1, h2⟩]
theorem node_no {b : Int} (h : ¬ (16 ≤ b ∧ b ≤ 1099511627776)) : nodeV b = -1 := by
  unfold nodeV
  rw [if_neg h]

end Go.Proofs.YtgllamjgagbblaaDoor
