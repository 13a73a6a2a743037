/-
  Decided sectors, rows of them, last keys, over plain values. It speaks of no program's function.
-/
import Derived.Test.YtjdacpnfgpdjhaaDoorSealTell
import Derived.Test.YtjdacpnfgpdjhaaDoorCmdMath
namespace Go.Proofs.YtjdacpnfgpdjhaaDoor
open Go.RowKit
set_option linter.unusedVariables false
set_option linter.unusedSimpArgs false

/-- A command's bytes as a text; are these a command's? -/
def cText (c : CmdM) : ByteArray := strOfNums (cEnc c)
def cIs (s : ByteArray) : Bool := cRd (bytesI s)
def cOfText (s : ByteArray) : CmdM := cCand (bytesI s)
theorem bytesI_cText {c : CmdM} (h : cMay c = true) : bytesI (cText c) = cEnc c := bytesI_strOfNums (cEnc_bytes h)
theorem cText_back {c : CmdM} (h : cMay c = true) : cIs (cText c) = true ∧ cOfText (cText c) = c := by
  unfold cIs cOfText
  rw [bytesI_cText h]
  exact ⟨(cand_enc h).2, (cand_enc h).1⟩
theorem cIs_back {s : ByteArray} (h : cIs s = true) : cMay (cOfText s) = true ∧ cText (cOfText s) = s := by
  refine ⟨(cRd_iff.1 h).2, ?_⟩
  unfold cText cOfText
  rw [enc_cand (bytesI_bytes s) h, strOfNums_bytesI]
theorem cText_inj {c d : CmdM} (hc : cMay c = true) (hd : cMay d = true) (h : cText c = cText d) : c = d := by
  rw [← (cText_back hc).2, ← (cText_back hd).2, h]
theorem cText_size {c : CmdM} (h : cMay c = true) : 11 ≤ (cText c).size ∧ (cText c).size ≤ 23 := by
  have h1 := cEnc_length c
  have h2 := cLen_bd c.kind
  have h3 : (cText c).size = (cEnc c).length := by unfold cText; rw [strOfNums_size]
  omega
theorem cIs_size {s : ByteArray} (h : cIs s = true) : 11 ≤ s.size ∧ s.size ≤ 23 := by
  obtain ⟨h1, h2⟩ := cIs_back h
  have := cText_size h1
  rw [h2] at this
  exact this
theorem cIs_take {c : CmdM} (h : cMay c = true) {n : Nat} (hn : n < (cText c).size) : cIs ((cText c).extract 0 n) = false := by
  unfold cIs
  rw [bytesI_take, bytesI_cText h]
  refine cRd_take h ?_
  have h3 : (cText c).size = (cEnc c).length := by unfold cText; rw [strOfNums_size]
  omega

/-- A decided sector. -/
def dSec (cmd : ByteArray) : ByteArray := sealS 5 cmd
def dV (cmd : ByteArray) : ByteArray := if cIs cmd = true then dSec cmd else ⟨#[]⟩
def dE (cmd : ByteArray) : Int := if cIs cmd = true then 0 else 2
def dRd (s : ByteArray) : Bool := ofS 5 s && cIs (loadS s)
theorem dRd_empty : dRd ⟨#[]⟩ = false := by
  unfold dRd ofS isS
  have : isI (bytesI ⟨#[]⟩) = false := by decide
  rw [this]
  rfl
theorem dec_sec {cmd : ByteArray} (h : cIs cmd = true) : dRd (dSec cmd) = true ∧ loadS (dSec cmd) = cmd := by
  have hz := cIs_size h
  have hm : mayS 5 cmd = true := mayS_yes (by omega) (by omega)
  have hl := loadS_sealS cmd (k := 5) (by omega) (by omega)
  refine ⟨?_, hl⟩
  unfold dRd dSec ofS
  rw [isS_sealS hm (by omega), kindS_sealS cmd (by omega) (by omega), hl, h]
  rfl
theorem sec_dec {s : ByteArray} (h : dRd s = true) : cIs (loadS s) = true ∧ dSec (loadS s) = s := by
  unfold dRd ofS at h
  rw [Bool.and_eq_true, Bool.and_eq_true, decide_eq_true_iff] at h
  obtain ⟨⟨hs, hk⟩, hc⟩ := h
  refine ⟨hc, ?_⟩
  obtain ⟨h7, h5, h1, h2, _⟩ := isI_parts hs
  rw [bytesI_length] at h7 h5
  have h1 : 1 ≤ kindS s := h1
  have h2 : kindS s ≤ 127 := h2
  unfold dSec
  rw [← hk]
  exact (isS_seal h7 h5 h1 h2).1 hs
theorem dSec_size {cmd : ByteArray} (h : cIs cmd = true) : 18 ≤ (dSec cmd).size ∧ (dSec cmd).size ≤ 30 := by
  have := cIs_size h
  unfold dSec
  rw [sealS_size]
  omega

/-! ### Rows -/
/-- The commands from the front; none where one ahead of the first that is not decided is no sector. -/
def rowO : List ByteArray → Option (List CmdM)
  | [] => some []
  | s :: r => if s = ⟨#[]⟩ then some [] else if dRd s = true then (rowO r).map (cOfText (loadS s) :: ·) else none
/-- As far as k: what was read of the first k sectors, all of them decided. -/
def rowK (l : List ByteArray) (k : Nat) : List CmdM := (l.take k).map fun s => cOfText (loadS s)
theorem rowK_succ {l : List ByteArray} {k : Nat} (h : k < l.length) : rowK l (k + 1) = rowK l k ++ [cOfText (loadS l[k])] := by
  unfold rowK
  rw [List.take_succ_eq_append_getElem h, List.map_append]
  rfl
theorem rowO_go : ∀ (l : List ByteArray) (k : Nat), k ≤ l.length → (∀ i (hi : i < l.length), i < k → dRd l[i] = true) → rowO l = (rowO (l.drop k)).map (rowK l k ++ ·)
  | l, 0, _, _ => by simp [rowK]
  | [], k + 1, h, _ => by simp at h
  | s :: r, k + 1, h, hd => by
    have h0 := hd 0 (by simp) (by omega)
    simp at h0
    have hne : ¬ s = ⟨#[]⟩ := by
      rintro rfl
      rw [dRd_empty] at h0
      cases h0
    have ih := rowO_go r k (by simpa using h) (fun i hi hk => by
      have := hd (i + 1) (by simp; omega) (by omega)
      simpa using this)
    show (if s = ⟨#[]⟩ then some [] else if dRd s = true then (rowO r).map (cOfText (loadS s) :: ·) else none) = _
    rw [if_neg hne, if_pos h0, ih, List.drop_succ_cons]
    cases rowO (r.drop k) with
    | none => rfl
    | some m => simp [rowK]
theorem rowO_stop {l : List ByteArray} {k : Nat} (hk : k < l.length) (hd : ∀ i (hi : i < l.length), i < k → dRd l[i] = true) (he : l[k] = ⟨#[]⟩) : rowO l = some (rowK l k) := by
  rw [rowO_go l k (by omega) hd, List.drop_eq_getElem_cons hk, rowO, if_pos he]
  simp
theorem rowO_bad {l : List ByteArray} {k : Nat} (hk : k < l.length) (hd : ∀ i (hi : i < l.length), i < k → dRd l[i] = true) (he : ¬ l[k] = ⟨#[]⟩) (hb : dRd l[k] = false) : rowO l = none := by
  rw [rowO_go l k (by omega) hd, List.drop_eq_getElem_cons hk, rowO, if_neg he, if_neg (by rw [hb]; simp)]
  rfl
theorem rowO_all {l : List ByteArray} (hd : ∀ i (hi : i < l.length), dRd l[i] = true) : rowO l = some (rowK l l.length) := by
  rw [rowO_go l l.length (Nat.le_refl _) (fun i hi _ => hd i hi), List.drop_length, rowO]
  simp
/-- Commands' sectors are read as they. -/
def secs (l : List CmdM) : List ByteArray := l.map fun c => dSec (cText c)
theorem secs_rd {l : List CmdM} (h : ∀ c ∈ l, cMay c = true) : ∀ i (hi : i < (secs l).length), dRd (secs l)[i] = true := fun i hi => by
  unfold secs at hi ⊢
  rw [List.getElem_map]
  exact (dec_sec (cText_back (h _ (List.getElem_mem _))).1).1
theorem secs_row {l : List CmdM} (h : ∀ c ∈ l, cMay c = true) : rowK (secs l) (secs l).length = l := by
  unfold rowK
  rw [List.take_length]
  unfold secs
  rw [List.map_map]
  have : ∀ c ∈ l, ((fun s => cOfText (loadS s)) ∘ fun c => dSec (cText c)) c = c := fun c hc => by
    have hb := cText_back (h c hc)
    show cOfText (loadS (dSec (cText c))) = c
    rw [(dec_sec hb.1).2, hb.2]
  rw [List.map_congr_left this, List.map_id']
theorem row_front {l : List CmdM} (h : ∀ c ∈ l, cMay c = true) (behind : List ByteArray) : rowO (secs l ++ ⟨#[]⟩ :: behind) = some l := by
  have hk : (secs l).length < (secs l ++ ⟨#[]⟩ :: behind).length := by simp
  rw [rowO_stop hk (fun i hi hlt => by
    rw [List.getElem_append_left hlt]
    exact secs_rd h i hlt) (by rw [List.getElem_append_right (Nat.le_refl _)]; simp)]
  congr 1
  have := secs_row h
  unfold rowK at this ⊢
  rw [List.take_append_of_le_length (Nat.le_refl _)]
  exact this
theorem row_whole {l : List CmdM} (h : ∀ c ∈ l, cMay c = true) : rowO (secs l) = some l := by rw [rowO_all (secs_rd h), secs_row h]

/-! ### Last keys -/
def lastOne (out : List Int) (b : Int) : List Int := if cKey b = true then out.set (b % 16).toNat (max (out.getD (b % 16).toNat 0) b) else out
def lastsV (l : List CmdM) : List Int := l.foldl (fun out c => lastOne out c.by_) (List.replicate 16 0)
theorem lasts_take {l : List CmdM} {k : Nat} (h : k < l.length) : lastsV (l.take (k + 1)) = lastOne (lastsV (l.take k)) l[k].by_ := by
  unfold lastsV
  rw [List.take_succ_eq_append_getElem h, List.foldl_append]
  rfl
theorem lastOne_length (out : List Int) (b : Int) : (lastOne out b).length = out.length := by
  unfold lastOne
  split <;> simp
theorem lasts_length (l : List CmdM) : (lastsV l).length = 16 := by
  unfold lastsV
  have : ∀ (l : List CmdM) (out : List Int), (l.foldl (fun out c => lastOne out c.by_) out).length = out.length := by
    intro l
    induction l with
    | nil => intro out; rfl
    | cons c l ih => intro out; rw [List.foldl_cons, ih, lastOne_length]
  rw [this]
  simp
theorem lastOne_ge (out : List Int) (b : Int) (i : Nat) : out.getD i 0 ≤ (lastOne out b).getD i 0 := by
  unfold lastOne
  split
  · rw [List.getD, List.getD, List.getElem?_set]
    split
    · rename_i e
      split
      · subst e
        rw [List.getD]
        exact Int.le_max_left _ _
      · rename_i h
        rw [List.getElem?_eq_none (by omega)]
        simp
    · exact Int.le_refl _
  · exact Int.le_refl _
theorem lasts_ge {l : List CmdM} {c : CmdM} (hc : c ∈ l) (hk : cKey c.by_ = true) : c.by_ ≤ (lastsV l).getD (c.by_ % 16).toNat 0 := by
  have key : ∀ (l : List CmdM) (out : List Int), out.length = 16 → (∀ i : Nat, out.getD i 0 ≤ (l.foldl (fun out c => lastOne out c.by_) out).getD i 0) ∧ (c ∈ l → c.by_ ≤ (l.foldl (fun out c => lastOne out c.by_) out).getD (c.by_ % 16).toNat 0) := by
    intro l
    induction l with
    | nil => intro out _; exact ⟨fun i => Int.le_refl _, fun h => by cases h⟩
    | cons d l ih =>
      intro out ho
      obtain ⟨h1, h2⟩ := ih (lastOne out d.by_) (by rw [lastOne_length]; exact ho)
      refine ⟨fun i => Int.le_trans (lastOne_ge out d.by_ i) (h1 i), fun h => ?_⟩
      rcases List.mem_cons.1 h with rfl | h
      · refine Int.le_trans ?_ (h1 _)
        have hlt : (c.by_ % 16).toNat < out.length := by
          have := Int.emod_lt_of_pos c.by_ (show (0 : Int) < 16 by decide)
          have := Int.emod_nonneg c.by_ (show (16 : Int) ≠ 0 by decide)
          omega
        unfold lastOne
        rw [if_pos hk, List.getD, List.getElem?_set_self hlt]
        exact Int.le_max_right _ _
      · exact h2 h
  exact (key l (List.replicate 16 0) (by simp)).2 hc

end Go.Proofs.YtjdacpnfgpdjhaaDoor
