/-
  The whole answers of Bytes and Read.
-/
import Derived.Test.YtjdacpnfgpdjhaaDoorCmdAt
import Derived.Test.YtjdacpnfgpdjhaaDoorJoinSealTurn
namespace Go.Proofs.YtjdacpnfgpdjhaaDoor
open Go.RowKit
set_option linter.unusedVariables false
set_option linter.unusedSimpArgs false

/-- A command's bytes, or none; the error. -/
def cmS (c : CmdM) : ByteArray := if cMay c = true then strOfNums (cEnc c) else ⟨#[]⟩
def cmE (c : CmdM) : Int := if cMay c = true then 0 else 2
theorem cm_yes {c : CmdM} (h : cMay c = true) : cmS c = strOfNums (cEnc c) ∧ cmE c = 0 := ⟨if_pos h, if_pos h⟩
theorem cm_no {c : CmdM} (h : cMay c = false) : cmS c = ⟨#[]⟩ ∧ cmE c = 2 := ⟨if_neg (by rw [h]; simp), if_neg (by rw [h]; simp)⟩
theorem cm_bytes {c : CmdM} (h : cMay c = true) : bytesI (cmS c) = cEnc c := by rw [(cm_yes h).1, bytesI_strOfNums (cEnc_bytes h)]
theorem cm_size {c : CmdM} (h : cMay c = true) : (cmS c).size = cLen c.kind := by rw [← bytesI_length, cm_bytes h, cEnc_length]
/-- What a text is read as, or nothing; the error. -/
def crC (s : ByteArray) : CmdM := if cRd (bytesI s) = true then cCand (bytesI s) else zeroC
def crE (s : ByteArray) : Int := if cRd (bytesI s) = true then 0 else 100
theorem cr_yes {s : ByteArray} (h : cRd (bytesI s) = true) : crC s = cCand (bytesI s) ∧ crE s = 0 := ⟨if_pos h, if_pos h⟩
theorem cr_no {s : ByteArray} (h : cRd (bytesI s) = false) : crC s = zeroC ∧ crE s = 100 := ⟨if_neg (by rw [h]; simp), if_neg (by rw [h]; simp)⟩
/-- What was written is read as it. -/
theorem cr_cm {c : CmdM} (h : cMay c = true) : crC (cmS c) = c ∧ crE (cmS c) = 0 := by
  obtain ⟨h1, h2⟩ := cand_enc h
  rw [← cm_bytes h] at h1 h2
  obtain ⟨h3, h4⟩ := cr_yes h2
  exact ⟨h3.trans h1, h4⟩
/-- What was read has these bytes. -/
theorem cm_cr {s : ByteArray} (h : cRd (bytesI s) = true) : cMay (crC s) = true ∧ cmS (crC s) = s ∧ cmE (crC s) = 0 := by
  obtain ⟨h3, h4⟩ := cr_yes h
  have h5 := (cRd_iff.1 h).2
  have h6 := enc_cand (bytesI_bytes s) h
  rw [h3]
  exact ⟨h5, by rw [(cm_yes h5).1, h6, strOfNums_bytesI], (cm_yes h5).2⟩
theorem cm_inj {c d : CmdM} (hc : cMay c = true) (hd : cMay d = true) (h : cmS c = cmS d) : c = d := cEnc_inj hc hd (by rw [← cm_bytes hc, ← cm_bytes hd, h])
/-- What comes of a candidate: the text's own command just where its bytes are the text. -/
theorem cr_of {s : ByteArray} {d : CmdM} (hm : cMay d = true) (he : cmS d = s) : cRd (bytesI s) = true ∧ crC s = d ∧ crE s = 0 := by
  subst he
  obtain ⟨h1, h2⟩ := cr_cm hm
  have h3 := (cand_enc hm).2
  rw [← cm_bytes hm] at h3
  exact ⟨h3, h1, h2⟩
/-- A candidate that the text's command would have to be, and whose bytes are not the text: none. -/
theorem cr_off {s : ByteArray} {d : CmdM} (hd : cRd (bytesI s) = true → cCand (bytesI s) = d) (h : cMay d = false ∨ cmS d ≠ s) : cRd (bytesI s) = false := by
  rcases hr : cRd (bytesI s) with _ | _
  · rfl
  · exfalso
    obtain ⟨h1, h2, _⟩ := cm_cr hr
    rw [(cr_yes hr).1, hd hr] at h1 h2
    rcases h with h | h
    · rw [h] at h1; cases h1
    · exact h h2

end Go.Proofs.YtjdacpnfgpdjhaaDoor
