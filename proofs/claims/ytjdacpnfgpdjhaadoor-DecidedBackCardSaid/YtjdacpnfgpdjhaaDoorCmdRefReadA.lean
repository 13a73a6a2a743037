/-
  The document's commands: bytes read as a command: by contract.
-/
import Derived.Test.YtjdacpnfgpdjhaaDoorCmdRefBytes
import Derived.Test.YtjdacpnfgpdjhaaDoorNumGet
namespace Go.Proofs.YtjdacpnfgpdjhaaDoor
open Go.RowKit
set_option linter.unusedVariables false
set_option linter.unusedSimpArgs false

theorem results_pair {P : Program} {fn : Func} {t u : Tmp} {ty : TypeId} (h : fn.results = #[.cell t ty, .tmp u]) {tmps : Array Value} {w : World} {b : Nat} {cs : List Value} {d : TypeDesc} {v : Value}
    (hp : tmps.getD t undef = .pointer (some ⟨b, 0, none⟩)) (hv : tmps.getD u undef = v) (hr : w.rangeAt b 0 cs) (hu : P.underlying ty = some d) (hd : d.isRow = true) (hi : (P.info? ty).map (·.size) = some cs.length) :
    (results fn tmps).run P w = .ok (.tuple #[.agg cs.toArray, v]) w := by
  have hp' : tmps[t]?.getD undef = .pointer (some ⟨b, 0, none⟩) := by simpa using hp
  have hv' : tmps[u]?.getD undef = v := by simpa using hv
  simp [results, h, hp', hv', asAddr, run_loadVar_mid w b 0 ty cs d hr hu hd hi]

/-! ### Texts that are no command -/
theorem rd_key {l : List Int} (h : cKey (dec ((l.drop 1).take 6)) = false) : cRd l = false := by
  rcases hr : cRd l with _ | _
  · rfl
  · have := (cMay_iff.1 (cRd_iff.1 hr).2).1
    have e : (cCand l).by_ = dec ((l.drop 1).take 6) := rfl
    rw [e, h] at this
    cases this
theorem rd_great {l : List Int} (hl : 7 ≤ l.length) (hb : IsBytes l) (h : fitsB ((6 : Nat) : Int) (dec ((l.drop 1).take 6)) = false) : cRd l = false := by
  refine rd_key ?_
  rcases hk : cKey (dec ((l.drop 1).take 6)) with _ | _
  · rfl
  · rw [key_fits hk] at h; cases h
theorem rd_kind {l : List Int} (h : 127 < cKindOf l) : cRd l = false := by
  rcases hr : cRd l with _ | _
  · rfl
  · have := cKind_bd (cMay_iff.1 (cRd_iff.1 hr).2).2.2
    have e : (cCand l).kind = cKindOf l := rfl
    omega
theorem rd_len {l : List Int} (h : l.length ≠ cLen (cKindOf l)) : cRd l = false := by
  rcases hr : cRd l with _ | _
  · rfl
  · exact absurd (cRd_iff.1 hr).1 h
theorem four_fits {l : List Int} (hb : IsBytes l) (hl : l.length = 4) : fitsB ((4 : Nat) : Int) (dec l) = true := by
  obtain ⟨h1, h2⟩ := dec_bd hb
  rw [hl] at h2
  exact fitsB_yes (by omega) (by omega) h1 (by simp [mostOf]; omega)

/-! ### Bytes one by one -/
theorem byte_at (s : ByteArray) (j : Nat) (h : j < s.size) : (bytesI s).getD j 0 = (s[j].toNat : Int) := by
  rw [List.getD]
  unfold bytesI
  rw [List.getElem?_map, Lib.data_getElem? s j h]
  rfl
theorem byte_rest (s : ByteArray) (j : Nat) (h : j < (s.extract 11 s.size).size) : (bytesI s).getD (11 + j) 0 = ((s.extract 11 s.size)[j].toNat : Int) := by
  rw [drop_get, ← bytesI_extract, byte_at _ _ h]
theorem byte_lt (b : UInt8) : b.toNat < 256 := b.toNat_lt
theorem cand_other {l : List Int} {k y z : Int} (h : cKindOf l = k) (h1 : dec ((l.drop 1).take 6) = y) (h2 : dec ((l.drop 7).take 4) = z) (n2 : k ≠ 2) (n3 : k ≠ 3) (n4 : k ≠ 4) (n5 : k ≠ 5) : cCand l = ⟨k, y, z, 0, 0, 0, 0, 0⟩ := by
  unfold cCand
  rw [h, h1, h2, if_neg (by omega), if_neg n4, if_neg (by omega), if_neg (by omega), if_neg n2]
theorem cand_3 {l : List Int} {y z lo hi : Int} (h : cKindOf l = 3) (h1 : dec ((l.drop 1).take 6) = y) (h2 : dec ((l.drop 7).take 4) = z) (h3 : l.getD 11 0 = lo) (h4 : l.getD 12 0 = hi) : cCand l = ⟨3, y, z, 0, 0, lo, hi, 0⟩ := by
  unfold cCand
  rw [h, h1, h2, h3, h4]
  rfl
theorem cand_2 {l : List Int} {y z lo hi m : Int} (h : cKindOf l = 2) (h1 : dec ((l.drop 1).take 6) = y) (h2 : dec ((l.drop 7).take 4) = z) (h3 : l.getD 11 0 = lo) (h4 : l.getD 12 0 = hi) (h5 : l.getD 13 0 = m) : cCand l = ⟨2, y, z, 0, 0, lo, hi, m⟩ := by
  unfold cCand
  rw [h, h1, h2, h3, h4, h5]
  rfl
theorem cand_4 {l : List Int} {y z d a : Int} (h : cKindOf l = 4) (h1 : dec ((l.drop 1).take 6) = y) (h2 : dec ((l.drop 7).take 4) = z) (h3 : dec ((l.drop 11).take 6) = d) (h4 : dec ((l.drop 17).take 6) = a) : cCand l = ⟨4, y, z, d, a, 0, 0, 0⟩ := by
  unfold cCand
  rw [h, h1, h2, h3, h4]
  rfl
theorem cand_5 {l : List Int} {y z d : Int} (h : cKindOf l = 5) (h1 : dec ((l.drop 1).take 6) = y) (h2 : dec ((l.drop 7).take 4) = z) (h3 : dec ((l.drop 11).take 6) = d) : cCand l = ⟨5, y, z, d, 0, 0, 0, 0⟩ := by
  unfold cCand
  rw [h, h1, h2, h3]
  rfl
theorem numK_at {s : List Int} {X k i : Nat} (h : i < k) : (numK s X k)[i]? = some (dec ((s.drop (i * X)).take X)) := by
  unfold numK
  rw [List.getElem?_map, List.getElem?_range h]
  rfl
/-- A mode that may be is less than 128. -/
theorem mode_and {m : Int} (h : m = 1 ∨ m = 2) : bits BinOp.and IntKind.u8 m 127 = m := by
  rcases h with rfl | rfl <;> rfl
theorem mode_wrap {x : Int} (h : x = 1 ∨ x = 2) : IntKind.i8.wrap (bits BinOp.and IntKind.u8 x 127) = x := by
  rcases h with rfl | rfl <;> rfl
theorem mode_of {l : List Int} (hr : cRd l = true) (h : cKindOf l = 2) : l.getD 13 0 = 1 ∨ l.getD 13 0 = 2 := by
  obtain ⟨_, _, hk⟩ := cMay_iff.1 (cRd_iff.1 hr).2
  have e : (cCand l).kind = 2 := h
  have em : (cCand l).mode = l.getD 13 0 := by unfold cCand; simp only; rw [if_pos h]
  rcases hk with ⟨h1 | h1, _⟩ | ⟨_, _, _, _, hm⟩ | ⟨h1, _⟩ | ⟨h1, _⟩ | ⟨h1, _⟩
  · omega
  · omega
  · rwa [em] at hm
  all_goals omega
/-- The rest of a claim's, of a purge's bytes is a row of keys, or 0. -/
theorem rest_row {l : List Int} (hb : IsBytes l) (hr : cRd l = true) (h : cKindOf l = 4 ∨ cKindOf l = 5) : rowB (l.drop 11) 6 = true := by
  obtain ⟨hlen, hm⟩ := cRd_iff.1 hr
  obtain ⟨_, _, hk⟩ := cMay_iff.1 hm
  have f0 : fitsB ((6 : Nat) : Int) 0 = true := fitsB_yes (by omega) (by omega) (by omega) (by simp [mostOf])
  rcases h with h | h
  · rw [h] at hlen
    have h23 : l.length = 23 := hlen
    have e : (cCand l).kind = 4 := h
    have hd : cKey (dec ((l.drop 11).take 6)) = true ∧ (dec ((l.drop 17).take 6) = 0 ∨ cKey (dec ((l.drop 17).take 6)) = true) := by
      have ed : (cCand l).dead = dec ((l.drop 11).take 6) := by unfold cCand; simp only; rw [if_pos (.inl h)]
      have ea : (cCand l).was = dec ((l.drop 17).take 6) := by unfold cCand; simp only; rw [if_pos h]
      rcases hk with ⟨h1 | h1, _⟩ | ⟨h1, _⟩ | ⟨h1, _⟩ | ⟨_, h2, h3, _⟩ | ⟨h1, _⟩
      · omega
      · omega
      · omega
      · omega
      · rw [ed] at h2; rw [ea] at h3; exact ⟨h2, h3⟩
      · omega
    have hn : (l.drop 11).length = 12 := by rw [List.length_drop]; omega
    unfold rowB
    rw [hn]
    have e2 : numK (l.drop 11) 6 2 = [dec ((l.drop 11).take 6), dec ((l.drop 17).take 6)] := by
      rw [numK_succ, numK_succ, numK_zero]
      simp [List.drop_drop]
    show (decide (12 % 6 = 0) && (numK (l.drop 11) 6 2).all (fitsB 6)) = true
    rw [e2]
    have k1 := key_fits hd.1
    have k2 : fitsB ((6 : Nat) : Int) (dec ((l.drop 17).take 6)) = true := by
      rcases hd.2 with h5 | h5
      · rw [h5]; exact f0
      · exact key_fits h5
    show (true && ((fitsB ((6 : Nat) : Int) _) && ((fitsB ((6 : Nat) : Int) _) && true))) = true
    rw [k1, k2]
    rfl
  · rw [h] at hlen
    have h17 : l.length = 17 := hlen
    have e : (cCand l).kind = 5 := h
    have hd : cKey (dec ((l.drop 11).take 6)) = true := by
      have ed : (cCand l).dead = dec ((l.drop 11).take 6) := by unfold cCand; simp only; rw [if_pos (.inr h)]
      rcases hk with ⟨h1 | h1, _⟩ | ⟨h1, _⟩ | ⟨h1, _⟩ | ⟨h1, _⟩ | ⟨_, h2, _⟩
      · omega
      · omega
      · omega
      · omega
      · omega
      · rw [ed] at h2; exact h2
    have hn : (l.drop 11).length = 6 := by rw [List.length_drop]; omega
    unfold rowB
    rw [hn]
    have e2 : numK (l.drop 11) 6 1 = [dec ((l.drop 11).take 6)] := by
      rw [numK_succ, numK_zero]
      simp
    show (decide (6 % 6 = 0) && (numK (l.drop 11) 6 1).all (fitsB 6)) = true
    rw [e2]
    have k1 := key_fits hd
    show (true && ((fitsB ((6 : Nat) : Int) _) && true)) = true
    rw [k1]
    rfl

end Go.Proofs.YtjdacpnfgpdjhaaDoor
