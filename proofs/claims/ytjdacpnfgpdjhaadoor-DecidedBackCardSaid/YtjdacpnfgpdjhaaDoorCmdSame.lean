/-
  What the program takes of a text is what the document reads of it: over plain values.
-/
import Derived.Test.YtjdacpnfgpdjhaaDoorCmdTake
import Derived.Test.YtjdacpnfgpdjhaaDoorCmdRefBytes
namespace Go.Proofs.YtjdacpnfgpdjhaaDoor
open Go.RowKit
set_option linter.unusedVariables false
set_option linter.unusedSimpArgs false

set_option maxRecDepth 100000 in
theorem wrap8_cases (x : Int) (h0 : 0 ≤ x) (h1 : x < 256) : (x ≤ 127 ∧ IntKind.i8.wrap x = x) ∨ IntKind.i8.wrap x < 0 := by
  have h : ∀ n : Fin 256, (((n.val : Nat) : Int) ≤ 127 ∧ IntKind.i8.wrap ((n.val : Nat) : Int) = ((n.val : Nat) : Int)) ∨ IntKind.i8.wrap ((n.val : Nat) : Int) < 0 := by decide
  obtain ⟨n, rfl⟩ := Int.eq_ofNat_of_zero_le h0
  exact h ⟨n, by omega⟩
theorem getErr_zero {l : List Int} {p X : Nat} (h : badV l p X = false) : p + X ≤ l.length ∧ gv l p X = dec ((l.drop p).take X) := by
  have h : getErr l p X = 0 := by
    unfold badV at h
    simpa using h
  unfold getErr at h
  split at h
  · omega
  · rename_i hm
    have hm : mayB (X : Int) = true := by simpa using hm
    split at h
    · rename_i h2
      obtain ⟨h3, h4, h5⟩ := h2
      refine ⟨by omega, ?_⟩
      unfold gv getVal
      rw [if_pos ⟨hm, h3, h4, h5⟩]
      rfl
    · omega
theorem bad_no {l : List Int} {p X : Nat} (h1 : 1 ≤ X) (h6 : X ≤ 6) (hl : p + X ≤ l.length) (hf : fitsB X (dec ((l.drop p).take X)) = true) : badV l p X = false := by
  have hm : mayB (X : Int) = true := mayB_yes (by omega) (by omega)
  unfold badV getErr
  rw [if_neg (by rw [hm]; simp), if_pos ⟨by omega, by omega, hf⟩]
  rfl
theorem dec_one {l : List Int} {p : Nat} (h : p + 1 ≤ l.length) : dec ((l.drop p).take 1) = l.getD p 0 := by
  rw [List.getD_eq_getElem?_getD]
  have h2 : p < l.length := by omega
  have e : (l.drop p).take 1 = [l[p]] := by rw [List.drop_eq_getElem_cons h2]; rfl
  rw [e, List.getElem?_eq_getElem h2]
  simp [dec]
theorem byte_bd {l : List Int} (hl : IsBytes l) (p : Nat) : 0 ≤ l.getD p 0 ∧ l.getD p 0 < 256 := by
  rw [List.getD_eq_getElem?_getD]
  rcases h : l[p]? with _ | x
  · simp
  · have := hl x (List.mem_of_getElem? h)
    simpa using this
theorem bad_one {l : List Int} (hl : IsBytes l) {p : Nat} (h : p + 1 ≤ l.length) : badV l p 1 = false := by
  refine bad_no (by omega) (by omega) h ?_
  rw [dec_one h]
  have := byte_bd hl p
  generalize l.getD p 0 = x at *
  exact fitsB_yes (by omega) (by omega) this.1 (by simp [mostOf]; omega)

theorem was_fits0 {a : Int} (h : a = 0 ∨ cKey a = true) : fitsB ((6 : Nat) : Int) a = true := by
  rcases h with rfl | h
  · exact fitsB_yes (by omega) (by omega) (by omega) (by simp [mostOf])
  · exact key_fits h
/-- Where the kinds are the same, and nothing is bad: the same command. -/
theorem tkC_same {l : List Int} (hK : tkK l = cKindOf l) (hb : tkB l = false) (h5 : 0 ≤ cKindOf l ∧ cKindOf l ≤ 5) (hm : cKindOf l = 2 → IntKind.i8.wrap (gv l 13 1) = gv l 13 1) : tkC l = cCand l := by
  unfold tkB at hb
  simp only [Bool.or_eq_false_iff] at hb
  obtain ⟨⟨⟨⟨⟨⟨b0, b1⟩, b2⟩, b3⟩, b4⟩, b5⟩, b6⟩ := hb
  have e1 := (getErr_zero b1).2
  have e2 := (getErr_zero b2).2
  rw [hK] at b3 b4 b5 b6
  have hc : cKindOf l = 0 ∨ cKindOf l = 1 ∨ cKindOf l = 2 ∨ cKindOf l = 3 ∨ cKindOf l = 4 ∨ cKindOf l = 5 := by omega
  have m2 := hm
  unfold tkC cCand
  rw [hK, e1, e2]
  have one : ∀ p, badV l p 1 = false → gv l p 1 = l.getD p 0 := fun p h => by
    obtain ⟨h1, h2⟩ := getErr_zero h
    rw [h2, dec_one h1]
  rcases hc with hc | hc | hc | hc | hc | hc
  · rw [hc]; rfl
  · rw [hc]; rfl
  · rw [hc] at b3 b4 ⊢
    simp [hasSpanB, hasModeB] at b3 b4
    have m2 := m2 hc
    rw [one 13 b4] at m2
    simp [hasSpanB, hasModeB, hasDeadB, hasWasB, one 11 b3.1, one 12 b3.2, one 13 b4]
    simpa using m2
  · rw [hc] at b3 ⊢
    simp [hasSpanB] at b3
    simp [hasSpanB, hasModeB, hasDeadB, hasWasB, one 11 b3.1, one 12 b3.2]
  · rw [hc] at b5 b6 ⊢
    simp [hasDeadB, hasWasB] at b5 b6
    have f1 := (getErr_zero b5).2
    have f2 := (getErr_zero b6).2
    simp [hasSpanB, hasModeB, hasDeadB, hasWasB, f1, f2]
  · rw [hc] at b5 ⊢
    simp [hasDeadB] at b5
    have f1 := (getErr_zero b5).2
    simp [hasSpanB, hasModeB, hasDeadB, hasWasB, f1]

/-- What is taken whole is what is read. -/
theorem tk_rd {l : List Int} (hl : IsBytes l) : (!tkB l && (decide (cLen (tkK l) = l.length) && cMay (tkC l))) = cRd l ∧ (cRd l = true → tkC l = cCand l) := by
  have fwd : (!tkB l && (decide (cLen (tkK l) = l.length) && cMay (tkC l))) = true → cRd l = true ∧ tkC l = cCand l := by
    intro h
    simp only [Bool.and_eq_true, Bool.not_eq_true', decide_eq_true_eq] at h
    obtain ⟨hb, hn, hm⟩ := h
    have b0 : badV l 0 1 = false := by
      unfold tkB at hb
      simp only [Bool.or_eq_false_iff] at hb
      exact hb.1.1.1.1.1.1
    obtain ⟨z1, z2⟩ := getErr_zero b0
    rw [dec_one z1] at z2
    have hkm : (tkC l).kind = tkK l := rfl
    have hk := cMay_iff.1 hm
    have h5 := cKind_bd hk.2.2
    rw [hkm] at h5
    have hbd := byte_bd hl 0
    have hKe : tkK l = IntKind.i8.wrap (l.getD 0 0) := by unfold tkK; rw [z2]
    have hK : tkK l = cKindOf l := by
      rcases wrap8_cases _ hbd.1 hbd.2 with ⟨_, h⟩ | h
      · rw [hKe, h]; rfl
      · omega
    have hM : cKindOf l = 2 → IntKind.i8.wrap (gv l 13 1) = gv l 13 1 := by
      intro h2
      have hK2 : tkK l = 2 := hK.trans h2
      have hmo : (tkC l).mode = IntKind.i8.wrap (gv l 13 1) := by
        show (if hasModeB (tkK l) = true then _ else _) = _
        rw [hK2]; rfl
      have b4 : badV l 13 1 = false := by
        unfold tkB at hb
        simp only [Bool.or_eq_false_iff] at hb
        have := hb.1.1.2
        rw [hK2] at this
        simpa [hasModeB] using this
      obtain ⟨y1, y2⟩ := getErr_zero b4
      rw [dec_one y1] at y2
      have hbd := byte_bd hl 13
      rw [y2] at hmo ⊢
      rcases wrap8_cases _ hbd.1 hbd.2 with ⟨_, h⟩ | h
      · exact h
      · exfalso
        rcases hk.2.2 with ⟨q, _⟩ | ⟨_, _, _, _, q⟩ | ⟨q, _⟩ | ⟨q, _⟩ | ⟨q, _⟩
        · rw [hkm, hK2] at q; omega
        · rw [hmo] at q; omega
        · rw [hkm, hK2] at q; omega
        · rw [hkm, hK2] at q; omega
        · rw [hkm, hK2] at q; omega
    have e := tkC_same hK hb (by rw [← hK]; exact h5) hM
    exact ⟨cRd_iff.2 ⟨by rw [← hK]; exact hn.symm, by rw [← e]; exact hm⟩, e⟩
  have bwd : cRd l = true → (!tkB l && (decide (cLen (tkK l) = l.length) && cMay (tkC l))) = true := by
    intro h
    obtain ⟨hn, hm⟩ := cRd_iff.1 h
    have hk := cMay_iff.1 hm
    have h5 := cKind_bd hk.2.2
    have hkk : (cCand l).kind = cKindOf l := rfl
    rw [hkk] at h5
    have hL := cLen_bd (cKindOf l)
    have b0 := bad_one hl (p := 0) (by omega)
    obtain ⟨z1, z2⟩ := getErr_zero b0
    rw [dec_one z1] at z2
    have hbd := byte_bd hl 0
    have hK : tkK l = cKindOf l := by
      have hKe : tkK l = IntKind.i8.wrap (l.getD 0 0) := by unfold tkK; rw [z2]
      have h6 : l.getD 0 0 ≤ 5 := h5.2
      rcases wrap8_cases _ hbd.1 hbd.2 with ⟨_, h⟩ | h
      · rw [hKe, h]; rfl
      · exfalso
        have : IntKind.i8.wrap (l.getD 0 0) = l.getD 0 0 := by
          obtain h7 | h7 | h7 | h7 | h7 | h7 : l.getD 0 0 = 0 ∨ l.getD 0 0 = 1 ∨ l.getD 0 0 = 2 ∨ l.getD 0 0 = 3 ∨ l.getD 0 0 = 4 ∨ l.getD 0 0 = 5 := by omega
          all_goals rw [h7]; decide
        omega
    have b1 : badV l 1 6 = false := bad_no (by omega) (by omega) (by omega) (key_fits hk.1)
    have b2 : badV l 7 4 = false := bad_no (by omega) (by omega) (by omega) (serial_fits hk.2.1)
    have hc : cKindOf l = 0 ∨ cKindOf l = 1 ∨ cKindOf l = 2 ∨ cKindOf l = 3 ∨ cKindOf l = 4 ∨ cKindOf l = 5 := by omega
    have hb : tkB l = false := by
      unfold tkB
      rw [b0, b1, b2, hK]
      rcases hc with hc | hc | hc | hc | hc | hc
      · rw [hc]; rfl
      · rw [hc]; rfl
      · rw [hc] at hn ⊢
        have hn : l.length = 14 := hn
        rw [bad_one hl (p := 11) (by omega), bad_one hl (p := 12) (by omega), bad_one hl (p := 13) (by omega)]
        rfl
      · rw [hc] at hn ⊢
        have hn : l.length = 13 := hn
        rw [bad_one hl (p := 11) (by omega), bad_one hl (p := 12) (by omega)]
        rfl
      · rw [hc] at hn ⊢
        have hn : l.length = 23 := hn
        have hd : (cCand l).dead = dec ((l.drop 11).take 6) := by show (if _ then _ else _) = _; rw [hc]; rfl
        have ha : (cCand l).was = dec ((l.drop 17).take 6) := by show (if _ then _ else _) = _; rw [hc]; rfl
        rcases hk.2.2 with ⟨q, _⟩ | ⟨q, _⟩ | ⟨q, _⟩ | ⟨_, q1, q2, _⟩ | ⟨q, _⟩
        · rw [hkk, hc] at q; omega
        · rw [hkk, hc] at q; omega
        · rw [hkk, hc] at q; omega
        · rw [hd] at q1
          rw [ha] at q2
          rw [bad_no (by omega) (by omega) (by omega) (key_fits q1), bad_no (by omega) (by omega) (by omega) (was_fits0 q2)]
          rfl
        · rw [hkk, hc] at q; omega
      · rw [hc] at hn ⊢
        have hn : l.length = 17 := hn
        have hd : (cCand l).dead = dec ((l.drop 11).take 6) := by show (if _ then _ else _) = _; rw [hc]; rfl
        rcases hk.2.2 with ⟨q, _⟩ | ⟨q, _⟩ | ⟨q, _⟩ | ⟨q, _⟩ | ⟨_, q1, _⟩
        · rw [hkk, hc] at q; omega
        · rw [hkk, hc] at q; omega
        · rw [hkk, hc] at q; omega
        · rw [hkk, hc] at q; omega
        · rw [hd] at q1
          rw [bad_no (by omega) (by omega) (by omega) (key_fits q1)]
          rfl
    have hM : cKindOf l = 2 → IntKind.i8.wrap (gv l 13 1) = gv l 13 1 := by
      intro h2
      have b4 := bad_one hl (p := 13) (by rw [hn, h2]; decide)
      obtain ⟨y1, y2⟩ := getErr_zero b4
      rw [dec_one y1] at y2
      have hmo : (cCand l).mode = l.getD 13 0 := by show (if _ then _ else _) = _; rw [h2]; rfl
      rw [y2]
      rcases hk.2.2 with ⟨q, _⟩ | ⟨_, _, _, _, q⟩ | ⟨q, _⟩ | ⟨q, _⟩ | ⟨q, _⟩
      · rw [hkk, h2] at q; omega
      · rw [hmo] at q
        rcases q with q | q <;> rw [q] <;> decide
      · rw [hkk, h2] at q; omega
      · rw [hkk, h2] at q; omega
      · rw [hkk, h2] at q; omega
    have e := tkC_same hK hb h5 hM
    rw [hb, e, hm, hK]
    simp [hn]
  refine ⟨Bool.eq_iff_iff.2 ⟨fun h => (fwd h).1, bwd⟩, fun h => (fwd (bwd h)).2⟩

end Go.Proofs.YtjdacpnfgpdjhaaDoor
