/-
  Sealed sectors as rows of bytes: what is sealed, what is a sealed sector; what the test of a sector's parts says; harm. It speaks of no program.
-/
import Derived.Test.YtjdacpnfgpdjhaaDoorText
namespace Go.Proofs.YtjdacpnfgpdjhaaDoor
open Go.RowKit
set_option linter.unusedVariables false
set_option linter.unusedSimpArgs false

/-- What stands ahead of the sum. -/
def headI (k : Int) (l : List Int) : List Int := k :: (enc 2 l.length ++ l)
/-- The sealed sector of a kind and a load. -/
def sealI (k : Int) (l : List Int) : List Int := headI k l ++ enc 4 (sumI (headI k l) : Nat)
theorem headI_length (k : Int) (l : List Int) : (headI k l).length = l.length + 3 := by simp [headI, enc_length]; omega
theorem sealI_length (k : Int) (l : List Int) : (sealI k l).length = l.length + 7 := by simp [sealI, headI_length, enc_length]
theorem headI_bytes {k : Int} {l : List Int} (h0 : 0 ≤ k) (h1 : k < 256) (hl : IsBytes l) : IsBytes (headI k l) := by
  intro b hb
  rcases List.mem_cons.1 hb with rfl | hb
  · exact ⟨h0, h1⟩
  · exact isBytes_append (enc_bytes _ _) hl b hb
theorem sealI_bytes {k : Int} {l : List Int} (h0 : 0 ≤ k) (h1 : k < 256) (hl : IsBytes l) : IsBytes (sealI k l) := isBytes_append (headI_bytes h0 h1 hl) (enc_bytes _ _)

/-- A sector's parts. -/
def kindI (l : List Int) : Int := dec (l.take 1)
def loadI (l : List Int) : List Int := (l.drop 3).take (l.length - 7)
def countI (l : List Int) : Int := dec ((l.drop 1).take 2)
def lastI (l : List Int) : Int := dec ((l.drop (l.length - 4)).take 4)
/-- Is this a sealed sector? -/
def isI (l : List Int) : Bool := decide (7 ≤ l.length ∧ l.length ≤ 512 ∧ 1 ≤ kindI l ∧ kindI l ≤ 127 ∧ sealI (kindI l) (loadI l) = l)

theorem take_one {l : List Int} (h : 1 ≤ l.length) : l.take 1 = [kindI l] := by
  cases l with
  | nil => simp at h
  | cons a l => simp [kindI, dec]
theorem kind_bd {l : List Int} (hl : IsBytes l) (h : 1 ≤ l.length) : 0 ≤ kindI l ∧ kindI l < 256 := by
  have := dec_bd (isBytes_take hl 1)
  rw [List.length_take, Nat.min_eq_left h] at this
  exact this
theorem count_bd {l : List Int} (hl : IsBytes l) (h : 3 ≤ l.length) : 0 ≤ countI l ∧ countI l < 65536 := by
  have := dec_bd (isBytes_take (isBytes_drop hl 1) 2)
  rw [List.length_take, List.length_drop, Nat.min_eq_left (by omega)] at this
  exact this
theorem last_bd {l : List Int} (hl : IsBytes l) (h : 4 ≤ l.length) : 0 ≤ lastI l ∧ lastI l < 4294967296 := by
  have := dec_bd (isBytes_take (isBytes_drop hl (l.length - 4)) 4)
  rw [List.length_take, List.length_drop, Nat.min_eq_left (by omega)] at this
  exact this
theorem load_length {l : List Int} (h : 7 ≤ l.length) : (loadI l).length = l.length - 7 := by
  simp only [loadI, List.length_take, List.length_drop]; omega
theorem load_bytes {l : List Int} (hl : IsBytes l) : IsBytes (loadI l) := isBytes_take (isBytes_drop hl 3) _

/-- A row of seven or more is its parts. -/
theorem parts {l : List Int} (h : 7 ≤ l.length) : l.take (l.length - 4) = kindI l :: ((l.drop 1).take 2 ++ loadI l) := by
  have e1 : l.take (l.length - 4) = l.take 1 ++ (l.drop 1).take (l.length - 5) := by
    have : l.length - 4 = 1 + (l.length - 5) := by omega
    rw [this, List.take_add]
  have e2 : (l.drop 1).take (l.length - 5) = (l.drop 1).take 2 ++ ((l.drop 1).drop 2).take (l.length - 7) := by
    have : l.length - 5 = 2 + (l.length - 7) := by omega
    rw [this, List.take_add]
  rw [e1, e2, List.drop_drop, take_one (by omega)]
  rfl
theorem last_enc {l : List Int} (hl : IsBytes l) (h : 4 ≤ l.length) : enc 4 (lastI l) = l.drop (l.length - 4) := by
  have hlen : (l.drop (l.length - 4)).length = 4 := by rw [List.length_drop]; omega
  have := enc_dec (isBytes_drop hl (l.length - 4))
  rw [hlen] at this
  unfold lastI
  rw [List.take_of_length_le (by omega)]
  exact this
theorem count_enc {l : List Int} (hl : IsBytes l) (h : 3 ≤ l.length) : enc 2 (countI l) = (l.drop 1).take 2 := by
  have hlen : ((l.drop 1).take 2).length = 2 := by rw [List.length_take, List.length_drop]; omega
  have := enc_dec (isBytes_take (isBytes_drop hl 1) 2)
  rw [hlen] at this
  exact this
theorem seal_drop (k : Int) (l : List Int) : (sealI k l).drop (l.length + 3) = enc 4 (sumI (headI k l) : Nat) := by
  unfold sealI
  rw [List.drop_left' (headI_length k l)]
theorem seal_take (k : Int) (l : List Int) : (sealI k l).take (l.length + 3) = headI k l := by
  unfold sealI
  rw [List.take_left' (headI_length k l)]

/-- What the test of a sector's parts says. -/
theorem isI_iff {l : List Int} (hl : IsBytes l) (h7 : 7 ≤ l.length) (h5 : l.length ≤ 512) :
    isI l = true ↔ 1 ≤ kindI l ∧ kindI l ≤ 127 ∧ countI l = ((l.length - 7 : Nat) : Int) ∧ lastI l = (sumI (l.take (l.length - 4)) : Nat) := by
  have hll := load_length h7
  have hparts := parts h7
  have hhead : headI (kindI l) (loadI l) = kindI l :: (enc 2 ((l.length - 7 : Nat) : Int) ++ loadI l) := by unfold headI; rw [hll]
  have hsplit : l.take (l.length - 4) ++ l.drop (l.length - 4) = l := List.take_append_drop _ _
  unfold isI
  rw [decide_eq_true_iff]
  constructor
  · rintro ⟨_, _, h1, h2, hs⟩
    have e3 : (loadI l).length + 3 = l.length - 4 := by omega
    have t1 := seal_take (kindI l) (loadI l)
    have t2 := seal_drop (kindI l) (loadI l)
    rw [hs, e3] at t1 t2
    refine ⟨h1, h2, ?_, ?_⟩
    · have e4 : (l.take (l.length - 4)).drop 1 = (headI (kindI l) (loadI l)).drop 1 := by rw [t1]
      rw [hparts, hhead] at e4
      simp only [List.drop_succ_cons, List.drop_zero] at e4
      have e5 := List.append_inj_left e4 (by rw [List.length_take, List.length_drop, enc_length]; omega)
      unfold countI
      rw [e5]
      exact dec_enc 2 _ (by omega) (show ((l.length - 7 : Nat) : Int) < 65536 by omega)
    · rw [t1]
      unfold lastI
      rw [t2, List.take_of_length_le (by rw [enc_length]; omega)]
      have := sumI_lt (headI_bytes (kind_bd hl (by omega)).1 (kind_bd hl (by omega)).2 (load_bytes hl))
      exact dec_enc 4 _ (by omega) (show ((sumI _ : Nat) : Int) < 4294967296 by omega)
  · rintro ⟨h1, h2, h3, h4⟩
    refine ⟨h7, h5, h1, h2, ?_⟩
    have eh : headI (kindI l) (loadI l) = l.take (l.length - 4) := by
      rw [hparts, hhead, ← h3, count_enc hl (by omega)]
    unfold sealI
    rw [eh, ← h4, last_enc hl (by omega)]
    exact hsplit
theorem isI_parts {l : List Int} (h : isI l = true) : 7 ≤ l.length ∧ l.length ≤ 512 ∧ 1 ≤ kindI l ∧ kindI l ≤ 127 ∧ sealI (kindI l) (loadI l) = l := of_decide_eq_true h
theorem isI_no {l : List Int} (h : ¬ (7 ≤ l.length ∧ l.length ≤ 512)) : isI l = false := decide_eq_false (fun k => h ⟨k.1, k.2.1⟩)

/-- What was sealed is a sector, of that kind, with that load. -/
theorem kind_seal (k : Int) (l : List Int) : kindI (sealI k l) = k := by simp [kindI, sealI, headI, dec]
theorem load_seal (k : Int) (l : List Int) : loadI (sealI k l) = l := by
  unfold loadI
  rw [sealI_length]
  have e : (sealI k l).drop 3 = l ++ enc 4 (sumI (headI k l) : Nat) := by
    have e2 : (enc 2 (l.length : Int)).length = 2 := enc_length _ _
    show ((enc 2 (l.length : Int) ++ l) ++ enc 4 (sumI (headI k l) : Nat)).drop 2 = _
    rw [List.append_assoc, List.drop_left' e2]
  rw [e, List.take_left' (by omega)]
theorem isI_seal {k : Int} {l : List Int} (h1 : 1 ≤ k) (h2 : k ≤ 127) (h3 : l.length ≤ 505) : isI (sealI k l) = true := by
  unfold isI
  rw [decide_eq_true_iff, kind_seal, load_seal, sealI_length]
  exact ⟨by omega, by omega, h1, h2, rfl⟩

/-- Longer or shorter is none. -/
theorem isI_count {l : List Int} (hl : IsBytes l) (h : isI l = true) : countI l = ((l.length - 7 : Nat) : Int) := by
  obtain ⟨h7, h5, _⟩ := isI_parts h
  exact ((isI_iff hl h7 h5).1 h).2.2.1
theorem count_seal {k : Int} {l m : List Int} (h3 : l.length ≤ 505) : countI (headI k l ++ m) = (l.length : Int) := by
  unfold countI headI
  simp only [List.cons_append, List.drop_succ_cons, List.drop_zero, List.append_assoc]
  rw [List.take_left' (enc_length 2 _)]
  exact dec_enc 2 _ (by omega) (show (l.length : Int) < 65536 by omega)
theorem not_longer {k : Int} {l m : List Int} (h3 : l.length ≤ 505) (hb : IsBytes (sealI k l ++ m)) (hm : m ≠ []) : isI (sealI k l ++ m) = false := by
  rcases hh : isI (sealI k l ++ m) with _ | _
  · rfl
  · exfalso
    have h := isI_count hb hh
    have e : sealI k l ++ m = headI k l ++ (enc 4 (sumI (headI k l) : Nat) ++ m) := by unfold sealI; rw [List.append_assoc]
    rw [e, count_seal h3, ← e, List.length_append, sealI_length] at h
    have : 0 < m.length := List.length_pos_iff.2 hm
    omega
theorem not_shorter {k : Int} {l : List Int} {i : Nat} (h3 : l.length ≤ 505) (hb : IsBytes (sealI k l)) (hi : i < l.length + 7) : isI ((sealI k l).take i) = false := by
  rcases hh : isI ((sealI k l).take i) with _ | _
  · rfl
  · exfalso
    have h7 := (isI_parts hh).1
    have h := isI_count (isBytes_take hb i) hh
    rw [List.length_take, sealI_length, Nat.min_eq_left (by omega)] at h7 h
    have e : countI ((sealI k l).take i) = countI (sealI k l) := by
      unfold countI
      rw [List.drop_take, List.take_take, Nat.min_eq_left (by omega)]
    have e2 : sealI k l = headI k l ++ enc 4 (sumI (headI k l) : Nat) := rfl
    rw [e, e2, count_seal h3] at h
    omega

end Go.Proofs.YtjdacpnfgpdjhaaDoor
