/-
  Who is alive, over plain values: lease sectors, what is seen of one, leases, watches. It speaks of no program's function.
-/
import Derived.Test.YtneioippiionjaaDoorSealAgain
namespace Go.Proofs.YtneioippiionjaaDoor
open Go.RowKit
set_option linter.unusedVariables false
set_option linter.unusedSimpArgs false

/-- The widths of a lease sector's numbers; the sector. -/
def beatW : List Int := [6, 6]
def beatMay (k c : Int) : Bool := decide (1 ≤ k ∧ 1 ≤ c ∧ k ≤ 1099511627776 ∧ c ≤ 1099511627776)
def beatS (k c : Int) : ByteArray := sealS 3 (makeS ⟨#[]⟩ beatW [k, c])
def beatV (k c : Int) : ByteArray := if beatMay k c = true then beatS k c else ⟨#[]⟩
def beatE (k c : Int) : Int := if beatMay k c = true then 0 else 2

theorem beat_ok {k c : Int} (h : beatMay k c = true) : makeB 3 ⟨#[]⟩ beatW [k, c] = true := by
  obtain ⟨h1, h2, h3, h4⟩ := of_decide_eq_true h
  have w6 : mostOf 6 = 1099511627776 := rfl
  have hz : okZ (beatW.zip [k, c]) = true := by
    simp only [beatW, List.zip_cons_cons, List.zip_nil_right, okZ, List.all_cons, List.all_nil, Bool.and_true, Bool.and_eq_true]
    exact ⟨fitsB_yes (by omega) (by omega) (by omega) (by omega), fitsB_yes (by omega) (by omega) (by omega) (by omega)⟩
  refine makeB_iff.2 ⟨rfl, hz, mayS_yes (by omega) ?_⟩
  have h6 := (encZ_le hz).2
  have hl : (beatW.zip [k, c]).length = 2 := rfl
  have h0 : (⟨#[]⟩ : ByteArray).size = 0 := rfl
  rw [makeS_size]
  omega
theorem beat_bad {k c : Int} (h1 : 1 ≤ k) (h2 : 1 ≤ c) (h : beatMay k c = false) : makeB 3 ⟨#[]⟩ beatW [k, c] = false := by
  have w6 : mostOf 6 = 1099511627776 := rfl
  have hn : ¬ (1 ≤ k ∧ 1 ≤ c ∧ k ≤ 1099511627776 ∧ c ≤ 1099511627776) := of_decide_eq_false h
  apply makeB_bad
  simp only [beatW, List.zip_cons_cons, List.zip_nil_right, okZ, List.all_cons, List.all_nil, Bool.and_true]
  rcases hf : (fitsB 6 k && fitsB 6 c) with _ | _
  · rfl
  · rw [Bool.and_eq_true] at hf
    have g1 := of_fitsB hf.1
    have g2 := of_fitsB hf.2
    omega
/-- What the program makes of numbers from 1 on. -/
theorem beat_make {k c : Int} (h1 : 1 ≤ k) (h2 : 1 ≤ c) : makeOut 3 ⟨#[]⟩ beatW [k, c] = .returned (.tuple #[.string (beatV k c), .int .i64 (beatE k c)]) := by
  rcases h : beatMay k c with _ | _
  · rw [makeOut_no (beat_bad h1 h2 h)]
    simp [beatV, beatE, h]
  · rw [makeOut_yes (beat_ok h)]
    simp [beatV, beatE, h, beatS]
theorem beat_no {k c : Int} (h : ¬ (1 ≤ k ∧ 1 ≤ c)) : beatV k c = ⟨#[]⟩ ∧ beatE k c = 2 := by
  have hm : beatMay k c = false := decide_eq_false (by omega)
  simp [beatV, beatE, hm]
theorem beat_yes {k c : Int} (h : beatMay k c = true) : beatV k c = beatS k c ∧ beatE k c = 0 := by
  simp [beatV, beatE, h]

/-- What is seen of a sector. -/
def seenB (s : ByteArray) : Bool := fldB 3 s beatW && decide (fldRest 3 s beatW = ⟨#[]⟩)
def seenK (s : ByteArray) : Int := if seenB s = true then (fldVal 3 s beatW).getD 0 0 else 0
def seenN (s : ByteArray) : Int := if seenB s = true then (fldVal 3 s beatW).getD 1 0 else 0
theorem seen_no {s : ByteArray} (h : seenB s = false) : seenK s = 0 ∧ seenN s = 0 := by simp [seenK, seenN, h]
theorem seen_yes {s : ByteArray} (h : seenB s = true) : seenK s = (fldVal 3 s beatW).getD 0 0 ∧ seenN s = (fldVal 3 s beatW).getD 1 0 := by simp [seenK, seenN, h]
theorem seen_beat {k c : Int} (h : beatMay k c = true) : seenK (beatS k c) = k ∧ seenN (beatS k c) = c := by
  obtain ⟨h3, h4, h5⟩ := fields_make (beat_ok h) (by omega)
  have hb : seenB (beatS k c) = true := by
    unfold seenB beatS
    rw [h4]
    rcases hh : fldB 3 (sealS 3 (makeS ⟨#[]⟩ beatW [k, c])) beatW with _ | _
    · unfold fldErr at h5
      rw [hh] at h5
      simp at h5
    · simp
  obtain ⟨e1, e2⟩ := seen_yes hb
  rw [e1, e2]
  unfold beatS
  rw [h3]
  exact ⟨rfl, rfl⟩
theorem size_empty : (⟨#[]⟩ : ByteArray).size = 0 := rfl

/-- Leases, watches. -/
def overB (l a n : Int) : Bool := decide (a ≤ n) && decide (max l 0 < n - a)
def reachB (l a n : Int) : Bool := decide (a ≤ n) && decide (max l 0 ≤ n - a)
def deadB (wt k s : Int) (lk : Bool) (n : Int) : Bool := (lk && !(k == 0)) && reachB wt s n
def lookB (k c : Int) (lk : Bool) (t : ByteArray) : Bool := (lk && (k == seenK t)) && (c == seenN t)
/-- Since when, behind a look; the watch (what is seen stands in it whether it was seen before or not). -/
def sinceV (k c s : Int) (lk : Bool) (t : ByteArray) (n : Int) : Int := if lookB k c lk t = true then s else n
def lookV (k c s : Int) (lk : Bool) (t : ByteArray) (n : Int) : Array Value := #[.int .i64 (seenK t), .int .i64 (seenN t), .int .i64 (sinceV k c s lk t n), .bool true]
theorem look_no {k c s : Int} {lk : Bool} {t : ByteArray} {n : Int} (h : lookB k c lk t = false) : lookV k c s lk t n = #[.int .i64 (seenK t), .int .i64 (seenN t), .int .i64 n, .bool true] := by
  unfold lookV sinceV
  rw [h]
  rfl
theorem look_yes {k c s : Int} {lk : Bool} {t : ByteArray} {n : Int} (h : lookB k c lk t = true) : lookV k c s lk t n = #[.int .i64 k, .int .i64 c, .int .i64 s, .bool lk] := by
  unfold lookV sinceV
  rw [if_pos h]
  unfold lookB at h
  rw [Bool.and_eq_true, Bool.and_eq_true, beq_iff_eq, beq_iff_eq] at h
  obtain ⟨⟨rfl, rfl⟩, rfl⟩ := h
  rfl
theorem over_iff {l a n : Int} : overB l a n = true ↔ a ≤ n ∧ max l 0 < n - a := by simp [overB]
theorem reach_iff {l a n : Int} : reachB l a n = true ↔ a ≤ n ∧ max l 0 ≤ n - a := by simp [reachB]

end Go.Proofs.YtneioippiionjaaDoor
