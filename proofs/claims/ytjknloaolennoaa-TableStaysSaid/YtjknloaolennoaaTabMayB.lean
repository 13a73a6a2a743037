/-
  Which tables may be, as the document asks it one by one; over plain values.
-/
import Derived.Test.YtjknloaolennoaaTabSlots
import Derived.Test.YtjknloaolennoaaTabAll
namespace Go.Proofs.Ytjknloaolennoaa
open Go.RowKit
set_option linter.unusedVariables false
set_option linter.unusedSimpArgs false

/-- Is the hold at a place as it must be? -/
def okH (B : Int) (sl : List SlotM) (l : List HoldM) (j : Nat) (h : HoldM) : Bool := (slotO sl h.key).2 && (sHoldB B h && (!sTou (l.take j) h.key h.s && !decide (64 < (ofKey l h.key).length)))
def okTo (B : Int) (sl : List SlotM) (l : List HoldM) (n : Nat) : Prop := ∀ (j : Nat) (hj : j < l.length), j < n → okH B sl l j l[j] = true
def mayTB (S B : Int) (t : TabM) : Bool := decide ((t.sl.length : Int) = S) && (slotsB t.sl && (sAll t.ho && (decide (∀ j : Fin (t.ho ++ t.qu).length, okH B t.sl (t.ho ++ t.qu) j.val (t.ho ++ t.qu)[j.val] = true) && decide ((grantT t).qu.length = t.qu.length))))
theorem may_len {S B : Int} {t : TabM} (h : ¬ (t.sl.length : Int) = S) : mayTB S B t = false := by unfold mayTB; rw [decide_eq_false h]; rfl
theorem may_slots {S B : Int} {t : TabM} (h : slotsB t.sl = false) : mayTB S B t = false := by unfold mayTB; rw [h]; simp
theorem may_all {S B : Int} {t : TabM} (h : sAll t.ho = false) : mayTB S B t = false := by unfold mayTB; rw [h]; simp
theorem may_one {S B : Int} {t : TabM} {l : List HoldM} (hl : t.ho ++ t.qu = l) {j : Nat} (hj : j < l.length) {x : HoldM} (e : l[j] = x) (h : okH B t.sl l j x = false) : mayTB S B t = false := by
  subst hl
  unfold mayTB
  rw [show decide (∀ j : Fin (t.ho ++ t.qu).length, okH B t.sl (t.ho ++ t.qu) j.val (t.ho ++ t.qu)[j.val] = true) = false from decide_eq_false fun k => by
    have := k ⟨j, hj⟩
    simp only at this
    rw [e, h] at this
    cases this]
  simp
theorem may_rest {S B : Int} {t : TabM} {l : List HoldM} (hl : t.ho ++ t.qu = l) {n : Nat} (hn : l.length = n) (h0 : (t.sl.length : Int) = S) (h1 : slotsB t.sl = true) (h2 : sAll t.ho = true) (h3 : okTo B t.sl l n) : mayTB S B t = (((grantT t).qu.length : Int) == (t.qu.length : Int)) := by
  subst hl
  unfold mayTB
  rw [decide_eq_true h0, h1, h2, decide_eq_true (p := ∀ j : Fin (t.ho ++ t.qu).length, okH B t.sl (t.ho ++ t.qu) j.val (t.ho ++ t.qu)[j.val] = true) fun k => h3 k.val k.isLt (by have := k.isLt; omega)]
  simp only [Bool.true_and]
  rw [Bool.eq_iff_iff]
  simp
  omega
theorem ok_next {B : Int} {sl : List SlotM} {l : List HoldM} {n : Nat} (h : okTo B sl l n) (hn : n < l.length) {x : HoldM} (e : l[n] = x) (hx : okH B sl l n x = true) : okTo B sl l (n + 1) := fun j hj hjn => by
  by_cases e2 : j = n
  · subst e2
    rw [e]; exact hx
  · exact h j hj (by omega)

theorem slotO_iff {sl : List SlotM} {key : Int} : (slotO sl key).2 = true ↔ Member sl key := by
  unfold slotO Member
  by_cases h : 1 ≤ key
  · rw [if_pos h]
    cases hf : sl.findIdx? fun x => x.key == key with
    | none =>
      rw [List.findIdx?_eq_none_iff] at hf
      simp only [Bool.false_eq_true, false_iff, not_and, not_exists]
      intro _ x hx hk
      exact absurd hk (by simpa using hf x hx)
    | some i =>
      rw [List.findIdx?_eq_some_iff_getElem] at hf
      obtain ⟨hi, hk, _⟩ := hf
      simp only [true_iff]
      exact ⟨h, _, List.getElem_mem hi, by simpa using hk⟩
  · rw [if_neg h]
    simp only [Bool.false_eq_true, false_iff, not_and]
    exact fun h2 => absurd h2 h
theorem tou_iff {l : List HoldM} {key : Int} {s : SpanM} : sTou l key s = true ↔ ∃ h ∈ l, h.key = key ∧ sOv h.s s = true := by
  unfold sTou
  rw [List.any_eq_true]
  simp
/-- As it is asked, so it is meant. -/
theorem mayTB_iff {n : Nat} {B : Int} {t : TabM} : mayTB (n : Int) B t = true ↔ MayT B n t := by
  unfold mayTB
  simp only [Bool.and_eq_true, decide_eq_true_eq]
  constructor
  · rintro ⟨h0, h1, h2, h3, h4⟩
    have hj : ∀ (j : Nat) (hj : j < (t.ho ++ t.qu).length), (slotO t.sl ((t.ho ++ t.qu)[j]).key).2 = true ∧ sHoldB B (t.ho ++ t.qu)[j] = true ∧ sTou ((t.ho ++ t.qu).take j) ((t.ho ++ t.qu)[j]).key ((t.ho ++ t.qu)[j]).s = false ∧ (ofKey (t.ho ++ t.qu) ((t.ho ++ t.qu)[j]).key).length ≤ 64 := fun j hj => by
      have := h3 ⟨j, hj⟩
      unfold okH at this
      simp only [Bool.and_eq_true, Bool.not_eq_true', decide_eq_false_iff_not] at this
      obtain ⟨g0, g1, g2, g3⟩ := this
      exact ⟨g0, g1, g2, by omega⟩
    refine ⟨by omega, slots_iff.1 h1, h2, fun h hh => ?_, fun h hh => ?_, ?_, fun key => ?_, (stuck_iff _ _).1 h4⟩
    · obtain ⟨j, hj', rfl⟩ := List.getElem_of_mem hh
      exact slotO_iff.1 (hj j hj').1
    · obtain ⟨j, hj', rfl⟩ := List.getElem_of_mem hh
      exact (hj j hj').2.1
    · unfold Apart
      rw [List.pairwise_iff_getElem]
      intro i j hi hj' hij hc
      have := (hj j hj').2.2.1
      have h5 : sTou ((t.ho ++ t.qu).take j) ((t.ho ++ t.qu)[j]).key ((t.ho ++ t.qu)[j]).s = true := by
        rw [tou_iff]
        refine ⟨(t.ho ++ t.qu)[i], ?_, hc.1, hc.2⟩
        rw [List.mem_take_iff_getElem]
        exact ⟨i, by omega, rfl⟩
      rw [this] at h5; cases h5
    · by_cases he : ∃ h ∈ t.ho ++ t.qu, h.key = key
      · obtain ⟨h, hh, rfl⟩ := he
        obtain ⟨j, hj', rfl⟩ := List.getElem_of_mem hh
        exact (hj j hj').2.2.2
      · unfold countK
        rw [List.filter_eq_nil_iff.2 fun h hh => by
          have := fun e => he ⟨h, hh, e⟩
          simpa using this]
        simp
  · intro h
    refine ⟨by have := h.len; omega, slots_iff.2 h.sok, h.all, fun j => ?_, (stuck_iff _ _).2 h.st⟩
    unfold okH
    simp only [Bool.and_eq_true, Bool.not_eq_true', decide_eq_false_iff_not]
    have hm := List.getElem_mem j.isLt
    refine ⟨slotO_iff.2 (h.mem _ hm), h.hol _ hm, ?_, by have : (ofKey (t.ho ++ t.qu) ((t.ho ++ t.qu)[j.val]).key).length ≤ 64 := h.cnt ((t.ho ++ t.qu)[j.val]).key; omega⟩
    rcases hr : sTou ((t.ho ++ t.qu).take j.val) ((t.ho ++ t.qu)[j.val]).key ((t.ho ++ t.qu)[j.val]).s with _ | _
    · rfl
    · exfalso
      obtain ⟨x, hx, hk, ho⟩ := tou_iff.1 hr
      rw [List.mem_take_iff_getElem] at hx
      obtain ⟨i, hi, rfl⟩ := hx
      have := h.ap
      unfold Apart at this
      rw [List.pairwise_iff_getElem] at this
      exact this i j.val (by omega) j.isLt (by omega) ⟨hk, ho⟩

end Go.Proofs.Ytjknloaolennoaa
