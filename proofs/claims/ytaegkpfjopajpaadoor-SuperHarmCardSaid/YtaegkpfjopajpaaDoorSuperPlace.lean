/-
  What stands where at first, by the sectors' numbers: the superblock at nought, the headers, the data; the document's own way of laying and of checking comes to the same. It speaks of no program's function.
-/
import Derived.Test.YtaegkpfjopajpaaDoorSuperMath
namespace Go.Proofs.YtaegkpfjopajpaaDoor
open Go.RowKit
set_option linter.unusedVariables false
set_option linter.unusedSimpArgs false

section
variable {g : G}
theorem data_first (h : mayG g = true) : dataV g 0 0 = 1 + 2 * g.N + g.L + g.S * (1 + g.J) := by
  have hg := of_may h
  have hd := data_in h (a := 0) (b := 0) (by omega) (by omega) (by omega) (by omega)
  rw [hd]
  omega
theorem head_at (h : mayG g = true) {i : Int} (h0 : 0 ≤ i) (h1 : i < g.S) : headV g i = 1 + 2 * g.N + g.L + i * (1 + g.J) ∧ 1 + 2 * g.N + g.L ≤ headV g i ∧ headV g i < dataV g 0 0 ∧ headV g i < totalV g := by
  have hg := of_may h
  have e := head_in h h0 h1
  have hd := data_first h
  have ht := total_in h
  have hb := data_bd h
  have h2 := slot_step h h1
  have h3 : 0 ≤ i * (1 + g.J) := Int.mul_nonneg h0 (by omega)
  refine ⟨e, by omega, by omega, by omega⟩
/-- Each sector is just one of these. -/
theorem place_cases (h : mayG g = true) {x : Int} (h0 : 0 ≤ x) (h1 : x < totalV g) :
    (x = 0 ∧ (whatV g x).k = 1) ∨ (0 < x ∧ x < 1 + 2 * g.N + g.L ∧ ((whatV g x).k = 2 ∨ (whatV g x).k = 3 ∨ (whatV g x).k = 4)) ∨
    (∃ i : Int, 0 ≤ i ∧ i < g.S ∧ headV g i = x ∧ (whatV g x).k = 5) ∨
    (1 + 2 * g.N + g.L ≤ x ∧ x < dataV g 0 0 ∧ (whatV g x).k = 6 ∧ ∀ i : Int, 0 ≤ i → i < g.S → headV g i ≠ x) ∨
    (dataV g 0 0 ≤ x ∧ (whatV g x).k = 7) := by
  have hg := of_may h
  have hd := data_first h
  by_cases a0 : x = 0
  · exact .inl ⟨a0, by rw [what_super h a0]⟩
  by_cases a1 : x < 1 + g.N
  · exact .inr (.inl ⟨by omega, by omega, .inl (by rw [what_lease h ⟨by omega, a1⟩])⟩)
  by_cases a2 : x < 1 + 2 * g.N
  · exact .inr (.inl ⟨by omega, by omega, .inr (.inl (by rw [what_paxos h ⟨by omega, a2⟩]))⟩)
  by_cases a3 : x < 1 + 2 * g.N + g.L
  · exact .inr (.inl ⟨by omega, by omega, .inr (.inr (by rw [what_log h ⟨by omega, a3⟩]))⟩)
  by_cases a4 : x < dataV g 0 0
  · obtain ⟨i, k, i0, i1, k0, k1, hx, hk⟩ := slot_parts h (x := x) ⟨by omega, by omega⟩
    rcases hk with ⟨rfl, hw⟩ | ⟨hk, hw⟩
    · refine .inr (.inr (.inl ⟨i, i0, i1, ?_, by rw [hw]⟩))
      rw [(head_at h i0 i1).1]
      omega
    · refine .inr (.inr (.inr (.inl ⟨by omega, a4, by rw [hw], ?_⟩)))
      intro j j0 j1 hj
      rw [(head_at h j0 j1).1] at hj
      rcases Int.lt_trichotomy j i with hji | rfl | hji
      · have := slot_step h hji
        omega
      · omega
      · have := slot_step h hji
        omega
  · exact .inr (.inr (.inr (.inr ⟨by omega, by rw [what_data h ⟨by omega, h1⟩]⟩)))

/-- The document's own laying, k headers being laid. -/
def refF (g : G) (k : Nat) : List ByteArray := (List.range (totN g)).map fun i => if i = 0 then supS g else if (List.range k).any (fun j => decide ((headV g ((j : Nat) : Int)).toNat = i)) = true then headS 0 else ⟨#[]⟩
theorem refF_length (g : G) (k : Nat) : (refF g k).length = totN g := by simp [refF]
theorem refF_start (g : G) : (List.replicate (totN g) (⟨#[]⟩ : ByteArray)).set 0 (supS g) = refF g 0 := by
  apply List.ext_getElem
  · simp [refF]
  · intro i h1 h2
    simp only [refF, List.getElem_set, List.getElem_map, List.getElem_range, List.getElem_replicate, List.range_zero, List.any_nil]
    by_cases e : i = 0
    · subst e; simp
    · have e' : ¬ 0 = i := fun h => e h.symm
      simp [e, e']
theorem refF_step (h : mayG g = true) {k : Nat} (hk : (k : Int) < g.S) : (refF g k).set (headV g (k : Int)).toNat (headS 0) = refF g (k + 1) := by
  have hg := of_may h
  have hh := head_at h (i := (k : Int)) (by omega) hk
  apply List.ext_getElem
  · simp [refF]
  · intro i h1 h2
    simp only [refF, List.getElem_set, List.getElem_map, List.getElem_range, List.range_succ, List.any_append, List.any_cons, List.any_nil, Bool.or_false]
    by_cases e : (headV g (k : Int)).toNat = i
    · have e0 : ¬ i = 0 := by omega
      rw [if_pos e, if_neg e0, if_pos (by rw [decide_eq_true e, Bool.or_true])]
    · rw [if_neg e]
      by_cases e0 : i = 0
      · rw [if_pos e0, if_pos e0]
      · rw [if_neg e0, if_neg e0, decide_eq_false e, Bool.or_false]
theorem refF_all (h : mayG g = true) : refF g g.S.toNat = fmtL g := by
  have hg := of_may h
  unfold refF fmtL
  refine List.map_congr_left fun i hi => ?_
  have hi' : i < totN g := List.mem_range.1 hi
  have hx1 : ((i : Nat) : Int) < totalV g := by unfold totN at hi'; omega
  have hany : ∀ b, (List.range g.S.toNat).any (fun j => decide ((headV g ((j : Nat) : Int)).toNat = i)) = b ↔ (List.range g.S.toNat).any (fun j => decide ((headV g ((j : Nat) : Int)).toNat = i)) = b := fun _ => Iff.rfl
  rcases place_cases h (x := ((i : Nat) : Int)) (by omega) hx1 with ⟨a, hk⟩ | ⟨a, b, hk⟩ | ⟨j, j0, j1, hj, hk⟩ | ⟨a, b, hk, hno⟩ | ⟨a, hk⟩
  · rw [if_pos (by omega), fmt_super hk]
  · rw [if_neg (by omega), if_neg, fmt_other (by omega) (by omega)]
    rw [List.any_eq_true]
    rintro ⟨j, hj, he⟩
    have := List.mem_range.1 hj
    have hh := head_at h (i := (j : Int)) (by omega) (by omega)
    have := of_decide_eq_true he
    omega
  · have hh := head_at h j0 j1
    rw [if_neg (by omega), if_pos, fmt_head hk]
    rw [List.any_eq_true]
    exact ⟨j.toNat, List.mem_range.2 (by omega), decide_eq_true (by rw [Int.toNat_of_nonneg j0, hj]; omega)⟩
  · rw [if_neg (by omega), if_neg, fmt_other (by omega) (by omega)]
    rw [List.any_eq_true]
    rintro ⟨j, hj, he⟩
    have hj' := List.mem_range.1 hj
    have hh := head_at h (i := (j : Int)) (by omega) (by omega)
    have he' := of_decide_eq_true he
    exact hno (j : Int) (by omega) (by omega) (by omega)
  · have hd := data_first h
    have hs := slots_bd h
    rw [if_neg (by omega), if_neg, fmt_other (by omega) (by omega)]
    rw [List.any_eq_true]
    rintro ⟨j, hj, he⟩
    have := List.mem_range.1 hj
    have hh := head_at h (i := (j : Int)) (by omega) (by omega)
    have := of_decide_eq_true he
    omega

/-- The document's own two tests. -/
def smallB (g : G) (l : List ByteArray) (i : Nat) : Bool := decide ((l.getD i ⟨#[]⟩).size ≤ 512) && (decide ((i : Int) < dataV g 0 0) || decide ((l.getD i ⟨#[]⟩).size ≤ 256))
theorem small_no_great {l : List ByteArray} {i : Nat} (h : 512 < (l.getD i ⟨#[]⟩).size) : smallB g l i = false := by
  unfold smallB
  rw [decide_eq_false (by omega), Bool.false_and]
theorem small_no_data {l : List ByteArray} {i : Nat} (h1 : dataV g 0 0 ≤ (i : Int)) (h2 : 256 < (l.getD i ⟨#[]⟩).size) : smallB g l i = false := by
  unfold smallB
  rw [decide_eq_false (p := (i : Int) < dataV g 0 0) (by omega), decide_eq_false (p := (l.getD i ⟨#[]⟩).size ≤ 256) (by omega), Bool.or_false, Bool.and_false]
theorem small_yes {l : List ByteArray} {i : Nat} (h1 : (l.getD i ⟨#[]⟩).size ≤ 512) (h2 : (i : Int) < dataV g 0 0 ∨ (l.getD i ⟨#[]⟩).size ≤ 256) : smallB g l i = true := by
  unfold smallB
  rw [decide_eq_true h1, Bool.true_and]
  rcases h2 with h2 | h2
  · rw [decide_eq_true h2, Bool.true_or]
  · rw [decide_eq_true h2, Bool.or_true]
theorem of_small {l : List ByteArray} {i : Nat} (h : smallB g l i = true) : (l.getD i ⟨#[]⟩).size ≤ 512 ∧ ((i : Int) < dataV g 0 0 ∨ (l.getD i ⟨#[]⟩).size ≤ 256) := by
  unfold smallB at h
  simpa using h
theorem fit_of_tests (h : mayG g = true) {l : List ByteArray} (hl : l.length = totN g) (h1 : ∀ i, i < l.length → smallB g l i = true) (h2 : ∀ j : Nat, (j : Int) < g.S → tailB (l.getD (headV g (j : Int)).toNat ⟨#[]⟩) = true) :
    ∀ i, i < l.length → fitAt g l i = true := by
  intro i hi
  have hx1 : ((i : Nat) : Int) < totalV g := by rw [hl] at hi; unfold totN at hi; omega
  have hs := of_small (h1 i hi)
  have hg := of_may h
  have hd := data_first h
  have hsb := slots_bd h
  unfold fitAt
  rcases place_cases h (x := ((i : Nat) : Int)) (by omega) hx1 with ⟨a, hk⟩ | ⟨a, b, hk⟩ | ⟨j, j0, j1, hj, hk⟩ | ⟨a, b, hk, hno⟩ | ⟨a, hk⟩
  · rw [fit_other _ (by omega) (by omega)]; exact decide_eq_true hs.1
  · rw [fit_other _ (by omega) (by omega)]; exact decide_eq_true hs.1
  · rw [fit_head _ hk]
    have := h2 j.toNat (by omega)
    rw [Int.toNat_of_nonneg j0, hj] at this
    simpa using this
  · rw [fit_other _ (by omega) (by omega)]; exact decide_eq_true hs.1
  · rw [fit_data _ hk]; exact decide_eq_true (by omega)
theorem bad_of_small (h : mayG g = true) {l : List ByteArray} (hl : l.length = totN g) {i : Nat} (hi : i < l.length) (h1 : smallB g l i = false) : fitAt g l i = false := by
  have hx1 : ((i : Nat) : Int) < totalV g := by rw [hl] at hi; unfold totN at hi; omega
  rcases hf : fitAt g l i with _ | _
  · rfl
  · exfalso
    have hg := of_may h
    have hd := data_first h
    have hsb := slots_bd h
    have hbad : ¬ ((l.getD i ⟨#[]⟩).size ≤ 512 ∧ ((i : Int) < dataV g 0 0 ∨ (l.getD i ⟨#[]⟩).size ≤ 256)) := fun hh => by rw [small_yes hh.1 hh.2] at h1; cases h1
    unfold fitAt at hf
    rcases place_cases h (x := ((i : Nat) : Int)) (by omega) hx1 with ⟨a, hk⟩ | ⟨a, b, hk⟩ | ⟨j, j0, j1, hj, hk⟩ | ⟨a, b, hk, hno⟩ | ⟨a, hk⟩
    · rw [fit_other _ (by omega) (by omega)] at hf
      have := of_decide_eq_true hf
      omega
    · rw [fit_other _ (by omega) (by omega)] at hf
      have := of_decide_eq_true hf
      omega
    · rw [fit_head _ hk] at hf
      have := tailB_size hf
      have := (head_at h j0 j1).2.2.1
      omega
    · rw [fit_other _ (by omega) (by omega)] at hf
      have := of_decide_eq_true hf
      omega
    · rw [fit_data _ hk] at hf
      have := of_decide_eq_true hf
      omega
theorem kind_head (h : mayG g = true) {j : Int} (j0 : 0 ≤ j) (j1 : j < g.S) : (whatV g (headV g j)).k = 5 := by
  have hg := of_may h
  have hh := head_at h j0 j1
  have hd := data_first h
  rcases place_cases h (x := headV g j) (by omega) hh.2.2.2 with ⟨a, hk⟩ | ⟨a, b, hk⟩ | ⟨i, i0, i1, hj, hk⟩ | ⟨a, b, hk, hno⟩ | ⟨a, hk⟩
  · omega
  · omega
  · exact hk
  · exact absurd rfl (hno j j0 j1)
  · omega
theorem bad_of_tail (h : mayG g = true) {l : List ByteArray} {j : Nat} (hj : (j : Int) < g.S) (h1 : tailB (l.getD (headV g (j : Int)).toNat ⟨#[]⟩) = false) : fitAt g l (headV g (j : Int)).toNat = false := by
  have hg := of_may h
  have hh := head_at h (i := (j : Int)) (by omega) hj
  have hk := kind_head h (j := (j : Int)) (by omega) hj
  unfold fitAt
  rw [Int.toNat_of_nonneg (by omega), fit_head _ hk]
  exact h1
end

end Go.Proofs.YtaegkpfjopajpaaDoor
