/-
  What is at first checks as its geometry; with a sector more or less, or another sector in one place, over plain values. It speaks of no program's function.
-/
import Derived.Test.YtaegkpfjopajpaaDoorSuperPlace
import Derived.Test.YtaegkpfjopajpaaDoorSuperCheckLoop
namespace Go.Proofs.YtaegkpfjopajpaaDoor
open Go.RowKit
set_option linter.unusedVariables false
set_option linter.unusedSimpArgs false

variable {g : G}
theorem tot_pos (h : mayG g = true) : 0 < totN g := by
  have hg := of_may h
  have ht := total_in h
  have hd := data_first h
  have hb := data_bd h
  unfold totN
  rcases Int.lt_or_le 0 (totalV g) with h1 | h1
  · omega
  · exfalso
    have hh := head_at h (i := 0) (by omega) (by omega)
    have : 0 ≤ g.S * (1 + g.J) := Int.mul_nonneg (by omega) (by omega)
    omega
theorem below_total {i : Nat} (hi : i < totN g) : ((i : Nat) : Int) < totalV g := by unfold totN at hi; omega
theorem what_first (h : mayG g = true) : (whatV g ((0 : Nat) : Int)).k = 1 := by
  have hg := of_may h
  have hp := below_total (tot_pos h)
  rcases place_cases h (x := ((0 : Nat) : Int)) (by omega) hp with ⟨a, hk⟩ | ⟨a, b, hk⟩ | ⟨i, i0, i1, hj, hk⟩ | ⟨a, b, hk, hno⟩ | ⟨a, hk⟩
  · exact hk
  · omega
  · have := (head_at h i0 i1).2.1
    omega
  · omega
  · have := data_first h
    have : 0 ≤ g.S * (1 + g.J) := Int.mul_nonneg (by omega) (by omega)
    omega
theorem first_kind (h : mayG g = true) {i : Nat} (hi : i < totN g) (hk : (whatV g (i : Int)).k = 1) : i = 0 := by
  rcases place_cases h (x := (i : Int)) (by omega) (below_total hi) with ⟨a, hk2⟩ | ⟨a, b, hk2⟩ | ⟨j, j0, j1, hj, hk2⟩ | ⟨a, b, hk2, hno⟩ | ⟨a, hk2⟩
  · omega
  · omega
  · omega
  · omega
  · omega
theorem fit_fmt (h : mayG g = true) (i : Nat) : fitB (whatV g (i : Int)).k (fmtAt g i) = true := by
  by_cases h1 : (whatV g (i : Int)).k = 1
  · rw [fmt_super h1, fit_other _ (by omega) (by omega)]
    exact decide_eq_true (readB_size (read_sup h).1).2
  · by_cases h5 : (whatV g (i : Int)).k = 5
    · rw [fmt_head h5, fit_head _ h5]
      exact (tail_head tail_zero).1
    · rw [fmt_other h1 h5]
      unfold fitB
      rw [if_neg h5]
      split <;> decide
theorem getD_fmt {i : Nat} (hi : i < totN g) : (fmtL g).getD i ⟨#[]⟩ = fmtAt g i := by
  have : i < (fmtL g).length := by rw [fmtL_length]; exact hi
  rw [List.getD, List.getElem?_eq_getElem this]
  simp [fmtL]
theorem fmt_first (h : mayG g = true) : fmtAt g 0 = supS g := fmt_super (what_first h)

/-- A device's sectors, one of them another. -/
def setL (g : G) (i : Nat) (s : ByteArray) : List ByteArray := (fmtL g).set i s
theorem setL_length (g : G) (i : Nat) (s : ByteArray) : (setL g i s).length = totN g := by simp [setL, fmtL_length]
theorem getD_setL {i j : Nat} (s : ByteArray) (hj : j < totN g) : (setL g i s).getD j ⟨#[]⟩ = if i = j then s else fmtAt g j := by
  have hl : j < (setL g i s).length := by rw [setL_length]; exact hj
  rw [List.getD, List.getElem?_eq_getElem hl]
  simp only [setL, List.getElem_set, Option.getD_some]
  split
  · rfl
  · simp [fmtL]
theorem setL_same {i : Nat} (hi : i < totN g) : setL g i (fmtAt g i) = fmtL g := by
  apply List.ext_getElem
  · rw [setL_length, fmtL_length]
  · intro j h1 h2
    simp only [setL, List.getElem_set]
    split
    · rename_i e
      subst e
      simp [fmtL]
    · rfl
/-- All is well where the other one fits there. -/
theorem set_yes (h : mayG g = true) {i : Nat} (hi : i < totN g) {s : ByteArray} (h0 : i = 0 → s = supS g) (hf : fitB (whatV g (i : Int)).k s = true) :
    checkB (setL g i s) = true ∧ checkG (setL g i s) = g ∧ checkE (setL g i s) = 0 := by
  have hp := tot_pos h
  have e0 : (setL g i s).getD 0 ⟨#[]⟩ = supS g := by
    rw [getD_setL s hp]
    split
    · rename_i e; exact h0 e
    · exact fmt_first h
  have hb : checkB (setL g i s) = true := by
    refine check_all (first_yes (by rw [setL_length]; exact hp) (by rw [e0]; exact (read_sup h).1) ?_) ?_
    · rw [setL_length, e0, (read_sup h).2.1]
    · intro j hj
      rw [setL_length] at hj
      rw [e0, (read_sup h).2.1]
      unfold fitAt
      rw [getD_setL s hj]
      split
      · rename_i e; subst e; exact hf
      · exact fit_fmt h j
  obtain ⟨e1, e2⟩ := check_yes hb
  refine ⟨hb, ?_, e2⟩
  rw [e1, e0, (read_sup h).2.1]
theorem check_fmt (h : mayG g = true) : checkG (fmtL g) = g ∧ checkE (fmtL g) = 0 := by
  have hp := tot_pos h
  have := set_yes h hp (s := fmtAt g 0) (fun _ => fmt_first h) (fit_fmt h 0)
  rw [setL_same hp] at this
  exact this.2
/-- A harmed superblock; a harmed header. -/
theorem set_super (h : mayG g = true) {s : ByteArray} (hr : readB s = false) : checkE (setL g 0 s) = 50 := by
  have hp := tot_pos h
  have e0 : (setL g 0 s).getD 0 ⟨#[]⟩ = s := by rw [getD_setL s hp, if_pos rfl]
  refine (check_no (check_first ?_)).2
  unfold firstOk
  rw [e0, hr]
  simp
theorem set_head (h : mayG g = true) {i : Nat} (hi : i < totN g) (hk : (whatV g (i : Int)).k = 5) {s : ByteArray} (ht : tailB s = false) : checkE (setL g i s) = 50 := by
  have hp := tot_pos h
  have hi0 : i ≠ 0 := fun e => by
    have := what_first h
    rw [← e] at this
    omega
  have e0 : (setL g i s).getD 0 ⟨#[]⟩ = supS g := by rw [getD_setL s hp, if_neg hi0]; exact fmt_first h
  refine (check_no (check_bad (i := i) (by rw [setL_length]; exact hi) ?_)).2
  rw [e0, (read_sup h).2.1]
  unfold fitAt
  rw [getD_setL s hi, if_pos rfl, fit_head _ hk]
  exact ht
/-- A sector more, one less. -/
theorem fmt_more (h : mayG g = true) (x : ByteArray) : checkE (fmtL g ++ [x]) = 50 := by
  have hp := tot_pos h
  have e0 : (fmtL g ++ [x]).getD 0 ⟨#[]⟩ = supS g := by
    rw [List.getD, List.getElem?_append_left (by rw [fmtL_length]; exact hp), ← List.getD, getD_fmt hp]
    exact fmt_first h
  refine (check_no (check_first ?_)).2
  unfold firstOk
  rw [e0, (read_sup h).2.1]
  have : ¬ (fmtL g ++ [x]).length = totN g := by simp [fmtL_length]
  rw [decide_eq_false this, Bool.and_false]
theorem fmt_less (h : mayG g = true) : checkE ((fmtL g).take (totN g - 1)) = 50 := by
  have hp := tot_pos h
  have hl : ((fmtL g).take (totN g - 1)).length = totN g - 1 := by rw [List.length_take, fmtL_length]; omega
  refine (check_no (check_first ?_)).2
  unfold firstOk
  by_cases h1 : totN g = 1
  · rw [decide_eq_false (p := 0 < ((fmtL g).take (totN g - 1)).length) (by omega)]
    simp
  · have e0 : ((fmtL g).take (totN g - 1)).getD 0 ⟨#[]⟩ = supS g := by
      rw [List.getD, List.getElem?_take, if_pos (by omega), ← List.getD, getD_fmt hp]
      exact fmt_first h
    rw [e0, (read_sup h).2.1]
    have : ¬ ((fmtL g).take (totN g - 1)).length = totN g := by omega
    rw [decide_eq_false this, Bool.and_false]
/-- Where another sector may stand. -/
theorem set_other (h : mayG g = true) {i : Nat} (hi : i < totN g) {s : ByteArray} (hs : s.size ≤ 256) (h1 : ¬ (whatV g (i : Int)).k = 1) (h5 : ¬ (whatV g (i : Int)).k = 5) : checkG (setL g i s) = g ∧ checkE (setL g i s) = 0 := by
  refine (set_yes h hi (fun e => ?_) ?_).2
  · exfalso
    subst e
    exact h1 (what_first h)
  · unfold fitB
    rw [if_neg h5]
    split
    · exact decide_eq_true hs
    · exact decide_eq_true (by omega)
theorem set_was (h : mayG g = true) {i : Nat} (hi : i < totN g) : checkG (setL g i (fmtAt g i)) = g ∧ checkE (setL g i (fmtAt g i)) = 0 := by
  rw [setL_same hi]
  exact check_fmt h
theorem set_tail (h : mayG g = true) {i : Nat} (hi : i < totN g) {s : ByteArray} (hk : (whatV g (i : Int)).k = 5) (ht : tailB s = true) : checkG (setL g i s) = g ∧ checkE (setL g i s) = 0 := by
  refine (set_yes h hi (fun e => ?_) ?_).2
  · exfalso
    subst e
    have := what_first h
    omega
  · rw [fit_head _ hk]
    exact ht
/-- How great they are. -/
theorem fmtAt_size (h : mayG g = true) (i : Nat) : (fmtAt g i).size ≤ 512 := by
  unfold fmtAt
  split
  · exact (readB_size (read_sup h).1).2
  · split
    · exact (tailB_size (tail_head tail_zero).1).2
    · exact Nat.zero_le _
theorem fmt_size (h : mayG g = true) : ∀ s ∈ fmtL g, s.size ≤ maxLen := fun s hs => by
  obtain ⟨i, _, rfl⟩ := List.mem_map.1 hs
  exact Nat.le_trans (fmtAt_size h i) (by unfold maxLen; omega)
theorem setL_size (h : mayG g = true) {i : Nat} {s : ByteArray} (hs : s.size ≤ 256) : ∀ t ∈ setL g i s, t.size ≤ maxLen := fun t ht => by
  rcases List.mem_or_eq_of_mem_set ht with h1 | rfl
  · exact fmt_size h t h1
  · exact Nat.le_trans hs (by unfold maxLen; omega)
theorem more_size (h : mayG g = true) : ∀ s ∈ fmtL g ++ [⟨#[]⟩], s.size ≤ maxLen := fun s hs => by
  rcases List.mem_append.1 hs with h1 | h1
  · exact fmt_size h s h1
  · rw [List.mem_singleton.1 h1]; exact Nat.zero_le _
theorem less_size (h : mayG g = true) (n : Nat) : ∀ s ∈ (fmtL g).take n, s.size ≤ maxLen := fun s hs => fmt_size h s (List.mem_of_mem_take hs)
theorem tot_len (g : G) : totN g ≤ maxLen := Nat.le_trans (total_bd g).2 (by unfold maxLen; omega)

end Go.Proofs.YtaegkpfjopajpaaDoor
