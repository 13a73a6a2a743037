/-
  Spans and holds over plain values: what overlaps, goes together, fits, covers, touches. It speaks of no program's function.
-/
import Derived.Test.YtphkhgokdnfepaaAid
namespace Go.Proofs.Ytphkhgokdnfepaa
open Go.RowKit
set_option linter.unusedVariables false
set_option linter.unusedSimpArgs false

structure SpanM where
  lo : Int
  hi : Int
deriving DecidableEq
structure HoldM where
  key : Int
  s : SpanM
  m : Int
deriving DecidableEq
instance : Inhabited HoldM := ⟨⟨0, ⟨0, 0⟩, 0⟩⟩

def sMayB (B : Int) (s : SpanM) : Bool := decide (0 ≤ s.lo) && (decide (s.lo ≤ s.hi) && decide (s.hi < B))
def sHoldB (B : Int) (h : HoldM) : Bool := decide (1 ≤ h.key) && (sMayB B h.s && ((h.m == 1) || (h.m == 2)))
def sOv (a b : SpanM) : Bool := decide (a.lo ≤ a.hi) && (decide (b.lo ≤ b.hi) && (decide (a.lo ≤ b.hi) && decide (b.lo ≤ a.hi)))
def sTog (a b : HoldM) : Bool := (a.key == b.key) || (!sOv a.s b.s || ((a.m == 1) && (b.m == 1)))
def sFits (h : HoldM) (l : List HoldM) : Bool := l.all (sTog h)
def sHas (key block mode : Int) (h : HoldM) : Bool := (h.key == key) && (decide (h.s.lo ≤ block) && (decide (block ≤ h.s.hi) && ((h.m == mode) || (h.m == 2))))
def sCov (l : List HoldM) (key block mode : Int) : Bool := l.any (sHas key block mode)
def sTou (l : List HoldM) (key : Int) (s : SpanM) : Bool := l.any fun h => (h.key == key) && sOv h.s s
def sAll (l : List HoldM) : Bool := (List.range l.length).all fun i => sFits (l.getD i default) (l.take i)

theorem s_ov_iff {a b : SpanM} : sOv a b = true ↔ a.lo ≤ a.hi ∧ b.lo ≤ b.hi ∧ a.lo ≤ b.hi ∧ b.lo ≤ a.hi := by simp [sOv]
theorem s_ov_comm (a b : SpanM) : sOv a b = sOv b a := by
  rw [Bool.eq_iff_iff, s_ov_iff, s_ov_iff]
  omega
theorem s_tog_iff {a b : HoldM} : sTog a b = true ↔ a.key = b.key ∨ ¬ sOv a.s b.s = true ∨ (a.m = 1 ∧ b.m = 1) := by simp [sTog]
theorem s_tog_comm (a b : HoldM) : sTog a b = sTog b a := by
  rw [Bool.eq_iff_iff, s_tog_iff, s_tog_iff, s_ov_comm a.s b.s]
  constructor
  · rintro (h | h | ⟨h1, h2⟩)
    · exact .inl h.symm
    · exact .inr (.inl h)
    · exact .inr (.inr ⟨h2, h1⟩)
  · rintro (h | h | ⟨h1, h2⟩)
    · exact .inl h.symm
    · exact .inr (.inl h)
    · exact .inr (.inr ⟨h2, h1⟩)
theorem s_tog_self (a : HoldM) : sTog a a = true := by simp [sTog]
theorem s_has_iff {key block mode : Int} {h : HoldM} : sHas key block mode h = true ↔ h.key = key ∧ h.s.lo ≤ block ∧ block ≤ h.s.hi ∧ (h.m = mode ∨ h.m = 2) := by simp [sHas]

/-! ### Loops: as far as k -/
theorem s_fits_take {h : HoldM} {l : List HoldM} {k : Nat} (hk : k < l.length) : sFits h (l.take (k + 1)) = (sFits h (l.take k) && sTog h l[k]) := by
  unfold sFits
  rw [List.take_succ_eq_append_getElem hk, List.all_append]
  simp
theorem s_cov_take {l : List HoldM} {key block mode : Int} {k : Nat} (hk : k < l.length) : sCov (l.take (k + 1)) key block mode = (sCov (l.take k) key block mode || sHas key block mode l[k]) := by
  unfold sCov
  rw [List.take_succ_eq_append_getElem hk, List.any_append]
  simp
theorem s_tou_take {l : List HoldM} {key : Int} {s : SpanM} {k : Nat} (hk : k < l.length) : sTou (l.take (k + 1)) key s = (sTou (l.take k) key s || ((l[k].key == key) && sOv l[k].s s)) := by
  unfold sTou
  rw [List.take_succ_eq_append_getElem hk, List.any_append]
  simp
theorem s_fits_no {h : HoldM} {l : List HoldM} {k : Nat} (hk : k < l.length) (ht : sTog h l[k] = false) : sFits h l = false := by
  unfold sFits
  rw [List.all_eq_false]
  exact ⟨l[k], List.getElem_mem hk, by rw [ht]; simp⟩
theorem s_cov_yes {l : List HoldM} {key block mode : Int} {k : Nat} (hk : k < l.length) (h : sHas key block mode l[k] = true) : sCov l key block mode = true := List.any_eq_true.2 ⟨l[k], List.getElem_mem hk, h⟩
theorem s_tou_yes {l : List HoldM} {key : Int} {s : SpanM} {k : Nat} (hk : k < l.length) (h1 : l[k].key = key) (h2 : sOv l[k].s s = true) : sTou l key s = true := List.any_eq_true.2 ⟨l[k], List.getElem_mem hk, by simp [h1, h2]⟩

/-! ### All -/
def sAllK (l : List HoldM) (n : Nat) : Bool := (List.range n).all fun i => sFits (l.getD i default) (l.take i)
theorem s_allK_all (l : List HoldM) : sAllK l l.length = sAll l := rfl
theorem s_allK_zero (l : List HoldM) : sAllK l 0 = true := rfl
theorem s_getD_hold {l : List HoldM} {k : Nat} (hk : k < l.length) : l.getD k default = l[k] := by rw [List.getD, List.getElem?_eq_getElem hk]; rfl
theorem s_allK_succ {l : List HoldM} {k : Nat} (hk : k < l.length) : sAllK l (k + 1) = (sAllK l k && sFits l[k] (l.take k)) := by
  unfold sAllK
  rw [List.range_succ, List.all_append, s_getD_hold hk |>.symm]
  simp
theorem s_all_no {l : List HoldM} {i k : Nat} (hi : i < l.length) (hk : k < i) (h : sTog l[i] (l[k]'(by omega)) = false) : sAll l = false := by
  unfold sAll
  rw [List.all_eq_false]
  refine ⟨i, List.mem_range.2 hi, ?_⟩
  rw [s_getD_hold hi]
  have hl : k < (l.take i).length := by rw [List.length_take]; omega
  rw [s_fits_no hl (by rw [List.getElem_take]; exact h)]
  simp
theorem s_all_pair {l : List HoldM} (h : sAll l = true) {i j : Nat} (hi : i < l.length) (hj : j < l.length) : sTog l[i] l[j] = true := by
  have key : ∀ a b (ha : a < l.length) (hb : b < a), sTog l[a] (l[b]'(by omega)) = true := fun a b ha hb => by
    rcases ht : sTog l[a] (l[b]'(by omega)) with _ | _
    · rw [s_all_no ha hb ht] at h
      cases h
    · rfl
  rcases Nat.lt_trichotomy i j with h1 | h1 | h1
  · rw [s_tog_comm]
    exact key j i hj h1
  · subst h1
    exact s_tog_self _
  · exact key i j hi h1
theorem s_all_of {l : List HoldM} (h : ∀ a b (ha : a < l.length) (hb : b < a), sTog l[a] (l[b]'(by omega)) = true) : sAll l = true := by
  unfold sAll
  rw [List.all_eq_true]
  intro i hi
  have hi := List.mem_range.1 hi
  rw [s_getD_hold hi]
  unfold sFits
  rw [List.all_eq_true]
  intro x hx
  obtain ⟨b, hb, rfl⟩ := List.getElem_of_mem hx
  rw [List.length_take] at hb
  rw [List.getElem_take]
  exact h i b hi (by omega)
/-- Whoever is of them fits. -/
theorem s_all_fits {l : List HoldM} (h : sAll l = true) {i : Nat} (hi : i < l.length) : sFits l[i] l = true := by
  unfold sFits
  rw [List.all_eq_true]
  intro x hx
  obtain ⟨j, hj, rfl⟩ := List.getElem_of_mem hx
  exact s_all_pair h hi hj
/-- Whoever fits may be put behind. -/
theorem s_all_more {l : List HoldM} (h : sAll l = true) (x : HoldM) : sAll (l ++ [x]) = sFits x l := by
  have hl : l.length < (l ++ [x]).length := by simp
  rw [← s_allK_all, show (l ++ [x]).length = l.length + 1 by simp, s_allK_succ hl]
  have h1 : sAllK (l ++ [x]) l.length = true := by
    rw [← h]
    unfold sAllK sAll
    rw [Bool.eq_iff_iff, List.all_eq_true, List.all_eq_true]
    constructor
    · intro g i hi
      have hi' := List.mem_range.1 hi
      have g := g i hi
      rwa [List.take_append_of_le_length (by omega), List.getD, List.getElem?_append_left hi'] at g
    · intro g i hi
      have hi' := List.mem_range.1 hi
      have g := g i hi
      rwa [List.take_append_of_le_length (by omega), List.getD, List.getElem?_append_left hi']
  rw [h1, Bool.true_and, List.take_append_of_le_length (Nat.le_refl _), List.take_length]
  simp
/-- No block is covered by two keys, one of them alone. -/
theorem s_all_cov {l : List HoldM} (h : sAll l = true) {a b block : Int} (hab : a ≠ b) (h1 : sCov l a block 2 = true) : sCov l b block 1 = false := by
  rcases h2 : sCov l b block 1 with _ | _
  · rfl
  · exfalso
    obtain ⟨x, hx, h1⟩ := List.any_eq_true.1 h1
    obtain ⟨y, hy, h2⟩ := List.any_eq_true.1 h2
    obtain ⟨i, hi, rfl⟩ := List.getElem_of_mem hx
    obtain ⟨j, hj, rfl⟩ := List.getElem_of_mem hy
    obtain ⟨a1, a2, a3, a4⟩ := s_has_iff.1 h1
    obtain ⟨b1, b2, b3, b4⟩ := s_has_iff.1 h2
    rcases s_tog_iff.1 (s_all_pair h hi hj) with h3 | h3 | ⟨h3, h4⟩
    · exact hab (by rw [← a1, ← b1, h3])
    · exact h3 (s_ov_iff.2 (by omega))
    · omega

/-! ### Parts -/
theorem s_ov_parts {a b : SpanM} {t : Int} (h1 : a.lo ≤ t) (h2 : t < a.hi) : sOv a b = (sOv ⟨a.lo, t⟩ b || sOv ⟨t + 1, a.hi⟩ b) := by
  rw [Bool.eq_iff_iff, Bool.or_eq_true, s_ov_iff, s_ov_iff, s_ov_iff]
  simp only
  omega
theorem s_ov_apart {lo hi t : Int} : sOv ⟨lo, t⟩ ⟨t + 1, hi⟩ = false := by
  rcases h : sOv ⟨lo, t⟩ ⟨t + 1, hi⟩ with _ | _
  · rfl
  · have := s_ov_iff.1 h
    simp only at this
    omega
theorem s_tou_parts {l : List HoldM} {key : Int} {a : SpanM} {t : Int} (h1 : a.lo ≤ t) (h2 : t < a.hi) : sTou l key a = (sTou l key ⟨a.lo, t⟩ || sTou l key ⟨t + 1, a.hi⟩) := by
  unfold sTou
  induction l with
  | nil => rfl
  | cons x l ih =>
    rw [List.any_cons, List.any_cons, List.any_cons, ih, s_ov_comm x.s a, s_ov_parts h1 h2, s_ov_comm ⟨a.lo, t⟩ x.s, s_ov_comm ⟨t + 1, a.hi⟩ x.s]
    cases (x.key == key) <;> cases sOv x.s ⟨a.lo, t⟩ <;> cases sOv x.s ⟨t + 1, a.hi⟩ <;> simp
theorem s_tog_parts {key m : Int} {a : SpanM} {t : Int} (h1 : a.lo ≤ t) (h2 : t < a.hi) (x : HoldM) : sTog ⟨key, a, m⟩ x = (sTog ⟨key, ⟨a.lo, t⟩, m⟩ x && sTog ⟨key, ⟨t + 1, a.hi⟩, m⟩ x) := by
  unfold sTog
  simp only
  rw [s_ov_parts h1 h2]
  cases (key == x.key) <;> cases sOv ⟨a.lo, t⟩ x.s <;> cases sOv ⟨t + 1, a.hi⟩ x.s <;> cases (m == 1) <;> cases (x.m == 1) <;> rfl
theorem s_fits_parts {l : List HoldM} {key m : Int} {a : SpanM} {t : Int} (h1 : a.lo ≤ t) (h2 : t < a.hi) : sFits ⟨key, a, m⟩ l = (sFits ⟨key, ⟨a.lo, t⟩, m⟩ l && sFits ⟨key, ⟨t + 1, a.hi⟩, m⟩ l) := by
  unfold sFits
  induction l with
  | nil => rfl
  | cons x l ih =>
    rw [List.all_cons, List.all_cons, List.all_cons, ih, s_tog_parts h1 h2]
    cases sTog ⟨key, ⟨a.lo, t⟩, m⟩ x <;> cases sTog ⟨key, ⟨t + 1, a.hi⟩, m⟩ x <;> simp

/-! ### Blocks -/
/-- Is some block below n of both? -/
def sSome (a b : SpanM) (n : Nat) : Bool := (List.range n).any fun k => decide (a.lo ≤ (k : Int)) && (decide ((k : Int) ≤ a.hi) && (decide (b.lo ≤ (k : Int)) && decide ((k : Int) ≤ b.hi)))
theorem s_some_succ (a b : SpanM) (n : Nat) : sSome a b (n + 1) = (sSome a b n || (decide (a.lo ≤ (n : Int)) && (decide ((n : Int) ≤ a.hi) && (decide (b.lo ≤ (n : Int)) && decide ((n : Int) ≤ b.hi))))) := by
  unfold sSome
  rw [List.range_succ, List.any_append]
  simp
theorem s_some_all {a b : SpanM} (h1 : 0 ≤ a.lo) (h2 : a.lo ≤ a.hi) (h3 : a.hi < 64) (h4 : 0 ≤ b.lo) (h5 : b.lo ≤ b.hi) (h6 : b.hi < 64) : sSome a b 64 = sOv a b := by
  rw [Bool.eq_iff_iff, s_ov_iff]
  unfold sSome
  rw [List.any_eq_true]
  constructor
  · rintro ⟨k, _, h⟩
    simp only [Bool.and_eq_true, decide_eq_true_iff] at h
    omega
  · intro h
    refine ⟨(max a.lo b.lo).toNat, List.mem_range.2 (by omega), ?_⟩
    simp only [Bool.and_eq_true, decide_eq_true_iff]
    omega

/-! ### What a key has -/
/-- One of the first k covers the block alone; in some mode; whatever its mode. -/
def sOwnK (l : List HoldM) (key block : Int) (k : Nat) : Bool := sCov (l.take k) key block 2
def sOn (l : List HoldM) (key block : Int) : Bool := l.any fun h => (h.key == key) && (decide (h.s.lo ≤ block) && decide (block ≤ h.s.hi))
theorem s_on_take {l : List HoldM} {key block : Int} {k : Nat} (hk : k < l.length) : sOn (l.take (k + 1)) key block = (sOn (l.take k) key block || ((l[k].key == key) && (decide (l[k].s.lo ≤ block) && decide (block ≤ l[k].s.hi)))) := by
  unfold sOn
  rw [List.take_succ_eq_append_getElem hk, List.any_append]
  simp
theorem s_on_tou (l : List HoldM) (key block : Int) : sTou l key ⟨block, block⟩ = sOn l key block := by
  unfold sTou sOn
  congr 1
  funext h
  congr 1
  rw [Bool.eq_iff_iff, s_ov_iff, Bool.and_eq_true, decide_eq_true_iff, decide_eq_true_iff]
  simp only
  omega

end Go.Proofs.Ytphkhgokdnfepaa
