/-
  Numbers as bytes, as plain mathematics: no program is named here.
-/
import Derived.WalkKit
namespace Go.Proofs.YtjdacpnfgpdjhaaDoor
open Go.RowKit
set_option linter.unusedVariables false
set_option linter.unusedSimpArgs false

/-- The bytes of a number, the lowest first. -/
def enc : Nat → Int → List Int
  | 0, _ => []
  | k + 1, x => x % 256 :: enc k (x / 256)
/-- The number that bytes make, the lowest first. -/
def dec : List Int → Int
  | [] => 0
  | b :: r => b + 256 * dec r
/-- The greatest number of a width. -/
def mostOf (w : Int) : Int := if w = 1 then 255 else if w = 2 then 65535 else if w = 3 then 16777215 else if w = 4 then 4294967295 else if w = 5 then 1099511627775 else 1099511627776
/-- Is there such a width? -/
def mayB (w : Int) : Bool := decide (1 ≤ w) && decide (w ≤ 6)
/-- Is n a number of width w? -/
def fitsB (w n : Int) : Bool := mayB w && (decide (0 ≤ n) && decide (n ≤ mostOf w))
/-- Bytes, each of them below 256. -/
def IsBytes (l : List Int) : Prop := ∀ b ∈ l, 0 ≤ b ∧ b < 256

theorem mayB_yes {w : Int} (h1 : 1 ≤ w) (h2 : w ≤ 6) : mayB w = true := by simp [mayB, h1, h2]
theorem mayB_no {w : Int} (h : w < 1 ∨ 6 < w) : mayB w = false := by
  rcases h with h | h <;> simp [mayB] <;> omega
theorem of_mayB {w : Int} (h : mayB w = true) : 1 ≤ w ∧ w ≤ 6 := by simpa [mayB] using h
theorem not_mayB {w : Int} (h : mayB w = false) : w < 1 ∨ 6 < w := by
  simp only [mayB, Bool.and_eq_false_iff, decide_eq_false_iff_not] at h; omega
theorem fitsB_yes {w n : Int} (h1 : 1 ≤ w) (h2 : w ≤ 6) (h3 : 0 ≤ n) (h4 : n ≤ mostOf w) : fitsB w n = true := by simp [fitsB, mayB, h1, h2, h3, h4]
theorem of_fitsB {w n : Int} (h : fitsB w n = true) : (1 ≤ w ∧ w ≤ 6) ∧ 0 ≤ n ∧ n ≤ mostOf w := by simpa [fitsB, mayB] using h
theorem fitsB_no_width {w n : Int} (h : mayB w = false) : fitsB w n = false := by simp [fitsB, h]

theorem width_cases {w : Int} (h1 : 1 ≤ w) (h2 : w ≤ 6) : w = 1 ∨ w = 2 ∨ w = 3 ∨ w = 4 ∨ w = 5 ∨ w = 6 := by omega

theorem mostOf_le {w : Int} : mostOf w ≤ 1099511627776 := by
  unfold mostOf
  repeat' split
  all_goals omega

theorem mostOf_pow {w : Int} (h1 : 1 ≤ w) (h2 : w ≤ 6) : mostOf w < 256 ^ w.toNat := by
  rcases width_cases h1 h2 with rfl | rfl | rfl | rfl | rfl | rfl <;> decide

/-- A number that the bytes of a width make fits where it is at most MaxNumber. -/
theorem le_mostOf {w n : Int} (h1 : 1 ≤ w) (h2 : w ≤ 6) (hn : n < 256 ^ w.toNat) (hm : n ≤ 1099511627776) : n ≤ mostOf w := by
  rcases width_cases h1 h2 with rfl | rfl | rfl | rfl | rfl | rfl <;> simp [mostOf] at * <;> omega

/-- 256 to the k-th, behind a name. -/
def pw (k : Nat) : Int := 256 ^ k
theorem pw_zero : pw 0 = 1 := rfl
theorem pw_succ (k : Nat) : pw (k + 1) = pw k * 256 := by simp [pw, Int.pow_succ]
theorem pw_pos (k : Nat) : 1 ≤ pw k := by
  induction k with
  | zero => decide
  | succ k ih => rw [pw_succ]; omega
theorem pw_le {k : Nat} (h : k ≤ 6) : pw k ≤ 281474976710656 := by
  have : k = 0 ∨ k = 1 ∨ k = 2 ∨ k = 3 ∨ k = 4 ∨ k = 5 ∨ k = 6 := by omega
  rcases this with rfl | rfl | rfl | rfl | rfl | rfl | rfl <;> decide
theorem min_pw {w : Int} (h1 : 1 ≤ w) (h2 : w ≤ 6) : mostOf w = if pw w.toNat - 1 ≤ 1099511627776 then pw w.toNat - 1 else 1099511627776 := by
  rcases width_cases h1 h2 with rfl | rfl | rfl | rfl | rfl | rfl <;> decide

theorem enc_length (k : Nat) (x : Int) : (enc k x).length = k := by
  induction k generalizing x with
  | zero => rfl
  | succ k ih => simp [enc, ih]

theorem enc_bytes (k : Nat) (x : Int) : IsBytes (enc k x) := by
  induction k generalizing x with
  | zero => intro b hb; simp [enc] at hb
  | succ k ih =>
    intro b hb
    simp only [enc, List.mem_cons] at hb
    rcases hb with rfl | hb
    · omega
    · exact ih _ b hb

theorem enc_snoc (k : Nat) (x : Int) : enc (k + 1) x = enc k x ++ [x / 256 ^ k % 256] := by
  induction k generalizing x with
  | zero => simp [enc]
  | succ k ih =>
    have h := ih (x / 256)
    rw [show enc (k + 1 + 1) x = x % 256 :: enc (k + 1) (x / 256) from rfl, h, show enc (k + 1) x = x % 256 :: enc k (x / 256) from rfl]
    have e : x / 256 / 256 ^ k = x / 256 ^ (k + 1) := by
      rw [Int.pow_succ, Int.mul_comm]
      exact Int.ediv_ediv_of_nonneg (by omega)
    rw [e]; rfl

theorem pw_step (x : Int) (k : Nat) : x / pw k / 256 = x / pw (k + 1) := by
  rw [pw_succ]
  exact Int.ediv_ediv_of_nonneg (by have := pw_pos k; omega)
theorem enc_succ (x : Int) (k : Nat) : enc (k + 1) x = enc k x ++ [x / pw k % 256] := enc_snoc k x

theorem dec_snoc (l : List Int) (b : Int) : dec (l ++ [b]) = dec l + b * 256 ^ l.length := by
  induction l with
  | nil => simp [dec]
  | cons a l ih =>
    simp only [List.cons_append, dec, ih, List.length_cons]
    rw [Int.pow_succ, Int.mul_add, Int.add_assoc]
    congr 2
    rw [Int.mul_left_comm, Int.mul_comm 256]

theorem dec_bd {l : List Int} (h : IsBytes l) : 0 ≤ dec l ∧ dec l < 256 ^ l.length := by
  induction l with
  | nil => simp [dec]
  | cons a l ih =>
    have h1 := h a (by simp)
    have h2 := ih (fun b hb => h b (by simp [hb]))
    simp only [dec, List.length_cons, Int.pow_succ]
    omega

theorem dec_enc (k : Nat) (x : Int) (h0 : 0 ≤ x) (h : x < 256 ^ k) : dec (enc k x) = x := by
  induction k generalizing x with
  | zero => simp at h; simp [enc, dec]; omega
  | succ k ih =>
    have h1 : x / 256 < 256 ^ k := by rw [Int.pow_succ] at h; omega
    simp only [enc, dec, ih (x / 256) (by omega) h1]
    omega

theorem enc_dec {l : List Int} (h : IsBytes l) : enc l.length (dec l) = l := by
  induction l with
  | nil => rfl
  | cons a l ih =>
    have h1 := h a (by simp)
    have h2 := ih (fun b hb => h b (by simp [hb]))
    simp only [dec, List.length_cons, enc]
    have e1 : (a + 256 * dec l) % 256 = a := by omega
    have e2 : (a + 256 * dec l) / 256 = dec l := by omega
    rw [e1, e2, h2]

/-- The bytes of many numbers. -/
def encs (w : Nat) (l : List Int) : List Int := l.flatMap (enc w)
theorem encs_length (w : Nat) (l : List Int) : (encs w l).length = w * l.length := by
  induction l with
  | nil => simp [encs]
  | cons a l ih =>
    have : encs w (a :: l) = enc w a ++ encs w l := by simp [encs]
    rw [this, List.length_append, ih, enc_length, List.length_cons, Nat.mul_succ]; omega
theorem encs_snoc (w : Nat) (l : List Int) (x : Int) : encs w (l ++ [x]) = encs w l ++ enc w x := by simp [encs]
theorem encs_append (w : Nat) (l m : List Int) : encs w (l ++ m) = encs w l ++ encs w m := by simp [encs]
theorem encs_bytes (w : Nat) (l : List Int) : IsBytes (encs w l) := by
  intro b hb
  simp only [encs, List.mem_flatMap] at hb
  obtain ⟨x, _, hx⟩ := hb
  exact enc_bytes _ _ b hx

/-- Number i of a row of numbers of width w. -/
def numAt (w : Nat) (s : List Int) (i : Nat) : Int := dec ((s.drop (i * w)).take w)
theorem numAt_encs (w : Nat) (l : List Int) (i : Nat) (hi : i < l.length) (rest ahead : List Int) (hx : 0 ≤ l[i] ∧ l[i] < 256 ^ w) :
    dec (((ahead ++ (encs w l ++ rest)).drop (ahead.length + i * w)).take w) = l[i] := by
  have e : l = l.take i ++ (l[i] :: l.drop (i + 1)) := by simp
  have e2 : encs w l = encs w (l.take i) ++ (enc w l[i] ++ encs w (l.drop (i + 1))) := by
    have e1 : encs w (l.take i ++ (l[i] :: l.drop (i + 1))) = encs w (l.take i) ++ (enc w l[i] ++ encs w (l.drop (i + 1))) := by simp only [encs, List.flatMap_append, List.flatMap_cons]
    rwa [← e] at e1
  rw [e2]
  have hl : (encs w (l.take i)).length = i * w := by rw [encs_length, List.length_take, Nat.min_eq_left (by omega), Nat.mul_comm]
  have e3 : ahead ++ (encs w (l.take i) ++ (enc w l[i] ++ encs w (l.drop (i + 1))) ++ rest) = (ahead ++ encs w (l.take i)) ++ (enc w l[i] ++ (encs w (l.drop (i + 1)) ++ rest)) := by simp
  rw [e3, List.drop_left' (by simp [hl]), List.take_left' (enc_length _ _)]
  exact dec_enc w _ hx.1 hx.2

end Go.Proofs.YtjdacpnfgpdjhaaDoor
