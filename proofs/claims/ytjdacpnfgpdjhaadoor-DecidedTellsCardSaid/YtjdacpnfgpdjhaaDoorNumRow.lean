/-
  num and its reference: rows of numbers, by contract.
-/
import Derived.Test.YtjdacpnfgpdjhaaDoorNumGet
import Derived.Test.YtjdacpnfgpdjhaaDoorNumPut
namespace Go.Proofs.YtjdacpnfgpdjhaaDoor
open Go.RowKit
set_option linter.unusedVariables false
set_option linter.unusedSimpArgs false

/-- The first k numbers of width X of some bytes. -/
def numK (s : List Int) (X k : Nat) : List Int := (List.range k).map fun i => dec ((s.drop (i * X)).take X)
theorem numK_length (s : List Int) (X k : Nat) : (numK s X k).length = k := by simp [numK]
theorem numK_zero (s : List Int) (X : Nat) : numK s X 0 = [] := rfl
theorem numK_succ (s : List Int) (X k : Nat) : numK s X (k + 1) = numK s X k ++ [dec ((s.drop (k * X)).take X)] := by simp [numK, List.range_succ]
/-- Are the bytes just numbers of that width? -/
def rowB (s : List Int) (x : Int) : Bool := decide (s.length % x.toNat = 0) && (numK s x.toNat (s.length / x.toNat)).all (fitsB x)

/-- What Row comes to. -/
def RowPost (s : List Int) (x : Int) (w : World) (e : Ending) (w' : World) : Prop :=
  Below w.heap.size w w' ∧ ((mayB x = false ∧ e = .returned (.tuple #[.slice none 0 0, .int .i64 2])) ∨
    (mayB x = true ∧ rowB s x = false ∧ e = .returned (.tuple #[.slice none 0 0, .int .i64 10])) ∨
    (mayB x = true ∧ rowB s x = true ∧ ∃ v, e = .returned (.tuple #[v, .int .i64 0]) ∧
      w'.ownsRow w.heap.size 3 1 v (s.length / x.toNat) ((numK s x.toNat (s.length / x.toNat)).map (Value.int .i64))))

theorem rowPost_width {s : List Int} {x : Int} {w w' : World} (h : mayB x = false) (hb : Below w.heap.size w w') : RowPost s x w (.returned (.tuple #[.slice none 0 0, .int .i64 2])) w' :=
  ⟨hb, .inl ⟨h, rfl⟩⟩
theorem rowPost_rest {s : List Int} {x : Int} {w w' : World} (hx : mayB x = true) (h : ¬ s.length % x.toNat = 0) (hb : Below w.heap.size w w') : RowPost s x w (.returned (.tuple #[.slice none 0 0, .int .i64 10])) w' :=
  ⟨hb, .inr (.inl ⟨hx, by simp [rowB, h], rfl⟩)⟩
theorem rowPost_great {s : List Int} {x : Int} {w w' : World} {k : Nat} (hx : mayB x = true) (hk : k < s.length / x.toNat) (h : fitsB x (dec ((s.drop (k * x.toNat)).take x.toNat)) = false) (hb : Below w.heap.size w w') :
    RowPost s x w (.returned (.tuple #[.slice none 0 0, .int .i64 10])) w' := by
  refine ⟨hb, .inr (.inl ⟨hx, ?_, rfl⟩)⟩
  rw [rowB, Bool.and_eq_false_iff]
  right
  rw [List.all_eq_false]
  refine ⟨dec ((s.drop (k * x.toNat)).take x.toNat), ?_, by simp [h]⟩
  simp only [numK, List.mem_map, List.mem_range]
  exact ⟨k, hk, rfl⟩
theorem rowPost_good {s : List Int} {x : Int} {w w' : World} {v : Value} {k : Nat} (hx : mayB x = true) (hk : s.length = k * x.toNat) (h : (numK s x.toNat k).all (fitsB x) = true) (hb : Below w.heap.size w w')
    (hown : w'.ownsRow w.heap.size 3 1 v k ((numK s x.toNat k).map (Value.int .i64))) : RowPost s x w (.returned (.tuple #[v, .int .i64 0])) w' := by
  obtain ⟨h1, h2⟩ := of_mayB hx
  have e1 : s.length % x.toNat = 0 := by rw [hk]; exact Nat.mul_mod_left _ _
  have e2 : s.length / x.toNat = k := by rw [hk]; exact Nat.mul_div_cancel _ (by omega)
  refine ⟨hb, .inr (.inr ⟨hx, ?_, v, rfl, ?_⟩)⟩
  · rw [rowB, e2, h, e1]; rfl
  · rw [e2]; exact hown

theorem numK_all_succ {s : List Int} {X k : Nat} {p : Int → Bool} (h : (numK s X k).all p = true) (hp : p (dec ((s.drop (k * X)).take X)) = true) : (numK s X (k + 1)).all p = true := by
  rw [numK_succ, List.all_append, h]
  simp [hp]


end Go.Proofs.YtjdacpnfgpdjhaaDoor
