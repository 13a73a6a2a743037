/-
  Devices in memory: how a device's slices lie; what keeps them; rows of sectors' numbers and bytes.
-/
import Derived.Test.YteighdlhonegpaaDevMath
import Derived.Test.YteighdlhonegpaaGeoBytes
namespace Go.Proofs.Yteighdlhonegpaa
open Go.RowKit
set_option linter.unusedVariables false
set_option linter.unusedSimpArgs false

/-- A cache's cells, two an element. -/
def celV (l : List Cel) : List Value := l.flatMap fun c => [Value.int .i64 c.1, Value.string c.2]
theorem celV_length (l : List Cel) : (celV l).length = l.length * 2 := by
  induction l with
  | nil => rfl
  | cons c r ih => simp [celV] at ih ⊢; omega
theorem celV_at (l : List Cel) {k : Nat} (hk : k < l.length) : (celV l)[k * 2]? = some (.int .i64 (l[k]).1) ∧ (celV l)[k * 2 + 1]? = some (.string (l[k]).2) := by
  induction l generalizing k with
  | nil => simp at hk
  | cons c r ih =>
    have e : celV (c :: r) = .int .i64 c.1 :: .string c.2 :: celV r := rfl
    rw [e]
    cases k with
    | zero => exact ⟨rfl, rfl⟩
    | succ k =>
      have h := ih (k := k) (by simpa using hk)
      rw [show (k + 1) * 2 = k * 2 + 1 + 1 by omega, show k * 2 + 1 + 1 + 1 = (k * 2 + 1) + 1 + 1 by omega]
      simpa using h
theorem celV_append (l m : List Cel) : celV (l ++ m) = celV l ++ celV m := by simp [celV]
theorem celV_one (l : List Cel) : ∀ u ∈ celV l, u.oneCell' = true := fun u hu => by
  obtain ⟨c, _, hc⟩ := List.mem_flatMap.1 hu
  simp at hc
  rcases hc with rfl | rfl <;> rfl
theorem celV_take (l : List Cel) (k : Nat) : (celV l).take (k * 2) = celV (l.take k) := by
  induction l generalizing k with
  | nil => simp [celV]
  | cons c r ih =>
    have e : celV (c :: r) = .int .i64 c.1 :: .string c.2 :: celV r := rfl
    cases k with
    | zero => simp [celV]
    | succ k => rw [e, show (k + 1) * 2 = k * 2 + 1 + 1 by omega, List.take_succ_cons, List.take_succ_cons, ih, List.take_succ_cons]; rfl
theorem celV_drop (l : List Cel) (k : Nat) : (celV l).drop (k * 2) = celV (l.drop k) := by
  induction l generalizing k with
  | nil => simp [celV]
  | cons c r ih =>
    have e : celV (c :: r) = .int .i64 c.1 :: .string c.2 :: celV r := rfl
    cases k with
    | zero => simp
    | succ k => rw [e, show (k + 1) * 2 = k * 2 + 1 + 1 by omega, List.drop_succ_cons, List.drop_succ_cons, ih, List.drop_succ_cons]

/-- A slice of texts, of numbers, of cells, of caches: it lies below block B. -/
def SlS (w : World) (B : Nat) (v : Value) (S : List ByteArray) : Prop := ∃ A c, v = .slice A S.length c ∧ S.length ≤ c ∧ c ≤ maxLen ∧ Lies w B A S.length (strV S)
def SlI (w : World) (B : Nat) (v : Value) (l : List Int) : Prop := ∃ A c, v = .slice A l.length c ∧ l.length ≤ c ∧ c ≤ maxLen ∧ Lies w B A l.length (l.map (Value.int .i64))
def SlC (w : World) (B : Nat) (v : Value) (l : List Cel) : Prop := ∃ A c, v = .slice A l.length c ∧ l.length ≤ c ∧ c ≤ maxLen ∧ Lies w B A (l.length * 2) (celV l)
def SlCC (w : World) (B : Nat) (v : Value) (C : List (List Cel)) : Prop := ∃ A c, v = .slice A C.length c ∧ C.length ≤ c ∧ c ≤ maxLen ∧
  ∃ f : Nat → Value, Lies w B A C.length ((List.range C.length).map f) ∧ ∀ i, i < C.length → SlC w B (f i) (C.getD i [])
def DevAt (w : World) (B : Nat) (v : Value) (D : Dev) : Prop := ∃ vS vC vK vF, v = .agg #[vS, vC, vK, .int .i64 D.n, vF] ∧ SlS w B vS D.S ∧ SlCC w B vC D.C ∧ SlI w B vK D.K ∧ SlI w B vF D.F

section
variable {w w' : World} {B B' : Nat} {v : Value}
theorem SlS.keep {S : List ByteArray} (h : SlS w B v S) (hk : ∀ p : Addr, p.block < B → w'.cell? p = w.cell? p) : SlS w' B v S := by
  obtain ⟨A, c, e, h1, h2, h3⟩ := h
  exact ⟨A, c, e, h1, h2, h3.keep hk⟩
theorem SlI.keep {l : List Int} (h : SlI w B v l) (hk : ∀ p : Addr, p.block < B → w'.cell? p = w.cell? p) : SlI w' B v l := by
  obtain ⟨A, c, e, h1, h2, h3⟩ := h
  exact ⟨A, c, e, h1, h2, h3.keep hk⟩
theorem SlC.keep {l : List Cel} (h : SlC w B v l) (hk : ∀ p : Addr, p.block < B → w'.cell? p = w.cell? p) : SlC w' B v l := by
  obtain ⟨A, c, e, h1, h2, h3⟩ := h
  exact ⟨A, c, e, h1, h2, h3.keep hk⟩
theorem SlCC.keep {C : List (List Cel)} (h : SlCC w B v C) (hk : ∀ p : Addr, p.block < B → w'.cell? p = w.cell? p) : SlCC w' B v C := by
  obtain ⟨A, c, e, h1, h2, f, h3, h4⟩ := h
  exact ⟨A, c, e, h1, h2, f, h3.keep hk, fun i hi => (h4 i hi).keep hk⟩
theorem DevAt.keep {D : Dev} (h : DevAt w B v D) (hk : ∀ p : Addr, p.block < B → w'.cell? p = w.cell? p) : DevAt w' B v D := by
  obtain ⟨vS, vC, vK, vF, e, h1, h2, h3, h4⟩ := h
  exact ⟨vS, vC, vK, vF, e, h1.keep hk, h2.keep hk, h3.keep hk, h4.keep hk⟩
theorem SlS.more {S : List ByteArray} (h : SlS w B v S) (hB : B ≤ B') : SlS w B' v S := by
  obtain ⟨A, c, e, h1, h2, h3⟩ := h
  exact ⟨A, c, e, h1, h2, h3.more hB⟩
theorem SlI.more {l : List Int} (h : SlI w B v l) (hB : B ≤ B') : SlI w B' v l := by
  obtain ⟨A, c, e, h1, h2, h3⟩ := h
  exact ⟨A, c, e, h1, h2, h3.more hB⟩
theorem SlC.more {l : List Cel} (h : SlC w B v l) (hB : B ≤ B') : SlC w B' v l := by
  obtain ⟨A, c, e, h1, h2, h3⟩ := h
  exact ⟨A, c, e, h1, h2, h3.more hB⟩
theorem SlCC.more {C : List (List Cel)} (h : SlCC w B v C) (hB : B ≤ B') : SlCC w B' v C := by
  obtain ⟨A, c, e, h1, h2, f, h3, h4⟩ := h
  exact ⟨A, c, e, h1, h2, f, h3.more hB, fun i hi => (h4 i hi).more hB⟩
theorem DevAt.more {D : Dev} (h : DevAt w B v D) (hB : B ≤ B') : DevAt w B' v D := by
  obtain ⟨vS, vC, vK, vF, e, h1, h2, h3, h4⟩ := h
  exact ⟨vS, vC, vK, vF, e, h1.more hB, h2.more hB, h3.more hB, h4.more hB⟩
/-- Behind a call that leaves old memory as it was. -/
theorem DevAt.up {D : Dev} (h : DevAt w w.heap.size v D) (hb : Below w.heap.size w w') : DevAt w' w'.heap.size v D := (h.keep fun _ hp => hb.cell hp).more hb.size
theorem SlS.up {S : List ByteArray} (h : SlS w w.heap.size v S) (hb : Below w.heap.size w w') : SlS w' w'.heap.size v S := (h.keep fun _ hp => hb.cell hp).more hb.size
theorem SlI.up {l : List Int} (h : SlI w w.heap.size v l) (hb : Below w.heap.size w w') : SlI w' w'.heap.size v l := (h.keep fun _ hp => hb.cell hp).more hb.size
theorem SlC.up {l : List Cel} (h : SlC w w.heap.size v l) (hb : Below w.heap.size w w') : SlC w' w'.heap.size v l := (h.keep fun _ hp => hb.cell hp).more hb.size
theorem SlCC.up {C : List (List Cel)} (h : SlCC w w.heap.size v C) (hb : Below w.heap.size w w') : SlCC w' w'.heap.size v C := (h.keep fun _ hp => hb.cell hp).more hb.size
end
theorem lies_up {w w' : World} {A : Option Addr} {n : Nat} {xs : List Value} (h : Lies w w.heap.size A n xs) (hb : Below w.heap.size w w') : Lies w' w'.heap.size A n xs := (h.keep fun _ hp => hb.cell hp).more hb.size
theorem below_alloc (w : World) (o : Obj) : Below w.heap.size w (w.alloc o) := (Below.refl _ _).alloc (Nat.le_refl _) o

/-- An element of a cache. -/
theorem cel_at {w : World} {B n : Nat} {A : Option Addr} {l : List Cel} (h : Lies w B A (n * 2) (celV l)) (hn : l.length = n) {k : Nat} (hk : k < n) :
    ∃ ad : Addr, A = some ad ∧ ad.block < B ∧ w.cell? (ad.add (k * 2)) = some (.int .i64 (l[k]'(by omega)).1) ∧ w.cell? (ad.add (k * 2 + 1)) = some (.string (l[k]'(by omega)).2) := by
  obtain ⟨ad, e, hb, hc⟩ := h.2 (by omega)
  have h2 := celV_at l (k := k) (by omega)
  exact ⟨ad, e, hb, hc _ _ h2.1, hc _ _ h2.2⟩

end Go.Proofs.Yteighdlhonegpaa
