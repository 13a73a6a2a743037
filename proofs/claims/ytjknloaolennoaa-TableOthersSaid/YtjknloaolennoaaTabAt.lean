/-
  Tables in memory: rows of slots (two cells each), of holds (four each); a table's three slices.
-/
import Derived.Test.YtjknloaolennoaaJoinTabLen
import Derived.Test.YtjknloaolennoaaSpanAt
import Derived.Test.YtjknloaolennoaaOwnRows
namespace Go.Proofs.Ytjknloaolennoaa
open Go.Joins Go.ChangeShapes Go.WideShapes Go.RowKit Go.Deep
set_option linter.unusedVariables false
set_option linter.unusedSimpArgs false

def sloV (l : List SlotM) : List Value := l.flatMap fun x => [Value.int .i64 x.key, Value.int .i64 x.claim]
theorem sloV_length (l : List SlotM) : (sloV l).length = l.length * 2 := by
  induction l with
  | nil => rfl
  | cons c r ih => simp [sloV] at ih ⊢; omega
theorem sloV_at (l : List SlotM) {k : Nat} (hk : k < l.length) : (sloV l)[k * 2]? = some (.int .i64 (l[k]).key) ∧ (sloV l)[k * 2 + 1]? = some (.int .i64 (l[k]).claim) := by
  induction l generalizing k with
  | nil => simp at hk
  | cons c r ih =>
    have e : sloV (c :: r) = .int .i64 c.key :: .int .i64 c.claim :: sloV r := rfl
    rw [e]
    cases k with
    | zero => exact ⟨rfl, rfl⟩
    | succ k =>
      have h := ih (k := k) (by simpa using hk)
      rw [show (k + 1) * 2 = k * 2 + 2 by omega]
      exact h
theorem sloV_append (l m : List SlotM) : sloV (l ++ m) = sloV l ++ sloV m := by simp [sloV]
theorem sloV_one (l : List SlotM) : ∀ u ∈ sloV l, u.oneCell' = true := fun u hu => by
  obtain ⟨c, _, hc⟩ := List.mem_flatMap.1 hu
  simp at hc
  rcases hc with rfl | rfl <;> rfl
/-- A row of slots. -/
def LiesS (w : World) (B : Nat) (A : Option Addr) (n : Nat) (l : List SlotM) : Prop := l.length = n ∧ Lies w B A (n * 2) (sloV l)
theorem LiesS.below {w w' : World} {A : Option Addr} {n : Nat} {l : List SlotM} (h : LiesS w w.heap.size A n l) (hb : Below w.heap.size w w') : LiesS w' w'.heap.size A n l := by
  refine ⟨h.1, h.2.1, fun hn => ?_⟩
  obtain ⟨p, e, hp, hc⟩ := h.2.2 hn
  refine ⟨p, e, Nat.lt_of_lt_of_le hp hb.size, fun j u hj => ?_⟩
  have := hc j u hj
  exact (hb.cell (World.block_lt_of_cell? w _ this)).trans this
theorem slo_cells {w : World} {B n : Nat} {A : Option Addr} {l : List SlotM} (h : LiesS w B A n l) {k : Nat} (hk : k < n) (hkl : k < l.length) :
    ∃ p : Addr, A = some p ∧ p.block < B ∧ w.cell? (p.add (k * 2)) = some (.int .i64 (l[k]).key) ∧ w.cell? ⟨(p.add (k * 2)).block, (p.add (k * 2)).off + 1, none⟩ = some (.int .i64 (l[k]).claim) := by
  obtain ⟨p, e, hb, hc⟩ := h.2.2 (by omega)
  obtain ⟨h0, h1⟩ := sloV_at l hkl
  refine ⟨p, e, hb, hc _ _ h0, ?_⟩
  have key : p.add (k * 2 + 1) = ⟨(p.add (k * 2)).block, (p.add (k * 2)).off + 1, none⟩ := by
    unfold Addr.add
    by_cases hz : k * 2 = 0
    · rw [if_pos hz, if_neg (by omega)]
      first | (simp; omega) | simp
    · rw [if_neg hz, if_neg (by omega)]
      first | (simp; omega) | simp
  rw [← key]
  exact hc _ _ h1

/-- A row of holds, of slots, as a value. -/
def HolAt (w : World) (v : Value) (l : List HoldM) : Prop := ∃ A c, v = .slice A l.length c ∧ LiesH w w.heap.size A l.length l ∧ l.length ≤ c ∧ c ≤ maxLen ∧ (A = none → c = 0)
def SloAt (w : World) (v : Value) (l : List SlotM) : Prop := ∃ A c, v = .slice A l.length c ∧ LiesS w w.heap.size A l.length l ∧ l.length ≤ c ∧ c ≤ maxLen ∧ (A = none → c = 0)
theorem HolAt.below {w w' : World} {v : Value} {l : List HoldM} (h : HolAt w v l) (hb : Below w.heap.size w w') : HolAt w' v l := by
  obtain ⟨A, c, e, h1, h2⟩ := h
  exact ⟨A, c, e, h1.below hb, h2⟩
theorem SloAt.below {w w' : World} {v : Value} {l : List SlotM} (h : SloAt w v l) (hb : Below w.heap.size w w') : SloAt w' v l := by
  obtain ⟨A, c, e, h1, h2⟩ := h
  exact ⟨A, c, e, h1.below hb, h2⟩
theorem HolAt.nothing (w : World) : HolAt w (.slice none 0 0) [] := ⟨none, 0, rfl, LiesH.nothing, Nat.le_refl _, Nat.zero_le _, fun _ => rfl⟩
theorem SloAt.nothing (w : World) : SloAt w (.slice none 0 0) [] := ⟨none, 0, rfl, ⟨rfl, Lies.nothing⟩, Nat.le_refl _, Nat.zero_le _, fun _ => rfl⟩
/-- A row of a call's own is one. -/
theorem HolAt.own {w : World} {B n : Nat} {e : TypeId} {v : Value} {l : List HoldM} (h : w.ownsRow B e 4 v n (holV l)) (hl : l.length = n) : HolAt w v l := by
  subst hl
  have h0 := h
  rcases h.2 with ⟨rfl, hn⟩ | ⟨g, cap, cur, rfl, _, hh, h1, h2, _⟩
  · obtain rfl : l = [] := List.eq_nil_of_length_eq_zero hn
    exact HolAt.nothing w
  · exact ⟨some ⟨g, 0, none⟩, cap, rfl, ⟨rfl, ow_lies h0⟩, h1, h2, fun h => by cases h⟩
theorem SloAt.own {w : World} {B n : Nat} {e : TypeId} {v : Value} {l : List SlotM} (h : w.ownsRow B e 2 v n (sloV l)) (hl : l.length = n) : SloAt w v l := by
  subst hl
  have h0 := h
  rcases h.2 with ⟨rfl, hn⟩ | ⟨g, cap, cur, rfl, _, hh, h1, h2, _⟩
  · obtain rfl : l = [] := List.eq_nil_of_length_eq_zero hn
    exact SloAt.nothing w
  · exact ⟨some ⟨g, 0, none⟩, cap, rfl, ⟨rfl, ow_lies h0⟩, h1, h2, fun h => by cases h⟩
/-- A table as a value. -/
def TabAt (w : World) (v : Value) (t : TabM) : Prop := ∃ vS vH vQ, v = .agg #[vS, vH, vQ] ∧ SloAt w vS t.sl ∧ HolAt w vH t.ho ∧ HolAt w vQ t.qu
theorem TabAt.below {w w' : World} {v : Value} {t : TabM} (h : TabAt w v t) (hb : Below w.heap.size w w') : TabAt w' v t := by
  obtain ⟨vS, vH, vQ, e, h1, h2, h3⟩ := h
  exact ⟨vS, vH, vQ, e, h1.below hb, h2.below hb, h3.below hb⟩
/-- As long as it may be handled. -/
def TabSm (t : TabM) : Prop := t.sl.length ≤ 1099511627776 ∧ t.ho.length ≤ 1099511627776 ∧ t.qu.length ≤ 1099511627776
/-- A small one. -/
def TabLt (t : TabM) : Prop := t.sl.length ≤ 1000 ∧ t.ho.length ≤ 1000 ∧ t.qu.length ≤ 1000
theorem TabLt.sm {t : TabM} (h : TabLt t) : TabSm t := ⟨by have := h.1; omega, by have := h.2.1; omega, by have := h.2.2; omega⟩

end Go.Proofs.Ytjknloaolennoaa
