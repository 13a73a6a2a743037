/-
  A table in a variable, its rows anywhere: what stays where a cell of a variable of slices is written.
-/
import Derived.Test.YtjknloaolennoaaTabAt
namespace Go.Proofs.Ytjknloaolennoaa
open Go.RowKit
set_option linter.unusedVariables false
set_option linter.unusedSimpArgs false

theorem Lies.set_other {w : World} {B n : Nat} {A : Option Addr} {xs : List Value} (h : Lies w B A n xs) {a : Addr} {old : Value} (ho : w.cell? a = some old) (hne : old ∉ xs) (u : Value) : Lies (w.setCell a u) B A n xs := by
  refine ⟨h.1, fun hn => ?_⟩
  obtain ⟨p, e, hp, hc⟩ := h.2 hn
  refine ⟨p, e, hp, fun j v hj => ?_⟩
  have h1 := hc j v hj
  rw [World.cell?_setCell_other w _ _ u ?_]
  · exact h1
  · rintro rfl
    rw [h1] at ho
    injection ho with ho
    exact hne (ho ▸ List.mem_of_getElem? hj)
theorem no_slice_hol (l : List HoldM) (A : Option Addr) (n c : Nat) : Value.slice A n c ∉ holV l := by
  intro h
  obtain ⟨x, _, hx⟩ := List.mem_flatMap.1 h
  simp at hx
theorem no_slice_slo (l : List SlotM) (A : Option Addr) (n c : Nat) : Value.slice A n c ∉ sloV l := by
  intro h
  obtain ⟨x, _, hx⟩ := List.mem_flatMap.1 h
  simp at hx
section
variable {w : World} {v u : Value} {o i : Nat} {A : Option Addr} {n c : Nat}
theorem HolAt.set {l : List HoldM} (h : HolAt w v l) (hc : w.cell? ⟨o, i, none⟩ = some (.slice A n c)) (u : Value) : HolAt (w.setCell ⟨o, i, none⟩ u) v l := by
  obtain ⟨B, k, e, h1, h2⟩ := h
  refine ⟨B, k, e, ⟨h1.1, ?_⟩, h2⟩
  have := h1.2.set_other hc (no_slice_hol l A n c) u
  simpa [World.setCell] using this
theorem SloAt.set {l : List SlotM} (h : SloAt w v l) (hc : w.cell? ⟨o, i, none⟩ = some (.slice A n c)) (u : Value) : SloAt (w.setCell ⟨o, i, none⟩ u) v l := by
  obtain ⟨B, k, e, h1, h2⟩ := h
  refine ⟨B, k, e, ⟨h1.1, ?_⟩, h2⟩
  have := h1.2.set_other hc (no_slice_slo l A n c) u
  simpa [World.setCell] using this
theorem TabAt.set {t : TabM} (h : TabAt w v t) (hc : w.cell? ⟨o, i, none⟩ = some (.slice A n c)) (u : Value) : TabAt (w.setCell ⟨o, i, none⟩ u) v t := by
  obtain ⟨vS, vH, vQ, e, h1, h2, h3⟩ := h
  exact ⟨vS, vH, vQ, e, h1.set hc u, h2.set hc u, h3.set hc u⟩
end
theorem tgeo_cells {w : World} {q : Nat} {a b c d e f g h : Int} {T : TypeId} (p : Blk w q #[.int .i64 a, .int .i64 b, .int .i64 c, .int .i64 d, .int .i64 e, .int .i64 f, .int .i64 g, .int .i64 h] T) :
    w.cell? ⟨q, 0, none⟩ = some (.int .i64 a) ∧ w.cell? ⟨q, 1, none⟩ = some (.int .i64 b) ∧ w.cell? ⟨q, 2, none⟩ = some (.int .i64 c) ∧ w.cell? ⟨q, 3, none⟩ = some (.int .i64 d) ∧ w.cell? ⟨q, 4, none⟩ = some (.int .i64 e) ∧ w.cell? ⟨q, 5, none⟩ = some (.int .i64 f) ∧ w.cell? ⟨q, 6, none⟩ = some (.int .i64 g) ∧ w.cell? ⟨q, 7, none⟩ = some (.int .i64 h) :=
  ⟨p.cell 0 _ rfl, p.cell 1 _ rfl, p.cell 2 _ rfl, p.cell 3 _ rfl, p.cell 4 _ rfl, p.cell 5 _ rfl, p.cell 6 _ rfl, p.cell 7 _ rfl⟩
theorem tcells {w : World} {q : Nat} {a b c : Value} {T : TypeId} (p : Blk w q #[a, b, c] T) : w.cell? ⟨q, 0, none⟩ = some a ∧ w.cell? ⟨q, 1, none⟩ = some b ∧ w.cell? ⟨q, 2, none⟩ = some c :=
  ⟨p.cell 0 _ rfl, p.cell 1 _ rfl, p.cell 2 _ rfl⟩
/-- A table's slices. -/
theorem TabAt.shape {w : World} {v : Value} {t : TabM} (h : TabAt w v t) : ∃ aS cS aH cH aQ cQ, v = .agg #[.slice aS t.sl.length cS, .slice aH t.ho.length cH, .slice aQ t.qu.length cQ] := by
  obtain ⟨vS, vH, vQ, e, ⟨aS, cS, e1, _⟩, ⟨aH, cH, e2, _⟩, ⟨aQ, cQ, e3, _⟩⟩ := h
  subst e1 e2 e3
  exact ⟨aS, cS, aH, cH, aQ, cQ, e⟩
/-- A table is stored into a variable that holds one. -/
def into3 (w : World) (o : Nat) (a b c : Value) : World := ((w.setCell ⟨o, 0, none⟩ a).setCell ⟨o, 1, none⟩ b).setCell ⟨o, 2, none⟩ c
section
variable {w : World} {o : Nat} {A1 A2 A3 : Option Addr} {n1 n2 n3 c1 c2 c3 : Nat} {B1 B2 B3 : Option Addr} {m1 m2 m3 d1 d2 d3 : Nat} {T : TypeId}
theorem into3_self (k : Blk w o #[.slice A1 n1 c1, .slice A2 n2 c2, .slice A3 n3 c3] T) (a b c : Value) : Blk (into3 w o a b c) o #[a, b, c] T := ((k.set 0 a).set 1 b).set 2 c
theorem into3_tab (k : Blk w o #[.slice A1 n1 c1, .slice A2 n2 c2, .slice A3 n3 c3] T) {v : Value} {t : TabM} (h : TabAt w v t) : TabAt (into3 w o (.slice B1 m1 d1) (.slice B2 m2 d2) (.slice B3 m3 d3)) v t := by
  have h1 := h.set (k.cell 0 _ rfl) (.slice B1 m1 d1)
  have k1 := k.set 0 (.slice B1 m1 d1)
  have h2 := h1.set (k1.cell 1 _ rfl) (.slice B2 m2 d2)
  have k2 := k1.set 1 (.slice B2 m2 d2)
  exact h2.set (k2.cell 2 _ rfl) (.slice B3 m3 d3)
theorem into3_other {b : Nat} {cs : Array Value} {U : TypeId} (h : Blk w b cs U) (hne : b ≠ o) (x y z : Value) : Blk (into3 w o x y z) b cs U := ((h.other hne 0 x).other hne 1 y).other hne 2 z
theorem into3_below {B : Nat} {w0 : World} (h : Below B w0 w) (ho : B ≤ o) (x y z : Value) : Below B w0 (into3 w o x y z) := ((h.setCell (by simpa using ho) x).setCell (by simpa using ho) y).setCell (by simpa using ho) z
end

end Go.Proofs.Ytjknloaolennoaa
