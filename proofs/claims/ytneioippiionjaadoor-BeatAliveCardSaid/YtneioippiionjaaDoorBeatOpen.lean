/-
  An argument opened: a row of looks (how much later, whether the node has beaten).
-/
import Derived.Test.YtneioippiionjaaDoorAid
import Derived.Deep.Slices
import Derived.Deep.Fields
import Derived.ChangeSame
import Derived.OpenShut
namespace Go.Proofs.YtneioippiionjaaDoor
open Go.ChangeShapes Go.WideShapes Go.RowKit Go.Deep
set_option linter.unusedVariables false
set_option linter.unusedSimpArgs false

/-- What the walk is told of a row of looks that came in. -/
def IsLooks (w : World) (a : Option Addr) (len cap : Nat) (L : Nat → Int) (B : Nat → Bool) : Prop :=
  (a = none ∧ len = 0 ∧ cap = 0) ∨
  ∃ x : Addr, a = some x ∧ len ≤ cap ∧ cap ≤ maxLen ∧ ∀ i, i < len → w.cell? (x.add (i * 2)) = some (.int .i64 (L i)) ∧ w.cell? (x.add (i * 2 + 1)) = some (.bool (B i))

section
variable {H : Type} {enc : TypeId × Value → H} {w : World} {base : Nat} {spare : Nat → Bool} {held : Bool}
set_option maxRecDepth 100000 in
theorem open_looks {r : Reach} {b0 : Nat} {v : Value} {d : DataW H} {p : List MemPlace}
    (hv : Value.okWide Tryd.prog w r b0 22 v) (h : DataW.Trod enc Tryd.prog w base spare held 22 v d p) :
    ∃ (a : Option Addr) (len cap : Nat) (L : Nat → Int) (B : Nat → Bool), v = .slice a len cap ∧ IsLooks w a len cap L B := by
  obtain ⟨a, len, cap, rfl⟩ := okWide_slice Tryd.underlying22 hv
  obtain ⟨fuel, hf⟩ := h
  have hC : Tryd.prog.cellsOf 29 = 2 := by kernel_rfl
  have hi1 : Tryd.prog.cellsOf 3 = 1 := by kernel_rfl
  have hb1 : Tryd.prog.cellsOf 4 = 1 := by kernel_rfl
  rcases open_slice Tryd.underlying22 hf with ⟨hcs, _⟩ | ⟨x, l, c, m, n, D, Pl, hcs, _, hl, hm, hmm, _, hi⟩
  · simp [Value.cells] at hcs
    obtain ⟨rfl, rfl, rfl⟩ := hcs
    exact ⟨none, 0, 0, fun _ => 0, fun _ => false, rfl, .inl ⟨rfl, rfl, rfl⟩⟩
  · simp [Value.cells] at hcs
    obtain ⟨rfl, rfl, rfl⟩ := hcs
    have hle : len ≤ m := by
      rw [hmm]
      split <;> omega
    rw [hC] at hi
    have key : ∀ i, i < len → ∃ y : Int × Bool, w.cell? (x.add (i * 2)) = some (.int .i64 y.1) ∧ w.cell? (x.add (i * 2 + 1)) = some (.bool y.2) := by
      intro i hil
      obtain ⟨cs, hc, ht⟩ := hi i (by omega)
      obtain ⟨_, hcl, hat⟩ := World.cells?_some hc
      obtain ⟨y0, y1, k, _, _, h0, h1⟩ := trod_struct2 Tryd.underlying29 ht
      match cs, hcl with
      | [c0, c1], _ =>
        rw [hi1] at h0
        rw [hb1] at h1
        obtain ⟨z, hz, _⟩ := DataW.trod_int Tryd.underlying3 h0
        obtain ⟨b, hb, _⟩ := DataW.trod_bool Tryd.underlying4 h1
        refine ⟨(z, b), ?_, ?_⟩
        · have e := hat 0 (by omega)
          rw [add_add] at e
          simp at hz e
          rw [e, hz]
        · have e := hat 1 (by omega)
          rw [add_add] at e
          simp at hb e
          rw [e, hb]
    obtain ⟨F, hF⟩ := choose_lt key
    exact ⟨some x, len, cap, fun i => (F i).1, fun i => (F i).2, rfl, .inr ⟨x, rfl, hl, hm, hF⟩⟩
end

end Go.Proofs.YtneioippiionjaaDoor
