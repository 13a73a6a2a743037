/-
  An argument opened: a record of ballots by value.
-/
import Derived.Test.YtgllamjgagbblaaDoorAid
import Derived.Lib.SmallJoins
import Derived.Deep.Fields
import Derived.OpenShut
namespace Go.Proofs.YtgllamjgagbblaaDoor
open Go.Joins Go.ChangeShapes Go.WideShapes Go.RowKit Go.Deep
set_option linter.unusedVariables false
set_option linter.unusedSimpArgs false

/-- What is known of a record's numbers and its value. -/
def RecBd (i m b : Int) (s : ByteArray) : Prop := (Lit.int .i64 i).wf = true ∧ (Lit.int .i64 m).wf = true ∧ (Lit.int .i64 b).wf = true ∧ s.size ≤ maxLen

section
variable {H : Type} {enc : TypeId × Value → H} {w : World} {base : Nat} {spare : Nat → Bool} {held : Bool}
set_option maxRecDepth 100000 in
theorem open_rec {r : Reach} {b0 : Nat} {v : Value} {d : DataW H} {p : List MemPlace}
    (hv : Value.okWide Tryd.prog w r b0 24 v) (h : DataW.Trod enc Tryd.prog w base spare held 24 v d p) :
    ∃ (i m b : Int) (s : ByteArray), v = .agg #[.int .i64 i, .int .i64 m, .int .i64 b, .string s] ∧ RecBd i m b s := by
  obtain ⟨cs, rfl, hsz⟩ := okWide_struct Tryd.underlying24 hv
  obtain ⟨l⟩ := cs
  have hC : Tryd.prog.cellsOf 24 = 4 := by kernel_rfl
  match l, hsz.trans hC with
  | [c0, c1, c2, c3], _ =>
    obtain ⟨fuel, hf⟩ := h
    obtain ⟨xs, n, _, hx, _, hlen, hg⟩ := DataW.trod_struct Tryd.underlying24 hf
    have hone : Tryd.prog.cellsOf 3 = 1 := by kernel_rfl
    have hstr : Tryd.prog.cellsOf 9 = 1 := by kernel_rfl
    match xs, hlen with
    | [y0, y1, y2, y3], _ =>
      obtain ⟨n0, h0, _, w0⟩ := DataW.trod_int Tryd.underlying3 (by simpa [Value.cells, hone] using hg 0 _ rfl)
      obtain ⟨n1, h1, _, w1⟩ := DataW.trod_int Tryd.underlying3 (by simpa [Value.cells, hone] using hg 1 _ rfl)
      obtain ⟨n2, h2, _, w2⟩ := DataW.trod_int Tryd.underlying3 (by simpa [Value.cells, hone] using hg 2 _ rfl)
      obtain ⟨s3, h3, _, w3⟩ := DataW.trod_string Tryd.underlying9 (by simpa [Value.cells, hstr] using hg 3 _ rfl)
      simp at h0 h1 h2 h3
      exact ⟨n0, n1, n2, s3, by rw [h0, h1, h2, h3], w0, w1, w2, w3⟩
end

end Go.Proofs.YtgllamjgagbblaaDoor
