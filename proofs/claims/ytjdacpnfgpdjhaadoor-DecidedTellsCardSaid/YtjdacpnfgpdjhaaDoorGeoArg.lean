/-
  An argument opened: a geometry by value.
-/
import Derived.Test.YtjdacpnfgpdjhaaDoorGeoMath
import Derived.Test.YtjdacpnfgpdjhaaDoorAid
import Derived.Lib.SmallJoins
import Derived.Deep.Fields
import Derived.OpenShut
namespace Go.Proofs.YtjdacpnfgpdjhaaDoor
open Go.Joins Go.ChangeShapes Go.WideShapes Go.RowKit Go.Deep
set_option linter.unusedVariables false
set_option linter.unusedSimpArgs false

section
variable {H : Type} {enc : TypeId × Value → H} {w : World} {base : Nat} {spare : Nat → Bool} {held : Bool}
set_option maxRecDepth 100000 in
theorem open_geo {r : Reach} {b0 : Nat} {v : Value} {d : DataW H} {p : List MemPlace}
    (hv : Value.okWide Tryd.prog w r b0 43 v) (h : DataW.Trod enc Tryd.prog w base spare held 43 v d p) :
    ∃ g : G, v = .agg #[.int .i64 g.N, .int .i64 g.S, .int .i64 g.B, .int .i64 g.P, .int .i64 g.J, .int .i64 g.L, .int .i64 g.E, .int .i64 g.T] := by
  obtain ⟨cs, rfl, hsz⟩ := okWide_struct Tryd.underlying43 hv
  obtain ⟨l⟩ := cs
  have hC : Tryd.prog.cellsOf 43 = 8 := by kernel_rfl
  match l, hsz.trans hC with
  | [c0, c1, c2, c3, c4, c5, c6, c7], _ =>
    obtain ⟨fuel, hf⟩ := h
    obtain ⟨xs, n, _, hx, _, hlen, hg⟩ := DataW.trod_struct Tryd.underlying43 hf
    have key : ∀ (c : Value) (y : DataW H × List MemPlace), DataW.trod enc Tryd.prog w base spare held n 3 [c] = some y → ∃ m : Int, c = .int .i64 m := fun c y hy => by
      obtain ⟨m, hm, _⟩ := DataW.trod_int Tryd.underlying3 hy
      exact ⟨m, by simpa using hm⟩
    have hone : Tryd.prog.cellsOf 3 = 1 := by kernel_rfl
    match xs, hlen with
    | [y0, y1, y2, y3, y4, y5, y6, y7], _ =>
      obtain ⟨n0, rfl⟩ := key c0 y0 (by simpa [Value.cells, hone] using hg 0 _ rfl)
      obtain ⟨n1, rfl⟩ := key c1 y1 (by simpa [Value.cells, hone] using hg 1 _ rfl)
      obtain ⟨n2, rfl⟩ := key c2 y2 (by simpa [Value.cells, hone] using hg 2 _ rfl)
      obtain ⟨n3, rfl⟩ := key c3 y3 (by simpa [Value.cells, hone] using hg 3 _ rfl)
      obtain ⟨n4, rfl⟩ := key c4 y4 (by simpa [Value.cells, hone] using hg 4 _ rfl)
      obtain ⟨n5, rfl⟩ := key c5 y5 (by simpa [Value.cells, hone] using hg 5 _ rfl)
      obtain ⟨n6, rfl⟩ := key c6 y6 (by simpa [Value.cells, hone] using hg 6 _ rfl)
      obtain ⟨n7, rfl⟩ := key c7 y7 (by simpa [Value.cells, hone] using hg 7 _ rfl)
      exact ⟨⟨n0, n1, n2, n3, n4, n5, n6, n7⟩, rfl⟩
end

end Go.Proofs.YtjdacpnfgpdjhaaDoor
