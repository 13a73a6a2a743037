/-
  Commands as the program and the document hand them on: cells; a command by value opened.
-/
import Derived.Test.YtjdacpnfgpdjhaaDoorCmdMath
import Derived.Test.YtjdacpnfgpdjhaaDoorAid
import Derived.Lib.SmallJoins
import Derived.Deep.Slices
import Derived.Deep.Fields
import Derived.OpenShut
namespace Go.Proofs.YtjdacpnfgpdjhaaDoor
open Go.Joins Go.ChangeShapes Go.WideShapes Go.RowKit Go.Deep
set_option linter.unusedVariables false
set_option linter.unusedSimpArgs false

def cmdA (c : CmdM) : Array Value := #[.int .i8 c.kind, .int .i64 c.by_, .int .i64 c.serial, .int .i64 c.dead, .int .i64 c.was, .int .i64 c.lo, .int .i64 c.hi, .int .i8 c.mode]
def zeroC : CmdM := ⟨0, 0, 0, 0, 0, 0, 0, 0⟩
theorem cmd_cells {w : World} {q : Nat} {k b s d a lo hi m : Int} {T : TypeId} (p : Blk w q #[.int .i8 k, .int .i64 b, .int .i64 s, .int .i64 d, .int .i64 a, .int .i64 lo, .int .i64 hi, .int .i8 m] T) :
    w.cell? ⟨q, 0, none⟩ = some (.int .i8 k) ∧ w.cell? ⟨q, 1, none⟩ = some (.int .i64 b) ∧ w.cell? ⟨q, 2, none⟩ = some (.int .i64 s) ∧ w.cell? ⟨q, 3, none⟩ = some (.int .i64 d) ∧
    w.cell? ⟨q, 4, none⟩ = some (.int .i64 a) ∧ w.cell? ⟨q, 5, none⟩ = some (.int .i64 lo) ∧ w.cell? ⟨q, 6, none⟩ = some (.int .i64 hi) ∧ w.cell? ⟨q, 7, none⟩ = some (.int .i8 m) :=
  ⟨p.cell 0 _ rfl, p.cell 1 _ rfl, p.cell 2 _ rfl, p.cell 3 _ rfl, p.cell 4 _ rfl, p.cell 5 _ rfl, p.cell 6 _ rfl, p.cell 7 _ rfl⟩

/-- What is known of a command's numbers. -/
structure CmdBd (c : CmdM) : Prop where
  k0 : -128 ≤ c.kind
  k1 : c.kind ≤ 127
  m0 : -128 ≤ c.mode
  m1 : c.mode ≤ 127
  b0 : -9223372036854775808 ≤ c.by_
  b1 : c.by_ ≤ 9223372036854775807
theorem cwf_int {n : Int} (h : (Lit.int .i64 n).wf = true) : -9223372036854775808 ≤ n ∧ n ≤ 9223372036854775807 := by
  have h1 : IntKind.i64.min = -9223372036854775808 := rfl
  have h2 : IntKind.i64.max = 9223372036854775807 := rfl
  simp only [Lit.wf, Bool.and_eq_true, decide_eq_true_eq] at h
  omega
theorem cwf_mode {n : Int} (h : (Lit.int .i8 n).wf = true) : -128 ≤ n ∧ n ≤ 127 := by
  have h1 : IntKind.i8.min = -128 := rfl
  have h2 : IntKind.i8.max = 127 := rfl
  simp only [Lit.wf, Bool.and_eq_true, decide_eq_true_eq] at h
  omega

section
variable {H : Type} {enc : TypeId × Value → H} {w : World} {base : Nat} {spare : Nat → Bool} {held : Bool}
set_option maxRecDepth 100000 in
theorem open_cspan {fuel : Nat} {cs : List Value} {y : DataW H × List MemPlace} (hcl : cs.length = 2) (h : DataW.trod enc Tryd.prog w base spare held fuel 30 cs = some y) :
    ∃ a b : Int, cs = [.int .i64 a, .int .i64 b] := by
  have cI : Tryd.prog.cellsOf 3 = 1 := by kernel_rfl
  match cs, hcl with
  | [c0, c1], _ =>
    obtain ⟨xs, n, _, hx, _, hlen, hg⟩ := DataW.trod_struct Tryd.underlying30 h
    match xs, hlen with
    | [y0, y1], _ =>
      obtain ⟨a, ha, _, wa⟩ := DataW.trod_int Tryd.underlying3 (by simpa [cI] using hg 0 _ rfl)
      obtain ⟨b, hb, _, wb⟩ := DataW.trod_int Tryd.underlying3 (by simpa [cI] using hg 1 _ rfl)
      simp at ha hb
      exact ⟨a, b, by rw [ha, hb]⟩
set_option maxRecDepth 100000 in
theorem open_cmd_cells {fuel : Nat} {cs : List Value} {y : DataW H × List MemPlace} (hcl : cs.length = 8) (h : DataW.trod enc Tryd.prog w base spare held fuel 32 cs = some y) :
    ∃ c : CmdM, CmdBd c ∧ cs = (cmdA c).toList := by
  have cI : Tryd.prog.cellsOf 3 = 1 := by kernel_rfl
  have cS : Tryd.prog.cellsOf 30 = 2 := by kernel_rfl
  have cK : Tryd.prog.cellsOf 28 = 1 := by kernel_rfl
  match cs, hcl with
  | [c0, c1, c2, c3, c4, c5, c6, c7], _ =>
    obtain ⟨xs, n, _, hx, _, hlen, hg⟩ := DataW.trod_struct Tryd.underlying32 h
    match xs, hlen with
    | [y0, y1, y2, y3, y4, y5, y6], _ =>
      obtain ⟨k, hk, _, wk⟩ := DataW.trod_int Tryd.underlying28 (by simpa [cI, cK, cS] using hg 0 _ rfl)
      obtain ⟨b, hb, _, wb⟩ := DataW.trod_int Tryd.underlying3 (by simpa [cI, cK, cS] using hg 1 _ rfl)
      obtain ⟨s, hs, _, _⟩ := DataW.trod_int Tryd.underlying3 (by simpa [cI, cK, cS] using hg 2 _ rfl)
      obtain ⟨d, hd, _, _⟩ := DataW.trod_int Tryd.underlying3 (by simpa [cI, cK, cS] using hg 3 _ rfl)
      obtain ⟨a, ha, _, _⟩ := DataW.trod_int Tryd.underlying3 (by simpa [cI, cK, cS] using hg 4 _ rfl)
      obtain ⟨lo, hi, hl⟩ := open_cspan rfl (by simpa [cI, cK, cS] using hg 5 _ rfl)
      obtain ⟨m, hm, _, wm⟩ := DataW.trod_int Tryd.underlying28 (by simpa [cI, cK, cS] using hg 6 _ rfl)
      simp at hk hb hs hd ha hl hm
      exact ⟨⟨k, b, s, d, a, lo, hi, m⟩, ⟨(cwf_mode wk).1, (cwf_mode wk).2, (cwf_mode wm).1, (cwf_mode wm).2, (cwf_int wb).1, (cwf_int wb).2⟩, by rw [hk, hb, hs, hd, ha, hl.1, hl.2, hm]; rfl⟩
set_option maxRecDepth 100000 in
theorem open_cmd {r : Reach} {b0 : Nat} {v : Value} {d : DataW H} {p : List MemPlace}
    (hv : Value.okWide Tryd.prog w r b0 32 v) (h : DataW.Trod enc Tryd.prog w base spare held 32 v d p) :
    ∃ c : CmdM, v = .agg (cmdA c) ∧ CmdBd c := by
  obtain ⟨cs, rfl, hsz⟩ := okWide_struct Tryd.underlying32 hv
  obtain ⟨l⟩ := cs
  have hC : Tryd.prog.cellsOf 32 = 8 := by kernel_rfl
  obtain ⟨fuel, hf⟩ := h
  obtain ⟨c, hb, e⟩ := open_cmd_cells (hsz.trans hC) hf
  exact ⟨c, by rw [show l = _ from e], hb⟩
end

end Go.Proofs.YtjdacpnfgpdjhaaDoor
