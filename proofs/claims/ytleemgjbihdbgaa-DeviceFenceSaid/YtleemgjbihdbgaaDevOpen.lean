/-
  An argument opened: a row of deeds.
-/
import Derived.Test.YtleemgjbihdbgaaJoinDevRefNew
import Derived.Deep.Slices
import Derived.Deep.Fields
import Derived.ChangeSame
import Derived.OpenShut
namespace Go.Proofs.Ytleemgjbihdbgaa
open Go.ChangeShapes Go.WideShapes Go.RowKit Go.Deep
set_option linter.unusedVariables false
set_option linter.unusedSimpArgs false

instance : Inhabited DeedM := ⟨⟨0, 0, ⟨0, 0, ⟨#[]⟩, 0⟩, 0⟩⟩
/-- A deed's cells; its bounds. -/
def DeedAt (w : World) (p : Addr) (x : DeedM) : Prop :=
  w.cell? (p.add 0) = some (.int .i64 x.dk) ∧ w.cell? (p.add 1) = some (.int .i64 x.node) ∧ w.cell? (p.add 2) = some (.int .i8 x.a.k) ∧ w.cell? (p.add 3) = some (.int .i64 x.a.s) ∧ w.cell? (p.add 4) = some (.string x.a.b) ∧ w.cell? (p.add 5) = some (.int .i64 x.a.key) ∧ w.cell? (p.add 6) = some (.int .u64 (x.kept : Int))
structure DeedBd (x : DeedM) : Prop where
  a : ActBd x.a
  b : x.a.b.size ≤ maxLen
  kept : x.kept < 18446744073709551616
  d0 : -9223372036854775808 ≤ x.dk
  d1 : x.dk ≤ 9223372036854775807
  n0 : -9223372036854775808 ≤ x.node
  n1 : x.node ≤ 9223372036854775807
/-- What the walk is told of a row of deeds that came in. -/
def IsDeeds (w : World) (a : Option Addr) (len cap : Nat) (X : Nat → DeedM) : Prop :=
  (a = none ∧ len = 0 ∧ cap = 0) ∨
  ∃ p : Addr, a = some p ∧ len ≤ cap ∧ cap ≤ maxLen ∧ ∀ i, i < len → DeedAt w (p.add (i * 7)) (X i) ∧ DeedBd (X i)

theorem wf_i64 {n : Int} (h : (Lit.int .i64 n).wf = true) : -9223372036854775808 ≤ n ∧ n ≤ 9223372036854775807 := by
  have h1 : IntKind.i64.min = -9223372036854775808 := rfl
  have h2 : IntKind.i64.max = 9223372036854775807 := rfl
  simp only [Lit.wf, Bool.and_eq_true, decide_eq_true_eq] at h
  omega
theorem wf_i8 {n : Int} (h : (Lit.int .i8 n).wf = true) : -128 ≤ n ∧ n ≤ 127 := by
  have h1 : IntKind.i8.min = -128 := rfl
  have h2 : IntKind.i8.max = 127 := rfl
  simp only [Lit.wf, Bool.and_eq_true, decide_eq_true_eq] at h
  omega
theorem wf_u64 {n : Int} (h : (Lit.int .u64 n).wf = true) : 0 ≤ n ∧ n < 18446744073709551616 := by
  have h1 : IntKind.u64.min = 0 := rfl
  have h2 : IntKind.u64.max = 18446744073709551615 := rfl
  simp only [Lit.wf, Bool.and_eq_true, decide_eq_true_eq] at h
  omega

section
variable {H : Type} {enc : TypeId × Value → H} {w : World} {base : Nat} {spare : Nat → Bool} {held : Bool}
set_option maxRecDepth 100000 in
theorem open_deed {fuel : Nat} {cs : List Value} {y : DataW H × List MemPlace} (hcl : cs.length = 7) (h : DataW.trod enc Try.prog w base spare held fuel 41 cs = some y) :
    ∃ x : DeedM, DeedBd x ∧ cs = [.int .i64 x.dk, .int .i64 x.node, .int .i8 x.a.k, .int .i64 x.a.s, .string x.a.b, .int .i64 x.a.key, .int .u64 (x.kept : Int)] := by
  have cI : Try.prog.cellsOf 3 = 1 := by kernel_rfl
  have cA : Try.prog.cellsOf 38 = 4 := by kernel_rfl
  have cU : Try.prog.cellsOf 39 = 1 := by kernel_rfl
  have cS : Try.prog.cellsOf 9 = 1 := by kernel_rfl
  have cK : Try.prog.cellsOf 36 = 1 := by kernel_rfl
  match cs, hcl with
  | [c0, c1, c2, c3, c4, c5, c6], _ =>
    obtain ⟨xs, n, _, hx, _, hlen, hg⟩ := DataW.trod_struct Try.underlying41 h
    match xs, hlen with
    | [y0, y1, y2, y3], _ =>
      obtain ⟨d, hd, _, wd⟩ := DataW.trod_int Try.underlying3 (by simpa [cI] using hg 0 _ rfl)
      obtain ⟨nd, hn, _, wn⟩ := DataW.trod_int Try.underlying3 (by simpa [cI] using hg 1 _ rfl)
      obtain ⟨kp, hk, _, wk⟩ := DataW.trod_int Try.underlying39 (by simpa [cU] using hg 3 _ rfl)
      obtain ⟨zs, m, _, hz, _, hzl, hz2⟩ := DataW.trod_struct Try.underlying38 (by simpa [cA] using hg 2 _ rfl)
      match zs, hzl with
      | [z0, z1, z2, z3], _ =>
        obtain ⟨ak, ha0, _, wa0⟩ := DataW.trod_int Try.underlying36 (by simpa [cK] using hz2 0 _ rfl)
        obtain ⟨asx, ha1, _, wa1⟩ := DataW.trod_int Try.underlying3 (by simpa [cI] using hz2 1 _ rfl)
        obtain ⟨ab, ha2, _, wa2⟩ := DataW.trod_string Try.underlying9 (by simpa [cS] using hz2 2 _ rfl)
        obtain ⟨ae, ha3, _, wa3⟩ := DataW.trod_int Try.underlying3 (by simpa [cI] using hz2 3 _ rfl)
        obtain ⟨kn, rfl⟩ := Int.eq_ofNat_of_zero_le (wf_u64 wk).1
        refine ⟨⟨d, nd, ⟨ak, asx, ab, ae⟩, kn⟩, ⟨⟨(wf_i8 wa0).1, (wf_i8 wa0).2, (wf_i64 wa1).1, (wf_i64 wa1).2, (wf_i64 wa3).1, (wf_i64 wa3).2⟩, wa2, by have := (wf_u64 wk).2; show kn < _; omega, (wf_i64 wd).1, (wf_i64 wd).2, (wf_i64 wn).1, (wf_i64 wn).2⟩, ?_⟩
        simp at hd hn hk ha0 ha1 ha2 ha3
        rw [hd, hn, hk, ha0, ha1, ha2, ha3]
set_option maxRecDepth 100000 in
theorem open_deeds {r : Reach} {b0 : Nat} {v : Value} {d : DataW H} {p : List MemPlace}
    (hv : Value.okWide Try.prog w r b0 23 v) (h : DataW.Trod enc Try.prog w base spare held 23 v d p) :
    ∃ (a : Option Addr) (len cap : Nat) (X : Nat → DeedM), v = .slice a len cap ∧ IsDeeds w a len cap X := by
  obtain ⟨a, len, cap, rfl⟩ := okWide_slice Try.underlying23 hv
  obtain ⟨fuel, hf⟩ := h
  have hC : Try.prog.cellsOf 41 = 7 := by kernel_rfl
  rcases open_slice Try.underlying23 hf with ⟨hcs, _⟩ | ⟨x, l, c, m, n, D, Pl, hcs, _, hl, hm, hmm, _, hi⟩
  · simp [Value.cells] at hcs
    obtain ⟨rfl, rfl, rfl⟩ := hcs
    exact ⟨none, 0, 0, fun _ => ⟨0, 0, ⟨0, 0, ⟨#[]⟩, 0⟩, 0⟩, rfl, .inl ⟨rfl, rfl, rfl⟩⟩
  · simp [Value.cells] at hcs
    obtain ⟨rfl, rfl, rfl⟩ := hcs
    have hle : len ≤ m := by
      rw [hmm]
      split <;> omega
    rw [hC] at hi
    have key : ∀ i, i < len → ∃ y : DeedM, DeedAt w (x.add (i * 7)) y ∧ DeedBd y := by
      intro i hil
      obtain ⟨cs, hc, ht⟩ := hi i (by omega)
      obtain ⟨_, hcl, hat⟩ := World.cells?_some hc
      obtain ⟨y, hb, rfl⟩ := open_deed hcl ht
      exact ⟨y, ⟨hat 0 (by omega), hat 1 (by omega), hat 2 (by omega), hat 3 (by omega), hat 4 (by omega), hat 5 (by omega), hat 6 (by omega)⟩, hb⟩
    obtain ⟨F, hF⟩ := choose_lt key
    exact ⟨some x, len, cap, F, rfl, .inr ⟨x, rfl, hl, hm, hF⟩⟩
end

end Go.Proofs.Ytleemgjbihdbgaa
