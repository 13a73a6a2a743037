/-
  Holds in memory: rows of four cells each; arguments opened: a span, a hold by value, a row of holds.
-/
import Derived.Test.YtjknloaolennoaaJoinTabLen
import Derived.Test.YtjknloaolennoaaMem
import Derived.Lib.SmallJoins
import Derived.Deep.Slices
import Derived.Deep.Fields
import Derived.ChangeSame
import Derived.OpenShut
namespace Go.Proofs.Ytjknloaolennoaa
open Go.Joins Go.ChangeShapes Go.WideShapes Go.RowKit Go.Deep
set_option linter.unusedVariables false
set_option linter.unusedSimpArgs false

def holV (l : List HoldM) : List Value := l.flatMap fun h => [Value.int .i64 h.key, Value.int .i64 h.s.lo, Value.int .i64 h.s.hi, Value.int .i8 h.m]
theorem holV_length (l : List HoldM) : (holV l).length = l.length * 4 := by
  induction l with
  | nil => rfl
  | cons c r ih => simp [holV] at ih ⊢; omega
theorem holV_at (l : List HoldM) {k : Nat} (hk : k < l.length) : (holV l)[k * 4]? = some (.int .i64 (l[k]).key) ∧ (holV l)[k * 4 + 1]? = some (.int .i64 (l[k]).s.lo) ∧ (holV l)[k * 4 + 2]? = some (.int .i64 (l[k]).s.hi) ∧ (holV l)[k * 4 + 3]? = some (.int .i8 (l[k]).m) := by
  induction l generalizing k with
  | nil => simp at hk
  | cons c r ih =>
    have e : holV (c :: r) = .int .i64 c.key :: .int .i64 c.s.lo :: .int .i64 c.s.hi :: .int .i8 c.m :: holV r := rfl
    rw [e]
    cases k with
    | zero => exact ⟨rfl, rfl, rfl, rfl⟩
    | succ k =>
      have h := ih (k := k) (by simpa using hk)
      rw [show (k + 1) * 4 = k * 4 + 4 by omega]
      exact h
theorem holV_append (l m : List HoldM) : holV (l ++ m) = holV l ++ holV m := by simp [holV]
theorem holV_one (l : List HoldM) : ∀ u ∈ holV l, u.oneCell' = true := fun u hu => by
  obtain ⟨c, _, hc⟩ := List.mem_flatMap.1 hu
  simp at hc
  rcases hc with rfl | rfl | rfl | rfl <;> rfl
theorem holV_take (l : List HoldM) (k : Nat) : (holV l).take (k * 4) = holV (l.take k) := by
  induction l generalizing k with
  | nil => simp [holV]
  | cons c r ih =>
    have e : holV (c :: r) = .int .i64 c.key :: .int .i64 c.s.lo :: .int .i64 c.s.hi :: .int .i8 c.m :: holV r := rfl
    cases k with
    | zero => simp [holV]
    | succ k =>
      rw [e, show (k + 1) * 4 = k * 4 + 4 by omega, List.take_succ_cons, List.take_succ_cons, List.take_succ_cons, List.take_succ_cons, ih]
      rfl
/-- A row of holds. -/
def LiesH (w : World) (B : Nat) (A : Option Addr) (n : Nat) (l : List HoldM) : Prop := l.length = n ∧ Lies w B A (n * 4) (holV l)
theorem LiesH.nothing {w : World} {B : Nat} : LiesH w B none 0 [] := ⟨rfl, Lies.nothing⟩
theorem hol_cells {w : World} {B n : Nat} {A : Option Addr} {l : List HoldM} (h : LiesH w B A n l) {k : Nat} (hk : k < n) (hkl : k < l.length) :
    ∃ p : Addr, A = some p ∧ p.block < B ∧ w.cell? (p.add (k * 4)) = some (.int .i64 (l[k]).key) ∧ w.cell? ⟨(p.add (k * 4)).block, (p.add (k * 4)).off + 1, none⟩ = some (.int .i64 (l[k]).s.lo) ∧
      w.cell? ⟨(p.add (k * 4)).block, (p.add (k * 4)).off + 2, none⟩ = some (.int .i64 (l[k]).s.hi) ∧ w.cell? ⟨(p.add (k * 4)).block, (p.add (k * 4)).off + 3, none⟩ = some (.int .i8 (l[k]).m) := by
  obtain ⟨p, e, hb, hc⟩ := h.2.2 (by omega)
  obtain ⟨h0, h1, h2, h3⟩ := holV_at l hkl
  have key : ∀ j : Nat, 0 < j → p.add (k * 4 + j) = ⟨(p.add (k * 4)).block, (p.add (k * 4)).off + j, none⟩ := fun j hj => by
    unfold Addr.add
    by_cases hz : k * 4 = 0
    · rw [if_pos hz, if_neg (by omega)]
      first | (simp; omega) | simp
    · rw [if_neg hz, if_neg (by omega)]
      first | (simp; omega) | simp
  refine ⟨p, e, hb, hc _ _ h0, ?_, ?_, ?_⟩
  · rw [← key 1 (by omega)]; exact hc _ _ h1
  · rw [← key 2 (by omega)]; exact hc _ _ h2
  · rw [← key 3 (by omega)]; exact hc _ _ h3
theorem LiesH.below {w w' : World} {A : Option Addr} {n : Nat} {l : List HoldM} (h : LiesH w w.heap.size A n l) (hb : Below w.heap.size w w') : LiesH w' w'.heap.size A n l := by
  refine ⟨h.1, h.2.1, fun hn => ?_⟩
  obtain ⟨p, e, hp, hc⟩ := h.2.2 hn
  refine ⟨p, e, Nat.lt_of_lt_of_le hp hb.size, fun j u hj => ?_⟩
  have := hc j u hj
  exact (hb.cell (World.block_lt_of_cell? w _ this)).trans this

/-- What is known of a span's numbers, of a hold's. -/
structure SpanBd (s : SpanM) : Prop where
  l0 : -9223372036854775808 ≤ s.lo
  l1 : s.lo ≤ 9223372036854775807
  h0 : -9223372036854775808 ≤ s.hi
  h1 : s.hi ≤ 9223372036854775807
structure HoldBd (h : HoldM) : Prop where
  s : SpanBd h.s
  k0 : -9223372036854775808 ≤ h.key
  k1 : h.key ≤ 9223372036854775807
  m0 : -128 ≤ h.m
  m1 : h.m ≤ 127
theorem wf_int {n : Int} (h : (Lit.int .i64 n).wf = true) : -9223372036854775808 ≤ n ∧ n ≤ 9223372036854775807 := by
  have h1 : IntKind.i64.min = -9223372036854775808 := rfl
  have h2 : IntKind.i64.max = 9223372036854775807 := rfl
  simp only [Lit.wf, Bool.and_eq_true, decide_eq_true_eq] at h
  omega
theorem wf_mode {n : Int} (h : (Lit.int .i8 n).wf = true) : -128 ≤ n ∧ n ≤ 127 := by
  have h1 : IntKind.i8.min = -128 := rfl
  have h2 : IntKind.i8.max = 127 := rfl
  simp only [Lit.wf, Bool.and_eq_true, decide_eq_true_eq] at h
  omega
/-- What the walk is told of a row of holds that came in. -/
def IsHolds (w : World) (a : Option Addr) (len cap : Nat) (l : List HoldM) : Prop := LiesH w w.heap.size a len l ∧ len ≤ maxLen ∧ len ≤ cap ∧ cap ≤ maxLen ∧ ∀ h ∈ l, HoldBd h

section
variable {H : Type} {enc : TypeId × Value → H} {w : World} {base : Nat} {spare : Nat → Bool} {held : Bool}
set_option maxRecDepth 100000 in
theorem open_span_cells {fuel : Nat} {cs : List Value} {y : DataW H × List MemPlace} (hcl : cs.length = 2) (h : DataW.trod enc Try.prog w base spare held fuel 34 cs = some y) :
    ∃ s : SpanM, SpanBd s ∧ cs = [.int .i64 s.lo, .int .i64 s.hi] := by
  have cI : Try.prog.cellsOf 3 = 1 := by kernel_rfl
  match cs, hcl with
  | [c0, c1], _ =>
    obtain ⟨xs, n, _, hx, _, hlen, hg⟩ := DataW.trod_struct Try.underlying34 h
    match xs, hlen with
    | [y0, y1], _ =>
      obtain ⟨a, ha, _, wa⟩ := DataW.trod_int Try.underlying3 (by simpa [cI] using hg 0 _ rfl)
      obtain ⟨b, hb, _, wb⟩ := DataW.trod_int Try.underlying3 (by simpa [cI] using hg 1 _ rfl)
      simp at ha hb
      exact ⟨⟨a, b⟩, ⟨(wf_int wa).1, (wf_int wa).2, (wf_int wb).1, (wf_int wb).2⟩, by rw [ha, hb]⟩
set_option maxRecDepth 100000 in
theorem open_hold_cells {fuel : Nat} {cs : List Value} {y : DataW H × List MemPlace} (hcl : cs.length = 4) (h : DataW.trod enc Try.prog w base spare held fuel 43 cs = some y) :
    ∃ x : HoldM, HoldBd x ∧ cs = [.int .i64 x.key, .int .i64 x.s.lo, .int .i64 x.s.hi, .int .i8 x.m] := by
  have cI : Try.prog.cellsOf 3 = 1 := by kernel_rfl
  have cS : Try.prog.cellsOf 34 = 2 := by kernel_rfl
  have cK : Try.prog.cellsOf 32 = 1 := by kernel_rfl
  match cs, hcl with
  | [c0, c1, c2, c3], _ =>
    obtain ⟨xs, n, _, hx, _, hlen, hg⟩ := DataW.trod_struct Try.underlying43 h
    match xs, hlen with
    | [y0, y1, y2], _ =>
      obtain ⟨k, hk, _, wk⟩ := DataW.trod_int Try.underlying3 (by simpa [cI] using hg 0 _ rfl)
      obtain ⟨s, hb, hs⟩ := open_span_cells rfl (by simpa [cI, cS] using hg 1 _ rfl)
      obtain ⟨m, hm, _, wm⟩ := DataW.trod_int Try.underlying32 (by simpa [cI, cS, cK] using hg 2 _ rfl)
      simp at hk hm hs
      exact ⟨⟨k, s, m⟩, ⟨hb, (wf_int wk).1, (wf_int wk).2, (wf_mode wm).1, (wf_mode wm).2⟩, by rw [hk, hm, hs.1, hs.2]⟩
set_option maxRecDepth 100000 in
theorem open_span {r : Reach} {b0 : Nat} {v : Value} {d : DataW H} {p : List MemPlace}
    (hv : Value.okWide Try.prog w r b0 34 v) (h : DataW.Trod enc Try.prog w base spare held 34 v d p) :
    ∃ s : SpanM, v = .agg #[.int .i64 s.lo, .int .i64 s.hi] ∧ SpanBd s := by
  obtain ⟨cs, rfl, hsz⟩ := okWide_struct Try.underlying34 hv
  obtain ⟨l⟩ := cs
  have hC : Try.prog.cellsOf 34 = 2 := by kernel_rfl
  obtain ⟨fuel, hf⟩ := h
  obtain ⟨s, hb, e⟩ := open_span_cells (hsz.trans hC) hf
  exact ⟨s, by rw [show l = _ from e], hb⟩
set_option maxRecDepth 100000 in
theorem open_hold {r : Reach} {b0 : Nat} {v : Value} {d : DataW H} {p : List MemPlace}
    (hv : Value.okWide Try.prog w r b0 43 v) (h : DataW.Trod enc Try.prog w base spare held 43 v d p) :
    ∃ x : HoldM, v = .agg #[.int .i64 x.key, .int .i64 x.s.lo, .int .i64 x.s.hi, .int .i8 x.m] ∧ HoldBd x := by
  obtain ⟨cs, rfl, hsz⟩ := okWide_struct Try.underlying43 hv
  obtain ⟨l⟩ := cs
  have hC : Try.prog.cellsOf 43 = 4 := by kernel_rfl
  obtain ⟨fuel, hf⟩ := h
  obtain ⟨x, hb, e⟩ := open_hold_cells (hsz.trans hC) hf
  exact ⟨x, by rw [show l = _ from e], hb⟩
set_option maxRecDepth 100000 in
theorem open_holds {r : Reach} {b0 : Nat} {v : Value} {d : DataW H} {p : List MemPlace}
    (hv : Value.okWide Try.prog w r b0 27 v) (h : DataW.Trod enc Try.prog w base spare held 27 v d p) :
    ∃ (a : Option Addr) (len cap : Nat) (l : List HoldM), v = .slice a len cap ∧ IsHolds w a len cap l := by
  obtain ⟨a, len, cap, rfl⟩ := okWide_slice Try.underlying27 hv
  obtain ⟨fuel, hf⟩ := h
  have hC : Try.prog.cellsOf 43 = 4 := by kernel_rfl
  rcases open_slice Try.underlying27 hf with ⟨hcs, _⟩ | ⟨x, l, c, m, n, D, Pl, hcs, _, hl, hm, hmm, _, hi⟩
  · simp [Value.cells] at hcs
    obtain ⟨rfl, rfl, rfl⟩ := hcs
    exact ⟨none, 0, 0, [], rfl, LiesH.nothing, Nat.zero_le _, Nat.zero_le _, Nat.zero_le _, fun h hh => by cases hh⟩
  · simp [Value.cells] at hcs
    obtain ⟨rfl, rfl, rfl⟩ := hcs
    have hle : len ≤ m := by
      rw [hmm]
      split <;> omega
    rw [hC] at hi
    have key : ∀ i, i < len → ∃ y : HoldM, (∀ (j : Nat) (u : Value), [Value.int .i64 y.key, Value.int .i64 y.s.lo, Value.int .i64 y.s.hi, Value.int .i8 y.m][j]? = some u → w.cell? (x.add (i * 4 + j)) = some u) ∧ HoldBd y := by
      intro i hil
      obtain ⟨cs, hc, ht⟩ := hi i (by omega)
      obtain ⟨_, hcl, hat⟩ := World.cells?_some hc
      obtain ⟨y, hb, rfl⟩ := open_hold_cells hcl ht
      refine ⟨y, fun j u hj => ?_, hb⟩
      have hj4 : j < 4 := by
        have := (List.getElem?_eq_some_iff.1 hj).1
        simpa using this
      have h2 := hat j hj4
      rw [add_add] at h2
      have e : [Value.int .i64 y.key, Value.int .i64 y.s.lo, Value.int .i64 y.s.hi, Value.int .i8 y.m][j]'(by simpa using hj4) = u := (List.getElem?_eq_some_iff.1 hj).2
      rw [h2, ← e]
      exact List.getElem?_eq_getElem _
    obtain ⟨F, hF⟩ := choose_lt key
    refine ⟨some x, len, cap, (List.range len).map F, rfl, ⟨by simp, by rw [holV_length]; simp, fun hn => ⟨x, rfl, ?_, fun j u hj => ?_⟩⟩, by omega, hl, hm, fun h hh => ?_⟩
    · have h1 := (hF 0 (by omega)).1 0 _ rfl
      have := World.block_lt_of_cell? w _ h1
      unfold Addr.add at this
      simpa using this
    · have hjl : j < len * 4 := by
        have := (List.getElem?_eq_some_iff.1 hj).1
        rw [holV_length] at this
        simpa using this
      have hi4 : j / 4 < len := by omega
      have hil : j / 4 < ((List.range len).map F).length := by simpa using hi4
      obtain ⟨h0, h1, h2, h3⟩ := holV_at ((List.range len).map F) hil
      have e : ((List.range len).map F)[j / 4] = F (j / 4) := by simp
      rw [e] at h0 h1 h2 h3
      have hr : j = j / 4 * 4 + j % 4 := by omega
      have hr4 : j % 4 < 4 := Nat.mod_lt _ (by decide)
      rw [hr]
      refine (hF (j / 4) hi4).1 (j % 4) u ?_
      rw [hr] at hj
      generalize j % 4 = q at *
      generalize j / 4 = i at *
      match q, hr4 with
      | 0, _ => rw [Nat.add_zero] at hj; rw [h0] at hj; simpa using hj
      | 1, _ => rw [h1] at hj; simpa using hj
      | 2, _ => rw [h2] at hj; simpa using hj
      | 3, _ => rw [h3] at hj; simpa using hj
    · obtain ⟨i, hi', rfl⟩ := List.mem_map.1 hh
      exact (hF i (List.mem_range.1 hi')).2
end

end Go.Proofs.Ytjknloaolennoaa
