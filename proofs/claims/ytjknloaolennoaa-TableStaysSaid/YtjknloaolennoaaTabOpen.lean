/-
  Arguments opened: a table by value (its three slices), a row of commands.
-/
import Derived.Test.YtjknloaolennoaaTabAt
import Derived.Test.YtjknloaolennoaaCmdRow
namespace Go.Proofs.Ytjknloaolennoaa
open Go.Joins Go.ChangeShapes Go.WideShapes Go.RowKit Go.Deep
set_option linter.unusedVariables false
set_option linter.unusedSimpArgs false

/-- What is known of a table that came in. -/
structure TabBd (t : TabM) : Prop where
  h : ∀ x ∈ t.ho, HoldBd x
  q : ∀ x ∈ t.qu, HoldBd x

section
variable {H : Type} {enc : TypeId × Value → H} {w : World} {base : Nat} {spare : Nat → Bool} {held : Bool}
set_option maxRecDepth 100000 in
theorem open_holds_cells {fuel : Nat} {cs : List Value} {y : DataW H × List MemPlace} (hf : DataW.trod enc Try.prog w base spare held fuel 27 cs = some y) :
    ∃ (a : Option Addr) (len cap : Nat) (l : List HoldM), cs = [.slice a len cap] ∧ IsHolds w a len cap l ∧ (a = none → cap = 0) := by
  have hC : Try.prog.cellsOf 43 = 4 := by kernel_rfl
  rcases open_slice Try.underlying27 hf with ⟨hcs, _⟩ | ⟨x, len, cap, m, n, D, Pl, hcs, _, hl, hm, hmm, _, hi⟩
  · exact ⟨none, 0, 0, [], hcs, ⟨LiesH.nothing, Nat.zero_le _, Nat.zero_le _, Nat.zero_le _, fun h hh => by cases hh⟩, fun _ => rfl⟩
  · have hle : len ≤ m := by
      rw [hmm]
      split <;> omega
    rw [hC] at hi
    have key : ∀ i, i < len → ∃ y : HoldM, (∀ (j : Nat) (u : Value), [Value.int .i64 y.key, Value.int .i64 y.s.lo, Value.int .i64 y.s.hi, Value.int .i8 y.m][j]? = some u → w.cell? (x.add (i * 4 + j)) = some u) ∧ HoldBd y := by
      intro i hil
      obtain ⟨cs, hc, ht⟩ := hi i (by omega)
      obtain ⟨_, hcl, hat⟩ := World.cells?_some hc
      obtain ⟨y, hb, rfl⟩ := open_hold_cells hcl ht
      refine ⟨y, fun j u hj => ?_, hb⟩
      have hj4 : j < 4 := by
        have := (List.getElem?_eq_some_iff.1 hj).1
        simpa using this
      have h2 := hat j hj4
      rw [add_add] at h2
      rw [h2]
      exact hj
    obtain ⟨F, hF⟩ := choose_lt key
    refine ⟨some x, len, cap, (List.range len).map F, hcs, ⟨⟨by simp, by rw [holV_length]; simp, fun hn => ⟨x, rfl, ?_, fun j u hj => ?_⟩⟩, by omega, hl, hm, fun h hh => ?_⟩, fun h => by cases h⟩
    · have h1 := (hF 0 (by omega)).1 0 _ rfl
      have := World.block_lt_of_cell? w _ h1
      unfold Addr.add at this
      simpa using this
    · have hjl : j < len * 4 := by
        have := (List.getElem?_eq_some_iff.1 hj).1
        rw [holV_length] at this
        simpa using this
      have hq : j / 4 < len := by omega
      have hj2 := (hF (j / 4) hq).1 (j % 4) u
      rw [show j / 4 * 4 + j % 4 = j by omega] at hj2
      apply hj2
      obtain ⟨g0, g1, g2, g3⟩ := holV_at ((List.range len).map F) (k := j / 4) (by simpa using hq)
      have h4 : j % 4 = 0 ∨ j % 4 = 1 ∨ j % 4 = 2 ∨ j % 4 = 3 := by omega
      have e : ((List.range len).map F)[j / 4]'(by simpa using hq) = F (j / 4) := by simp
      rw [e] at g0 g1 g2 g3
      rcases h4 with h4 | h4 | h4 | h4
      · rw [h4]; rw [show j / 4 * 4 = j by omega, hj] at g0; exact g0.symm
      · rw [h4]; rw [show j / 4 * 4 + 1 = j by omega, hj] at g1; exact g1.symm
      · rw [h4]; rw [show j / 4 * 4 + 2 = j by omega, hj] at g2; exact g2.symm
      · rw [h4]; rw [show j / 4 * 4 + 3 = j by omega, hj] at g3; exact g3.symm
    · obtain ⟨i, hi, rfl⟩ := List.mem_map.1 hh
      exact (hF i (List.mem_range.1 hi)).2
set_option maxRecDepth 100000 in
theorem open_slot_cells {fuel : Nat} {cs : List Value} {y : DataW H × List MemPlace} (hcl : cs.length = 2) (h : DataW.trod enc Try.prog w base spare held fuel 48 cs = some y) :
    ∃ s : SlotM, cs = [.int .i64 s.key, .int .i64 s.claim] := by
  have cI : Try.prog.cellsOf 3 = 1 := by kernel_rfl
  match cs, hcl with
  | [c0, c1], _ =>
    obtain ⟨xs, n, _, hx, _, hlen, hg⟩ := DataW.trod_struct Try.underlying48 h
    match xs, hlen with
    | [y0, y1], _ =>
      obtain ⟨a, ha, _, wa⟩ := DataW.trod_int Try.underlying3 (by simpa [cI] using hg 0 _ rfl)
      obtain ⟨b, hb, _, wb⟩ := DataW.trod_int Try.underlying3 (by simpa [cI] using hg 1 _ rfl)
      simp at ha hb
      exact ⟨⟨a, b⟩, by rw [ha, hb]⟩
set_option maxRecDepth 100000 in
theorem open_slots_cells {fuel : Nat} {cs : List Value} {y : DataW H × List MemPlace} (hf : DataW.trod enc Try.prog w base spare held fuel 26 cs = some y) :
    ∃ (a : Option Addr) (len cap : Nat) (l : List SlotM), cs = [.slice a len cap] ∧ LiesS w w.heap.size a len l ∧ len ≤ cap ∧ cap ≤ maxLen ∧ (a = none → cap = 0) := by
  have hC : Try.prog.cellsOf 48 = 2 := by kernel_rfl
  rcases open_slice Try.underlying26 hf with ⟨hcs, _⟩ | ⟨x, len, cap, m, n, D, Pl, hcs, _, hl, hm, hmm, _, hi⟩
  · exact ⟨none, 0, 0, [], hcs, ⟨rfl, Lies.nothing⟩, Nat.zero_le _, Nat.zero_le _, fun _ => rfl⟩
  · have hle : len ≤ m := by
      rw [hmm]
      split <;> omega
    rw [hC] at hi
    have key : ∀ i, i < len → ∃ y : SlotM, ∀ (j : Nat) (u : Value), [Value.int .i64 y.key, Value.int .i64 y.claim][j]? = some u → w.cell? (x.add (i * 2 + j)) = some u := by
      intro i hil
      obtain ⟨cs, hc, ht⟩ := hi i (by omega)
      obtain ⟨_, hcl, hat⟩ := World.cells?_some hc
      obtain ⟨y, rfl⟩ := open_slot_cells hcl ht
      refine ⟨y, fun j u hj => ?_⟩
      have hj2 : j < 2 := by
        have := (List.getElem?_eq_some_iff.1 hj).1
        simpa using this
      have h2 := hat j hj2
      rw [add_add] at h2
      rw [h2]
      exact hj
    obtain ⟨F, hF⟩ := choose_lt key
    refine ⟨some x, len, cap, (List.range len).map F, hcs, ⟨by simp, by rw [sloV_length]; simp, fun hn => ⟨x, rfl, ?_, fun j u hj => ?_⟩⟩, hl, hm, fun h => by cases h⟩
    · have h1 := hF 0 (by omega) 0 _ rfl
      have := World.block_lt_of_cell? w _ h1
      unfold Addr.add at this
      simpa using this
    · have hjl : j < len * 2 := by
        have := (List.getElem?_eq_some_iff.1 hj).1
        rw [sloV_length] at this
        simpa using this
      have hq : j / 2 < len := by omega
      have hj2 := hF (j / 2) hq (j % 2) u
      rw [show j / 2 * 2 + j % 2 = j by omega] at hj2
      apply hj2
      obtain ⟨g0, g1⟩ := sloV_at ((List.range len).map F) (k := j / 2) (by simpa using hq)
      have h4 : j % 2 = 0 ∨ j % 2 = 1 := by omega
      have e : ((List.range len).map F)[j / 2]'(by simpa using hq) = F (j / 2) := by simp
      rw [e] at g0 g1
      rcases h4 with h4 | h4
      · rw [h4]; rw [show j / 2 * 2 = j by omega, hj] at g0; exact g0.symm
      · rw [h4]; rw [show j / 2 * 2 + 1 = j by omega, hj] at g1; exact g1.symm
set_option maxRecDepth 100000 in
theorem open_table {r : Reach} {b0 : Nat} {v : Value} {d : DataW H} {p : List MemPlace}
    (hv : Value.okWide Try.prog w r b0 29 v) (h : DataW.Trod enc Try.prog w base spare held 29 v d p) :
    ∃ t : TabM, TabAt w v t ∧ TabBd t := by
  obtain ⟨cs, rfl, hsz⟩ := okWide_struct Try.underlying29 hv
  obtain ⟨l⟩ := cs
  have hC : Try.prog.cellsOf 29 = 3 := by kernel_rfl
  have cS : Try.prog.cellsOf 26 = 1 := by kernel_rfl
  have cH : Try.prog.cellsOf 27 = 1 := by kernel_rfl
  obtain ⟨fuel, hf⟩ := h
  have hlen : l.length = 3 := hsz.trans hC
  match l, hlen with
  | [c0, c1, c2], _ =>
    obtain ⟨xs, n, _, hx, _, hlen, hg⟩ := DataW.trod_struct Try.underlying29 hf
    match xs, hlen with
    | [y0, y1, y2], _ =>
      obtain ⟨aS, nS, kS, lS, eS, hS, hS1, hS2, hS3⟩ := open_slots_cells (by simpa [cS, cH] using hg 0 _ rfl)
      obtain ⟨aH, nH, kH, lH, eH, ⟨hH, _, hH1, hH2, bH⟩, hH3⟩ := open_holds_cells (by simpa [cS, cH] using hg 1 _ rfl)
      obtain ⟨aQ, nQ, kQ, lQ, eQ, ⟨hQ, _, hQ1, hQ2, bQ⟩, hQ3⟩ := open_holds_cells (by simpa [cS, cH] using hg 2 _ rfl)
      injection eS with eS
      injection eH with eH
      injection eQ with eQ
      subst eS eH eQ
      obtain rfl := hS.1
      obtain rfl := hH.1
      obtain rfl := hQ.1
      exact ⟨⟨lS, lH, lQ⟩, ⟨_, _, _, rfl, ⟨_, _, rfl, hS, hS1, hS2, hS3⟩, ⟨_, _, rfl, hH, hH1, hH2, hH3⟩, ⟨_, _, rfl, hQ, hQ1, hQ2, hQ3⟩⟩, ⟨bH, bQ⟩⟩
end

end Go.Proofs.Ytjknloaolennoaa
