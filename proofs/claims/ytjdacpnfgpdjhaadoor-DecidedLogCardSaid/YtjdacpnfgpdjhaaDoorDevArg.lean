/-
  Arguments opened: a device by value.
-/
import Derived.Test.YtjdacpnfgpdjhaaDoorJoinDevRefAll
import Derived.Lib.SmallJoins
import Derived.Deep.Slices
import Derived.Deep.Fields
import Derived.ChangeSame
import Derived.OpenShut
namespace Go.Proofs.YtjdacpnfgpdjhaaDoor
open Go.Joins Go.ChangeShapes Go.WideShapes Go.RowKit Go.Deep
set_option linter.unusedVariables false
set_option linter.unusedSimpArgs false

theorem wf_intD {n : Int} (h : (Lit.int .i64 n).wf = true) : IntD n := by
  have h1 : IntKind.i64.min = -9223372036854775808 := rfl
  have h2 : IntKind.i64.max = 9223372036854775807 := rfl
  simp only [Lit.wf, Bool.and_eq_true, decide_eq_true_eq] at h
  unfold IntD
  omega
/-- A row of cells of one number each, out of the cells one by one. -/
theorem lies_map {α : Type} {w : World} {x : Addr} {len : Nat} {F : Nat → α} {g : α → Value} (h : ∀ i, i < len → w.cell? (x.add i) = some (g (F i))) : Lies w w.heap.size (some x) len (((List.range len).map F).map g) := by
  refine ⟨by simp, fun hn => ⟨x, rfl, ?_, fun j u hj => ?_⟩⟩
  · have := World.block_lt_of_cell? w _ (h 0 hn)
    rwa [add_block] at this
  · have hjl : j < len := by
      have := (List.getElem?_eq_some_iff.1 hj).1
      simpa using this
    rw [h j hjl, ← hj]
    simp [hjl]

section
variable {H : Type} {enc : TypeId × Value → H} {w : World} {base : Nat} {spare : Nat → Bool} {held : Bool}
set_option maxRecDepth 100000 in
theorem open_strs_cells {fuel : Nat} {cs : List Value} {y : DataW H × List MemPlace} (hf : DataW.trod enc Tryd.prog w base spare held fuel 22 cs = some y) :
    ∃ v S, cs = [v] ∧ SlS w w.heap.size v S ∧ ∀ s ∈ S, s.size ≤ maxLen := by
  have hC : Tryd.prog.cellsOf 9 = 1 := by kernel_rfl
  rcases open_slice1 Tryd.underlying22 hC hf with ⟨hcs, _⟩ | ⟨x, len, cap, m, n, V, D, Pl, hcs, _, hl, hm, hmm, _, hi⟩
  · exact ⟨_, [], hcs, ⟨none, 0, rfl, Nat.le_refl _, Nat.zero_le _, Lies.nothing⟩, by simp⟩
  · have hle : len ≤ m := by
      rw [hmm]
      split <;> omega
    have key : ∀ i, i < len → ∃ s : ByteArray, w.cell? (x.add i) = some (.string s) ∧ s.size ≤ maxLen := by
      intro i hil
      obtain ⟨hc, ht⟩ := hi i (by omega)
      obtain ⟨s, hs, _, hb⟩ := DataW.trod_string Tryd.underlying9 ht
      injection hs with hs
      exact ⟨s, by rw [hc, hs], hb⟩
    obtain ⟨F, hF⟩ := choose_lt key
    refine ⟨_, (List.range len).map F, hcs, ⟨some x, cap, by simp, by simpa using hl, hm, ?_⟩, fun s hs => ?_⟩
    · have := lies_map (g := Value.string) fun i hi => (hF i hi).1
      simpa [strV] using this
    · obtain ⟨i, hi, rfl⟩ := List.mem_map.1 hs
      exact (hF i (List.mem_range.1 hi)).2
set_option maxRecDepth 100000 in
theorem open_ints_cells {fuel : Nat} {cs : List Value} {y : DataW H × List MemPlace} (hf : DataW.trod enc Tryd.prog w base spare held fuel 39 cs = some y) :
    ∃ v l, cs = [v] ∧ SlI w w.heap.size v l ∧ ∀ x ∈ l, IntD x := by
  have hC : Tryd.prog.cellsOf 3 = 1 := by kernel_rfl
  rcases open_slice1 Tryd.underlying39 hC hf with ⟨hcs, _⟩ | ⟨x, len, cap, m, n, V, D, Pl, hcs, _, hl, hm, hmm, _, hi⟩
  · exact ⟨_, [], hcs, ⟨none, 0, rfl, Nat.le_refl _, Nat.zero_le _, Lies.nothing⟩, by simp⟩
  · have hle : len ≤ m := by
      rw [hmm]
      split <;> omega
    have key : ∀ i, i < len → ∃ s : Int, w.cell? (x.add i) = some (.int .i64 s) ∧ IntD s := by
      intro i hil
      obtain ⟨hc, ht⟩ := hi i (by omega)
      obtain ⟨s, hs, _, hb⟩ := DataW.trod_int Tryd.underlying3 ht
      injection hs with hs
      exact ⟨s, by rw [hc, hs], wf_intD hb⟩
    obtain ⟨F, hF⟩ := choose_lt key
    refine ⟨_, (List.range len).map F, hcs, ⟨some x, cap, by simp, by simpa using hl, hm, ?_⟩, fun s hs => ?_⟩
    · have := lies_map (g := Value.int .i64) fun i hi => (hF i hi).1
      simpa using this
    · obtain ⟨i, hi, rfl⟩ := List.mem_map.1 hs
      exact (hF i (List.mem_range.1 hi)).2
set_option maxRecDepth 100000 in
theorem open_cel_cells {fuel : Nat} {cs : List Value} {y : DataW H × List MemPlace} (hcl : cs.length = 2) (h : DataW.trod enc Tryd.prog w base spare held fuel 118 cs = some y) :
    ∃ c : Cel, cs = [.int .i64 c.1, .string c.2] := by
  have cI : Tryd.prog.cellsOf 3 = 1 := by kernel_rfl
  have cS : Tryd.prog.cellsOf 9 = 1 := by kernel_rfl
  match cs, hcl with
  | [c0, c1], _ =>
    obtain ⟨xs, n, _, hx, _, hlen, hg⟩ := DataW.trod_struct Tryd.underlying118 h
    match xs, hlen with
    | [y0, y1], _ =>
      obtain ⟨a, ha, _, wa⟩ := DataW.trod_int Tryd.underlying3 (by simpa [cI] using hg 0 _ rfl)
      obtain ⟨b, hb, _, wb⟩ := DataW.trod_string Tryd.underlying9 (by simpa [cI, cS] using hg 1 _ rfl)
      simp at ha hb
      exact ⟨(a, b), by rw [ha, hb]⟩
set_option maxRecDepth 100000 in
theorem open_cels_cells {fuel : Nat} {cs : List Value} {y : DataW H × List MemPlace} (hf : DataW.trod enc Tryd.prog w base spare held fuel 97 cs = some y) :
    ∃ v l, cs = [v] ∧ SlC w w.heap.size v l := by
  have hC : Tryd.prog.cellsOf 118 = 2 := by kernel_rfl
  rcases open_slice Tryd.underlying97 hf with ⟨hcs, _⟩ | ⟨x, len, cap, m, n, D, Pl, hcs, _, hl, hm, hmm, _, hi⟩
  · exact ⟨_, [], hcs, ⟨none, 0, rfl, Nat.le_refl _, Nat.zero_le _, Lies.nothing⟩⟩
  · have hle : len ≤ m := by
      rw [hmm]
      split <;> omega
    rw [hC] at hi
    have key : ∀ i, i < len → ∃ y : Cel, ∀ (j : Nat) (u : Value), [Value.int .i64 y.1, Value.string y.2][j]? = some u → w.cell? (x.add (i * 2 + j)) = some u := by
      intro i hil
      obtain ⟨cs, hc, ht⟩ := hi i (by omega)
      obtain ⟨_, hcl, hat⟩ := World.cells?_some hc
      obtain ⟨y, rfl⟩ := open_cel_cells hcl ht
      refine ⟨y, fun j u hj => ?_⟩
      have hj2 : j < 2 := by
        have := (List.getElem?_eq_some_iff.1 hj).1
        simpa using this
      have h2 := hat j hj2
      rw [add_add] at h2
      rw [h2]
      exact hj
    obtain ⟨F, hF⟩ := choose_lt key
    refine ⟨_, (List.range len).map F, hcs, ⟨some x, cap, by simp, by simpa using hl, hm, by rw [celV_length], fun hn => ⟨x, rfl, ?_, fun j u hj => ?_⟩⟩⟩
    · have hl0 : 0 < len := by
        have : 0 < ((List.range len).map F).length * 2 := hn
        simp at this
        omega
      have h1 := hF 0 hl0 0 _ rfl
      have := World.block_lt_of_cell? w _ h1
      unfold Addr.add at this
      simpa using this
    · have hjl : j < len * 2 := by
        have := (List.getElem?_eq_some_iff.1 hj).1
        rw [celV_length] at this
        simpa using this
      have hq : j / 2 < len := by omega
      have hj2 := hF (j / 2) hq (j % 2) u
      rw [show j / 2 * 2 + j % 2 = j by omega] at hj2
      apply hj2
      obtain ⟨g0, g1⟩ := celV_at ((List.range len).map F) (k := j / 2) (by simpa using hq)
      have h4 : j % 2 = 0 ∨ j % 2 = 1 := by omega
      have e : ((List.range len).map F)[j / 2]'(by simpa using hq) = F (j / 2) := by simp
      rw [e] at g0 g1
      rcases h4 with h4 | h4
      · rw [h4]; rw [show j / 2 * 2 = j by omega, hj] at g0; exact g0.symm
      · rw [h4]; rw [show j / 2 * 2 + 1 = j by omega, hj] at g1; exact g1.symm
set_option maxRecDepth 100000 in
theorem open_caches_cells {fuel : Nat} {cs : List Value} {y : DataW H × List MemPlace} (hf : DataW.trod enc Tryd.prog w base spare held fuel 44 cs = some y) :
    ∃ v C, cs = [v] ∧ SlCC w w.heap.size v C := by
  have hC : Tryd.prog.cellsOf 97 = 1 := by kernel_rfl
  rcases open_slice1 Tryd.underlying44 hC hf with ⟨hcs, _⟩ | ⟨x, len, cap, m, n, V, D, Pl, hcs, _, hl, hm, hmm, _, hi⟩
  · exact ⟨_, [], hcs, ⟨none, 0, rfl, Nat.le_refl _, Nat.zero_le _, fun _ => .bool false, Lies.nothing, fun i hi => by simp at hi⟩⟩
  · have hle : len ≤ m := by
      rw [hmm]
      split <;> omega
    have key : ∀ i, i < len → ∃ z : Value × List Cel, w.cell? (x.add i) = some z.1 ∧ SlC w w.heap.size z.1 z.2 := by
      intro i hil
      obtain ⟨hc, ht⟩ := hi i (by omega)
      obtain ⟨v, l, hs, hb⟩ := open_cels_cells ht
      injection hs with hs
      exact ⟨(v, l), by rw [hc, hs], hb⟩
    obtain ⟨F, hF⟩ := choose_lt key
    have hlen : ((List.range len).map fun i => (F i).2).length = len := by simp
    refine ⟨_, (List.range len).map fun i => (F i).2, hcs, ⟨some x, cap, by rw [hlen], by rw [hlen]; exact hl, hm, fun i => (F i).1, ?_, fun i hi => ?_⟩⟩
    · rw [hlen]
      have := lies_map (w := w) (x := x) (len := len) (F := fun i => (F i).1) (g := id) fun i hi => (hF i hi).1
      simpa using this
    · rw [hlen] at hi
      have e : ((List.range len).map fun i => (F i).2).getD i [] = (F i).2 := by simp [List.getD, hi]
      rw [e]
      exact (hF i hi).2
set_option maxRecDepth 100000 in
theorem open_device {r : Reach} {b0 : Nat} {v : Value} {d : DataW H} {p : List MemPlace}
    (hv : Value.okWide Tryd.prog w r b0 46 v) (h : DataW.Trod enc Tryd.prog w base spare held 46 v d p) :
    ∃ D : Dev, DevAt w w.heap.size v D ∧ DevBd D ∧ ∀ s ∈ D.S, s.size ≤ maxLen := by
  obtain ⟨cs, rfl, hsz⟩ := okWide_struct Tryd.underlying46 hv
  obtain ⟨l⟩ := cs
  have hC : Tryd.prog.cellsOf 46 = 5 := by kernel_rfl
  have cS : Tryd.prog.cellsOf 22 = 1 := by kernel_rfl
  have cC : Tryd.prog.cellsOf 44 = 1 := by kernel_rfl
  have cI : Tryd.prog.cellsOf 39 = 1 := by kernel_rfl
  have cN : Tryd.prog.cellsOf 3 = 1 := by kernel_rfl
  obtain ⟨fuel, hf⟩ := h
  have hlen : l.length = 5 := hsz.trans hC
  match l, hlen with
  | [c0, c1, c2, c3, c4], _ =>
    obtain ⟨xs, n, _, hx, _, hlen, hg⟩ := DataW.trod_struct Tryd.underlying46 hf
    match xs, hlen with
    | [y0, y1, y2, y3, y4], _ =>
      obtain ⟨vS, S, eS, hS, bS⟩ := open_strs_cells (by simpa [cS, cC, cI, cN] using hg 0 _ rfl)
      obtain ⟨vC, C, eC, hCc⟩ := open_caches_cells (by simpa [cS, cC, cI, cN] using hg 1 _ rfl)
      obtain ⟨vK, K, eK, hK, bK⟩ := open_ints_cells (by simpa [cS, cC, cI, cN] using hg 2 _ rfl)
      obtain ⟨N, eN, _, wN⟩ := DataW.trod_int Tryd.underlying3 (by simpa [cS, cC, cI, cN] using hg 3 _ rfl)
      obtain ⟨vF, F, eF, hF, bF⟩ := open_ints_cells (by simpa [cS, cC, cI, cN] using hg 4 _ rfl)
      injection eS with eS
      injection eC with eC
      injection eK with eK
      injection eN with eN
      injection eF with eF
      subst eS eC eK eN eF
      exact ⟨⟨S, C, K, N, F⟩, ⟨_, _, _, _, rfl, hS, hCc, hK, hF⟩, ⟨bK, bF⟩, bS⟩
end

end Go.Proofs.YtjdacpnfgpdjhaaDoor
