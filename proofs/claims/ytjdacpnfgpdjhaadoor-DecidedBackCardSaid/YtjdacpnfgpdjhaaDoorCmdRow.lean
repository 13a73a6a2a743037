/-
  Rows of commands in memory (eight cells each); a row of commands that came in opened.
-/
import Derived.Test.YtjdacpnfgpdjhaaDoorCmdAt
import Derived.Test.YtjdacpnfgpdjhaaDoorMem
namespace Go.Proofs.YtjdacpnfgpdjhaaDoor
open Go.Joins Go.ChangeShapes Go.WideShapes Go.RowKit Go.Deep
set_option linter.unusedVariables false
set_option linter.unusedSimpArgs false

/-! ### Rows of commands -/
instance : Inhabited CmdM := ⟨⟨0, 0, 0, 0, 0, 0, 0, 0⟩⟩
def cmdV (l : List CmdM) : List Value := l.flatMap fun c => (cmdA c).toList
theorem cmdV_length (l : List CmdM) : (cmdV l).length = l.length * 8 := by
  induction l with
  | nil => rfl
  | cons c r ih => simp [cmdV, cmdA] at ih ⊢; omega
theorem cmdV_at (l : List CmdM) {k : Nat} (hk : k < l.length) (j : Nat) (hj : j < 8) : (cmdV l)[k * 8 + j]? = (cmdA l[k]).toList[j]? := by
  induction l generalizing k with
  | nil => simp at hk
  | cons c r ih =>
    have e : cmdV (c :: r) = (cmdA c).toList ++ cmdV r := rfl
    have h8 : (cmdA c).toList.length = 8 := rfl
    rw [e]
    cases k with
    | zero =>
      rw [Nat.zero_mul, Nat.zero_add, List.getElem?_append_left (by omega)]
      rfl
    | succ k =>
      rw [show (k + 1) * 8 + j = 8 + (k * 8 + j) by omega, List.getElem?_append_right (by omega), h8, Nat.add_sub_cancel_left]
      exact ih (by simpa using hk)
def LiesC (w : World) (B : Nat) (A : Option Addr) (n : Nat) (l : List CmdM) : Prop := l.length = n ∧ Lies w B A (n * 8) (cmdV l)
theorem LiesC.below {w w' : World} {A : Option Addr} {n : Nat} {l : List CmdM} (h : LiesC w w.heap.size A n l) (hb : Below w.heap.size w w') : LiesC w' w'.heap.size A n l := by
  refine ⟨h.1, h.2.1, fun hn => ?_⟩
  obtain ⟨p, e, hp, hc⟩ := h.2.2 hn
  refine ⟨p, e, Nat.lt_of_lt_of_le hp hb.size, fun j u hj => ?_⟩
  have := hc j u hj
  exact (hb.cell (World.block_lt_of_cell? w _ this)).trans this
theorem add_plus (p : Addr) (m j : Nat) (hj : 0 < j) : p.add (m + j) = ⟨(p.add m).block, (p.add m).off + j, none⟩ := by
  unfold Addr.add
  by_cases hz : m = 0
  · rw [if_pos hz, if_neg (by omega)]
    first | (simp; omega) | simp
  · rw [if_neg hz, if_neg (by omega)]
    first | (simp; omega) | simp
/-- A command of a row, cell by cell. -/
theorem cmd_at {w : World} {B n : Nat} {A : Option Addr} {l : List CmdM} (h : LiesC w B A n l) {i : Nat} (hi : i < n) (hil : i < l.length) {k b s d a lo hi' m : Int} (e : l[i] = ⟨k, b, s, d, a, lo, hi', m⟩) :
    ∃ p : Addr, A = some p ∧ p.block < B ∧ w.cell? (p.add (i * 8)) = some (.int .i8 k) ∧ w.cell? ⟨(p.add (i * 8)).block, (p.add (i * 8)).off + 1, none⟩ = some (.int .i64 b) ∧
      w.cell? ⟨(p.add (i * 8)).block, (p.add (i * 8)).off + 2, none⟩ = some (.int .i64 s) ∧ w.cell? ⟨(p.add (i * 8)).block, (p.add (i * 8)).off + 3, none⟩ = some (.int .i64 d) ∧
      w.cell? ⟨(p.add (i * 8)).block, (p.add (i * 8)).off + 4, none⟩ = some (.int .i64 a) ∧ w.cell? ⟨(p.add (i * 8)).block, (p.add (i * 8)).off + 5, none⟩ = some (.int .i64 lo) ∧
      w.cell? ⟨(p.add (i * 8)).block, (p.add (i * 8)).off + 6, none⟩ = some (.int .i64 hi') ∧ w.cell? ⟨(p.add (i * 8)).block, (p.add (i * 8)).off + 7, none⟩ = some (.int .i8 m) := by
  obtain ⟨p, e1, hb, hc⟩ := h.2.2 (by omega)
  have at_ : ∀ j u, j < 8 → (cmdA l[i]).toList[j]? = some u → w.cell? (p.add (i * 8 + j)) = some u := fun j u hj hu => hc _ _ (by rw [cmdV_at l hil j hj]; exact hu)
  rw [e] at at_
  refine ⟨p, e1, hb, at_ 0 _ (by omega) rfl, ?_, ?_, ?_, ?_, ?_, ?_, ?_⟩
  · rw [← add_plus p _ 1 (by omega)]; exact at_ 1 _ (by omega) rfl
  · rw [← add_plus p _ 2 (by omega)]; exact at_ 2 _ (by omega) rfl
  · rw [← add_plus p _ 3 (by omega)]; exact at_ 3 _ (by omega) rfl
  · rw [← add_plus p _ 4 (by omega)]; exact at_ 4 _ (by omega) rfl
  · rw [← add_plus p _ 5 (by omega)]; exact at_ 5 _ (by omega) rfl
  · rw [← add_plus p _ 6 (by omega)]; exact at_ 6 _ (by omega) rfl
  · rw [← add_plus p _ 7 (by omega)]; exact at_ 7 _ (by omega) rfl
/-- What the walk is told of a row of commands that came in. -/
def IsCmds (w : World) (a : Option Addr) (len cap : Nat) (l : List CmdM) : Prop := LiesC w w.heap.size a len l ∧ len ≤ maxLen ∧ len ≤ cap ∧ cap ≤ maxLen ∧ ∀ c ∈ l, CmdBd c
section
variable {H : Type} {enc : TypeId × Value → H} {w : World} {base : Nat} {spare : Nat → Bool} {held : Bool}
set_option maxRecDepth 100000 in
theorem open_cmds {r : Reach} {b0 : Nat} {v : Value} {d : DataW H} {p : List MemPlace}
    (hv : Value.okWide Tryd.prog w r b0 23 v) (h : DataW.Trod enc Tryd.prog w base spare held 23 v d p) :
    ∃ (a : Option Addr) (len cap : Nat) (l : List CmdM), v = .slice a len cap ∧ IsCmds w a len cap l := by
  obtain ⟨a, len, cap, rfl⟩ := okWide_slice Tryd.underlying23 hv
  obtain ⟨fuel, hf⟩ := h
  have hC : Tryd.prog.cellsOf 32 = 8 := by kernel_rfl
  rcases open_slice Tryd.underlying23 hf with ⟨hcs, _⟩ | ⟨x, l, c, m, n, D, Pl, hcs, _, hl, hm, hmm, _, hi⟩
  · simp [Value.cells] at hcs
    obtain ⟨rfl, rfl, rfl⟩ := hcs
    exact ⟨none, 0, 0, [], rfl, ⟨rfl, Lies.nothing⟩, Nat.zero_le _, Nat.zero_le _, Nat.zero_le _, fun h hh => by cases hh⟩
  · simp [Value.cells] at hcs
    obtain ⟨rfl, rfl, rfl⟩ := hcs
    have hle : len ≤ m := by
      rw [hmm]
      split <;> omega
    rw [hC] at hi
    have key : ∀ i, i < len → ∃ y : CmdM, (∀ (j : Nat) (u : Value), (cmdA y).toList[j]? = some u → w.cell? (x.add (i * 8 + j)) = some u) ∧ CmdBd y := by
      intro i hil
      obtain ⟨cs, hc, ht⟩ := hi i (by omega)
      obtain ⟨_, hcl, hat⟩ := World.cells?_some hc
      obtain ⟨y, hb, rfl⟩ := open_cmd_cells hcl ht
      refine ⟨y, fun j u hj => ?_, hb⟩
      have hj8 : j < 8 := by
        have := (List.getElem?_eq_some_iff.1 hj).1
        simpa [cmdA] using this
      have h2 := hat j hj8
      rw [add_add] at h2
      rw [h2]
      exact hj
    obtain ⟨F, hF⟩ := choose_lt key
    refine ⟨some x, len, cap, (List.range len).map F, rfl, ⟨by simp, by rw [cmdV_length]; simp, fun hn => ⟨x, rfl, ?_, fun j u hj => ?_⟩⟩, by omega, hl, hm, fun c hc => ?_⟩
    · have h1 := (hF 0 (by omega)).1 0 _ rfl
      have := World.block_lt_of_cell? w _ h1
      unfold Addr.add at this
      simpa using this
    · have hjl : j < len * 8 := by
        have := (List.getElem?_eq_some_iff.1 hj).1
        rw [cmdV_length] at this
        simpa using this
      have hq : j / 8 < len := by omega
      have hj2 := (hF (j / 8) hq).1 (j % 8) u
      rw [show j / 8 * 8 + j % 8 = j by omega] at hj2
      apply hj2
      have h3 := cmdV_at ((List.range len).map F) (k := j / 8) (by simpa using hq) (j % 8) (by omega)
      rw [show j / 8 * 8 + j % 8 = j by omega, hj] at h3
      rw [h3]
      simp
    · obtain ⟨i, hi, rfl⟩ := List.mem_map.1 hc
      exact (hF i (List.mem_range.1 hi)).2
end

end Go.Proofs.YtjdacpnfgpdjhaaDoor
