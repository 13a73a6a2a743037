/-
  Rows of a call's own, of elements of any size: they stand in later worlds; appends at the run; an append as a step of a region.
-/
import Derived.Test.YtjdacpnfgpdjhaaDoorMem
import Derived.Test.YtjdacpnfgpdjhaaDoorAid
import Derived.Laws.OwnMore
import Derived.Laws.AppendOwn
import Derived.Deep.AppendLies
import Derived.OneCell
import Derived.ArgAppend
namespace Go.Proofs.YtjdacpnfgpdjhaaDoor
open Go.RowKit
set_option linter.unusedVariables false
set_option linter.unusedSimpArgs false

section
variable {w w' : World} {B n size : Nat} {e : TypeId} {v : Value} {xs : List Value}
theorem ow_up (h : w.ownsRow B e size v n xs) (hb : Below w.heap.size w w') : w'.ownsRow B e size v n xs := by
  refine ⟨h.1, ?_⟩
  rcases h.2 with h0 | ⟨g, cap, cur, h1, h2, h3, h4⟩
  · exact .inl h0
  · exact .inr ⟨g, cap, cur, h1, h2, (hb.block g (lt_of_block h3)).trans h3, h4⟩
theorem ow_less {B' : Nat} (h : w.ownsRow B e size v n xs) (hb : B' ≤ B) : w.ownsRow B' e size v n xs := by
  refine ⟨h.1, ?_⟩
  rcases h.2 with h0 | ⟨g, cap, cur, h1, h2, h3⟩
  · exact .inl h0
  · exact .inr ⟨g, cap, cur, h1, by omega, h3⟩
theorem ow_shape (h : w.ownsRow B e size v n xs) : ∃ A c, v = .slice A n c ∧ n ≤ c ∧ c ≤ maxLen := by
  rcases h.2 with ⟨rfl, rfl⟩ | ⟨g, cap, cur, rfl, _, _, h1, h2, _⟩
  · exact ⟨_, _, rfl, Nat.le_refl _, Nat.zero_le _⟩
  · exact ⟨_, _, rfl, h1, h2⟩
theorem ow_lies {c : Nat} {A : Option Addr} (h : w.ownsRow B e size (.slice A n c) n xs) : Lies w w.heap.size A (n * size) xs := by
  refine ⟨h.1, fun hn => ?_⟩
  rcases h.2 with ⟨_, h0⟩ | ⟨g, cap, cur, hv, _, hh, _⟩
  · subst h0; omega
  · have hA : A = some ⟨g, 0, none⟩ := by injection hv
    subst hA
    exact ⟨_, rfl, lt_of_block hh, h.cells (g := g) rfl⟩
end

/-- 'append(T{}, l...)' at the run, none too. -/
theorem append_first {P : Program} (w : World) (B b : Nat) (t ty e : TypeId) (i : TypeInfo) (z : Value) (size bytes : Nat) (ht : P.underlying t = some (.slice e)) (hi : P.info? e = some i) (hz : i.zero = some z)
    (hsize : i.size = size) (hby : i.bytes = bytes) (hzs : z.cells.size = size) (hsz : 0 < size)
    (g : Nat) (hown : w.ownsRow b e size (.slice (some ⟨g, 0, none⟩) 0 0) 0 []) (hbw : b ≤ w.heap.size)
    (A : Option Addr) (n c : Nat) (xs : List Value) (hA : Lies w B A (n * size) xs) (h63 : n ≤ maxLen) (hbytes : n * bytes ≤ 140737488355328) :
    ∃ A' c' w', (Builtin.append_ #[t, t] ty #[.slice (some ⟨g, 0, none⟩) 0 0, .slice A n c]).run P w = .ok (.slice A' n c') w' ∧ w'.ownsRow b e size (.slice A' n c') n xs ∧ Below w.heap.size w w' := by
  rcases Nat.eq_zero_or_pos n with h0 | h0
  · subst h0
    obtain rfl : xs = [] := List.eq_nil_of_length_eq_zero (by rw [hA.1]; omega)
    refine ⟨some ⟨g, 0, none⟩, 0, w, ?_, hown, Below.refl _ _⟩
    cases A with
    | none => exact run_append_owned_none w b t ty e i size ht hi _ 0 [] hown
    | some ad =>
      have hload := run_loadCells_list (P := P) (w := w) ad [] (fun j v h => by simp at h)
      simp only [List.length_nil] at hload
      simp [Builtin.append_, run_underlying ht, sizeOf, typeInfo, hi, Builtin.lenOf, Builtin.firstCells, hload, Result.andThen, storeCells]
  · obtain ⟨ad, rfl, _, hc⟩ := hA.2 (Nat.mul_pos h0 hsz)
    obtain ⟨v', w', h1, h2, h3⟩ := run_append_arg_grows (P := P) w t ty e i z size bytes ht hi hz hsize hby hzs hsz ⟨g, 0, none⟩ 0 0 [] (by simp) (by intro j u h; simp at h) ad n c xs hA.1 (fun j u h => hc j u h) (by omega) (by omega) (by rw [Nat.zero_add]; exact hbytes)
    rw [Nat.zero_add, List.nil_append] at h2
    obtain ⟨A', c', e1, _, _⟩ := ow_shape h2
    subst e1
    exact ⟨A', c', w', h1, ow_less h2 hbw, (Below.refl _ _).grown h3 (Nat.le_refl _) (by intro k hk; cases hk)⟩

/-- 'append(v, l...)' at the run, of a row of the call's own, none too: what lies below the base is as it was. -/
theorem append_behind {P : Program} (w : World) (B b : Nat) (t ty e : TypeId) (i : TypeInfo) (z : Value) (size bytes : Nat) (ht : P.underlying t = some (.slice e)) (hi : P.info? e = some i) (hz : i.zero = some z)
    (hsize : i.size = size) (hby : i.bytes = bytes) (hzs : z.cells.size = size) (hsz : 0 < size)
    (v : Value) (n : Nat) (xs : List Value) (hown : w.ownsRow b e size v n xs) (hbw : b ≤ w.heap.size)
    (A : Option Addr) (m c : Nat) (news : List Value) (hA : Lies w B A (m * size) news) (h1 : ∀ u ∈ news, u.oneCell' = true) (h63 : n + m ≤ maxLen) (hbytes : (n + m) * bytes ≤ 140737488355328) (hc : A = none → c = 0) :
    ∃ A' c' w', (Builtin.append_ #[t, t] ty #[v, .slice A m c]).run P w = .ok (.slice A' (n + m) c') w' ∧ w'.ownsRow b e size (.slice A' (n + m) c') (n + m) (xs ++ news) ∧ Below b w w' := by
  cases A with
  | none =>
    have hm : m = 0 := by
      rcases Nat.eq_zero_or_pos m with h | h
      · exact h
      · obtain ⟨_, e1, _⟩ := hA.2 (Nat.mul_pos h hsz)
        cases e1
    subst hm
    obtain rfl : news = [] := List.eq_nil_of_length_eq_zero (by rw [hA.1]; omega)
    obtain ⟨A', c', e1, _, _⟩ := ow_shape hown
    subst e1
    rw [hc rfl, Nat.add_zero, List.append_nil]
    exact ⟨A', c', w, run_append_owned_none w b t ty e i size ht hi _ n xs hown, hown, Below.refl _ _⟩
  | some ad =>
    have hcell : ∀ j u, news[j]? = some u → w.cell? (ad.add j) = some u := fun j u hj => by
      have hlt := (List.getElem?_eq_some_iff.1 hj).1
      obtain ⟨p, e1, _, hcc⟩ := hA.2 (by rw [← hA.1]; omega)
      injection e1 with e1
      subst e1
      exact hcc j u hj
    obtain ⟨v', w', h2, h3, h4, _⟩ := run_append_own (P := P) w b t ty e i z size bytes ht hi hz hsize hby hzs hsz v n xs hown ad m c news hA.1 hcell h1 h63 hbytes hbw
    obtain ⟨A', c', e1, _, _⟩ := ow_shape h3
    subst e1
    exact ⟨A', c', w', h2, h3, (Below.refl _ _).grown h4 hbw (fun j hj => (hown.lt j hj).1)⟩

theorem step_append {P : Program} {ops : Array Oper} {o : Oper} {a : Act} {w w' : World} {K : Act → World → Prop} {Q : Exit → Act → World → Prop} {E : Prop} {v v1 v2 : Value}
    (hg : o.guard = none) (s x : Operand) (t : TypeId) (hop : o.op = Op.call { callee := Callee.builtin Builtin.append, args := #[s, x], argTypes := #[t, t] }) (hs : a.eval s = v1) (hx : a.eval x = v2)
    (hrun : (Builtin.append_ #[t, t] o.type #[v1, v2]).run P w = .ok v w') (hK : K (a.put o.dst v) w') : if Region.wanted o (yielded ops a.tmps) = true then Oper.wp P o a w K Q else E := by
  have hw : Region.wanted o (yielded ops a.tmps) = true := by simp [Region.wanted, hg]
  rw [if_pos hw]
  unfold Oper.wp
  simp [execOp, hop, resolve, invoke, builtin, hs, hx, hrun, Result.andThen]
  exact hK

end Go.Proofs.YtjdacpnfgpdjhaaDoor
