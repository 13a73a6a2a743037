/-
  Devices in memory of a call's own: what is written into one part leaves the others.
-/
import Derived.Test.YtjdacpnfgpdjhaaDoorJoinDevAt
import Derived.Test.YtjdacpnfgpdjhaaDoorAid
import Derived.Laws.OwnMore
import Derived.Laws.AppendOwn
import Derived.Deep.AppendLies
import Derived.OneCell
namespace Go.Proofs.YtjdacpnfgpdjhaaDoor
open Go.RowKit
set_option linter.unusedVariables false
set_option linter.unusedSimpArgs false

section
variable {w w' : World} {B n size : Nat} {e : TypeId} {v : Value} {xs : List Value}
theorem own_up (h : w.ownsRow B e size v n xs) (hb : Below w.heap.size w w') : w'.ownsRow B e size v n xs := by
  refine ⟨h.1, ?_⟩
  rcases h.2 with h0 | ⟨g, cap, cur, h1, h2, h3, h4⟩
  · exact .inl h0
  · exact .inr ⟨g, cap, cur, h1, h2, (hb.block g (lt_of_block h3)).trans h3, h4⟩
theorem own_less {B' : Nat} (h : w.ownsRow B e size v n xs) (hb : B' ≤ B) : w.ownsRow B' e size v n xs := by
  refine ⟨h.1, ?_⟩
  rcases h.2 with h0 | ⟨g, cap, cur, h1, h2, h3⟩
  · exact .inl h0
  · exact .inr ⟨g, cap, cur, h1, by omega, h3⟩
theorem own_set {a : Addr} (h : w.ownsRow B e size v n xs) (ha : a.block < B) (u : Value) : (w.setCell a u).ownsRow B e size v n xs := by
  refine ⟨h.1, ?_⟩
  rcases h.2 with h0 | ⟨g, cap, cur, h1, h2, h3⟩
  · exact .inl h0
  · exact .inr ⟨g, cap, cur, h1, h2, (Below.heap_setCell w a u g (by omega)).trans h3.1, h3.2⟩
theorem own_kind (h : w.ownsRow B e size v n xs) {g : Nat} (hg : v.ownBlock = some g) : ∃ c, w.heap[g]? = some (.cells c e (0, 0)) := by
  rcases h.2 with ⟨rfl, _⟩ | ⟨g', cap, cur, rfl, _, h3, _⟩
  · cases hg
  · simp [Value.ownBlock] at hg
    subst hg
    exact ⟨_, h3⟩
/-- Two rows of unlike types lie in unlike blocks. -/
theorem own_apart {e' : TypeId} {v' : Value} {n' size' : Nat} {ys : List Value} {B' : Nat} (h : w.ownsRow B e size v n xs) (k : w.ownsRow B' e' size' v' n' ys) (hne : e ≠ e') {g : Nat} (hg : v'.ownBlock = some g) : v.ownBlock = none ∨ v.ownBlock ≠ some g := by
  right
  intro hv
  obtain ⟨c, h1⟩ := own_kind h hv
  obtain ⟨c', h2⟩ := own_kind k hg
  rw [h1] at h2
  simp only [Option.some.injEq, Obj.cells.injEq] at h2
  exact hne h2.2.1
theorem own_blk {cs : Array Value} {T : TypeId} {b g : Nat} (h : w.ownsRow B e size v n xs) (k : Blk w b cs T) (hne : e ≠ T) (hg : v.ownBlock = some g) : b ≠ g := by
  rintro rfl
  obtain ⟨c, h1⟩ := own_kind h hg
  have k' : w.heap[b]? = some (.cells cs T (0, 0)) := k
  rw [h1] at k'
  simp only [Option.some.injEq, Obj.cells.injEq] at k'
  exact hne k'.2.1
theorem own_shape2 (h : w.ownsRow B e size v n xs) : ∃ A c, v = .slice A n c ∧ n ≤ c ∧ c ≤ maxLen := by
  rcases h.2 with ⟨rfl, rfl⟩ | ⟨g, cap, cur, rfl, _, _, h1, h2, _⟩
  · exact ⟨_, _, rfl, Nat.le_refl _, Nat.zero_le _⟩
  · exact ⟨_, _, rfl, h1, h2⟩
end
theorem add_twice (a : Addr) (x y : Nat) : (a.add x).add y = a.add (x + y) := by
  rcases a with ⟨b, o, p⟩
  cases p with
  | none => rw [Addr.add_mid, Addr.add_mid, Addr.add_mid, Nat.add_assoc]
  | some p =>
    unfold Addr.add
    by_cases hx : x = 0 <;> by_cases hy : y = 0 <;> simp [hx, hy, Nat.add_assoc]
theorem add_one (a : Addr) : a.add 1 = ⟨a.block, a.off + 1, none⟩ := by unfold Addr.add; simp
theorem lies_own2 {w : World} {B n c : Nat} {e : TypeId} {A : Option Addr} {xs : List Value} (h : w.ownsRow B e 2 (.slice A n c) n xs) : Lies w w.heap.size A (n * 2) xs := by
  refine ⟨h.1, fun hn => ?_⟩
  rcases h.2 with ⟨_, h0⟩ | ⟨g, cap, cur, hv, _, hh, _⟩
  · omega
  · have hA : A = some ⟨g, 0, none⟩ := by injection hv
    subst hA
    exact ⟨_, rfl, lt_of_block hh, h.cells (g := g) rfl⟩

structure OwnD (w : World) (B : Nat) (vS vC vK vF : Value) (f : Nat → Value) (D : Dev) : Prop where
  s : w.ownsRow B 9 1 vS D.S.length (strV D.S)
  c : w.ownsRow B 97 1 vC D.C.length ((List.range D.C.length).map f)
  k : w.ownsRow B 3 1 vK D.K.length (D.K.map (Value.int .i64))
  ff : w.ownsRow B 3 1 vF D.F.length (D.F.map (Value.int .i64))
  cs : ∀ i, i < D.C.length → w.ownsRow B 118 2 (f i) (D.C.getD i []).length (celV (D.C.getD i []))
  kf : ∀ b, vK.ownBlock = some b → vF.ownBlock ≠ some b
  cc : ∀ i j b, i < D.C.length → j < D.C.length → (f i).ownBlock = some b → (f j).ownBlock = some b → i = j

section
variable {w w' : World} {B : Nat} {vS vC vK vF : Value} {f : Nat → Value} {D : Dev}
theorem OwnD.dev (h : OwnD w B vS vC vK vF f D) : DevAt w w.heap.size (.agg #[vS, vC, vK, .int .i64 D.n, vF]) D := by
  obtain ⟨aS, cS, rfl, s1, s2⟩ := own_shape2 h.s
  obtain ⟨aC, cC, rfl, c1, c2⟩ := own_shape2 h.c
  obtain ⟨aK, cK, rfl, k1, k2⟩ := own_shape2 h.k
  obtain ⟨aF, cF, rfl, f1, f2⟩ := own_shape2 h.ff
  refine ⟨_, _, _, _, rfl, ⟨_, _, rfl, s1, s2, Lies.of_own h.s⟩, ⟨_, _, rfl, c1, c2, f, Lies.of_own h.c, fun i hi => ?_⟩, ⟨_, _, rfl, k1, k2, Lies.of_own h.k⟩, ⟨_, _, rfl, f1, f2, Lies.of_own h.ff⟩⟩
  obtain ⟨a, c, e, l1, l2⟩ := own_shape2 (h.cs i hi)
  have := h.cs i hi
  rw [e] at this
  exact ⟨a, c, e, l1, l2, lies_own2 this⟩
theorem OwnD.up (h : OwnD w B vS vC vK vF f D) (hb : Below w.heap.size w w') : OwnD w' B vS vC vK vF f D :=
  ⟨own_up h.s hb, own_up h.c hb, own_up h.k hb, own_up h.ff hb, fun i hi => own_up (h.cs i hi) hb, h.kf, h.cc⟩
theorem OwnD.low {a : Addr} (h : OwnD w B vS vC vK vF f D) (ha : a.block < B) (u : Value) : OwnD (w.setCell a u) B vS vC vK vF f D :=
  ⟨own_set h.s ha u, own_set h.c ha u, own_set h.k ha u, own_set h.ff ha u, fun i hi => own_set (h.cs i hi) ha u, h.kf, h.cc⟩
theorem OwnD.less {B' : Nat} (h : OwnD w B vS vC vK vF f D) (hB : B' ≤ B) : OwnD w B' vS vC vK vF f D :=
  ⟨own_less h.s hB, own_less h.c hB, own_less h.k hB, own_less h.ff hB, fun i hi => own_less (h.cs i hi) hB, h.kf, h.cc⟩
/-- A sector is written. -/
theorem OwnD.setS (h : OwnD w B vS vC vK vF f D) {g cap : Nat} (e : vS = .slice (some ⟨g, 0, none⟩) D.S.length cap) (i : Nat) (b : ByteArray) :
    OwnD (w.setCell ⟨g, i, none⟩ (.string b)) B vS vC vK vF f { D with S := D.S.set i b } := by
  have hs := h.s
  have hg : vS.ownBlock = some g := by rw [e]; rfl
  have hst := (e ▸ hs).stored i (.string b)
  refine ⟨?_, h.c.kept hst.2 (own_apart h.c hs (by decide) hg), h.k.kept hst.2 (own_apart h.k hs (by decide) hg), h.ff.kept hst.2 (own_apart h.ff hs (by decide) hg), fun j hj => (h.cs j hj).kept hst.2 (own_apart (h.cs j hj) hs (by decide) hg), h.kf, h.cc⟩
  show World.ownsRow _ B _ 1 vS (D.S.set i b).length (strV (D.S.set i b))
  rw [List.length_set, e]
  have e2 : strV (D.S.set i b) = (strV D.S).set i (.string b) := by simp [strV]
  rw [e2]
  exact hst.1
/-- A key is written. -/
theorem OwnD.setK (h : OwnD w B vS vC vK vF f D) {g cap : Nat} (e : vK = .slice (some ⟨g, 0, none⟩) D.K.length cap) (i : Nat) (x : Int) :
    OwnD (w.setCell ⟨g, i, none⟩ (.int .i64 x)) B vS vC vK vF f { D with K := D.K.set i x } := by
  have hs := h.k
  have hg : vK.ownBlock = some g := by rw [e]; rfl
  have hst := (e ▸ hs).stored i (.int .i64 x)
  refine ⟨h.s.kept hst.2 (own_apart h.s hs (by decide) hg), h.c.kept hst.2 (own_apart h.c hs (by decide) hg), ?_, h.ff.kept hst.2 (.inr (h.kf g hg)), fun j hj => (h.cs j hj).kept hst.2 (own_apart (h.cs j hj) hs (by decide) hg), h.kf, h.cc⟩
  show World.ownsRow _ B _ 1 vK (D.K.set i x).length ((D.K.set i x).map (Value.int .i64))
  rw [List.length_set, e, List.map_set]
  exact hst.1
theorem getD_set_c {C : List (List Cel)} {i j : Nat} (l : List Cel) (hi : i < C.length) : (C.set i l).getD j [] = if i = j then l else C.getD j [] := by
  rw [List.getD, List.getElem?_set, List.getD]
  split
  · rename_i e; subst e; rfl
  · rfl
/-- A cache is written anew. -/
theorem OwnD.setC (h : OwnD w B vS vC vK vF f D) {g cap : Nat} (e : vC = .slice (some ⟨g, 0, none⟩) D.C.length cap) {i : Nat} (hi : i < D.C.length) {u : Value} {l : List Cel}
    (hu : w.ownsRow B 118 2 u l.length (celV l)) (ha : ∀ j b, j < D.C.length → j ≠ i → u.ownBlock = some b → (f j).ownBlock ≠ some b) :
    OwnD (w.setCell ⟨g, i, none⟩ u) B vS vC vK vF (fun j => if j = i then u else f j) { D with C := D.C.set i l } := by
  have hs := h.c
  have hg : vC.ownBlock = some g := by rw [e]; rfl
  have hst := (e ▸ hs).stored i u
  refine ⟨h.s.kept hst.2 (own_apart h.s hs (by decide) hg), ?_, h.k.kept hst.2 (own_apart h.k hs (by decide) hg), h.ff.kept hst.2 (own_apart h.ff hs (by decide) hg), fun j hj => ?_, h.kf, fun j m b hj hm h1 h2 => ?_⟩
  · show World.ownsRow _ B _ 1 vC (D.C.set i l).length ((List.range (D.C.set i l).length).map fun j => if j = i then u else f j)
    rw [List.length_set]
    have e2 : ((List.range D.C.length).map fun j => if j = i then u else f j) = ((List.range D.C.length).map f).set i u := by
      apply List.ext_getElem
      · simp
      · intro j h1 h2
        simp only [List.getElem_map, List.getElem_range, List.getElem_set]
        by_cases e : j = i
        · rw [if_pos e, if_pos e.symm]
        · rw [if_neg e, if_neg (fun h => e h.symm)]
    rw [e2, e]
    exact hst.1
  · have hj' : j < D.C.length := by have : j < (D.C.set i l).length := hj; rwa [List.length_set] at this
    show World.ownsRow _ B _ 2 (if j = i then u else f j) ((D.C.set i l).getD j []).length (celV ((D.C.set i l).getD j []))
    rw [getD_set_c l hi]
    by_cases e : j = i
    · rw [if_pos e, if_pos e.symm]
      exact hu.kept hst.2 (own_apart hu hs (by decide) hg)
    · rw [if_neg e, if_neg (fun h => e h.symm)]
      exact (h.cs j hj').kept hst.2 (own_apart (h.cs j hj') hs (by decide) hg)
  · have hj' : j < D.C.length := by have : j < (D.C.set i l).length := hj; rwa [List.length_set] at this
    have hm' : m < D.C.length := by have : m < (D.C.set i l).length := hm; rwa [List.length_set] at this
    by_cases e1 : j = i <;> by_cases e2 : m = i
    · omega
    · rw [if_pos e1] at h1
      rw [if_neg e2] at h2
      exact absurd h2 (ha m b hm' e2 h1)
    · rw [if_neg e1] at h1
      rw [if_pos e2] at h2
      exact absurd h1 (ha j b hj' e1 h2)
    · rw [if_neg e1] at h1
      rw [if_neg e2] at h2
      exact h.cc j m b hj' hm' h1 h2
/-- What a row of a cache's type may turn: all others are as they were; the cache itself is another. -/
theorem OwnD.turnC (h : OwnD w B vS vC vK vF f D) {i : Nat} (hi : i < D.C.length) {row : Option Nat} (hr : row = (f i).ownBlock) (hg : w.grownBy w' row) {l : List Cel} (hu : w'.ownsRow B 118 2 (f i) l.length (celV l)) :
    OwnD w' B vS vC vK vF f { D with C := D.C.set i l } := by
  subst hr
  have key : ∀ {e : TypeId} {v : Value} {n : Nat} {xs : List Value}, w.ownsRow B e 1 v n xs → e ≠ 118 → v.ownBlock = none ∨ v.ownBlock ≠ (f i).ownBlock := by
    intro e v n xs hv hne
    cases e1 : (f i).ownBlock with
    | none => cases e2 : v.ownBlock <;> simp
    | some g => exact own_apart hv (h.cs i hi) hne e1
  refine ⟨h.s.kept hg (key h.s (by decide)), ?_, h.k.kept hg (key h.k (by decide)), h.ff.kept hg (key h.ff (by decide)), fun j hj => ?_, h.kf, ?_⟩
  · show World.ownsRow _ B _ 1 vC (D.C.set i l).length ((List.range (D.C.set i l).length).map f)
    rw [List.length_set]
    exact h.c.kept hg (key h.c (by decide))
  · have hj' : j < D.C.length := by have : j < (D.C.set i l).length := hj; rwa [List.length_set] at this
    show World.ownsRow _ B _ 2 (f j) ((D.C.set i l).getD j []).length (celV ((D.C.set i l).getD j []))
    rw [getD_set_c l hi]
    by_cases e : i = j
    · rw [if_pos e, ← e]
      exact hu
    · rw [if_neg e]
      refine (h.cs j hj').kept hg ?_
      cases e1 : (f j).ownBlock with
      | none => exact .inl rfl
      | some g =>
        right
        intro e2
        exact e (h.cc i j g hi hj' e2.symm e1)
  · show ∀ i_1 j b, i_1 < (D.C.set i l).length → j < (D.C.set i l).length → _
    rw [List.length_set]
    exact h.cc
end


end Go.Proofs.YtjdacpnfgpdjhaaDoor
