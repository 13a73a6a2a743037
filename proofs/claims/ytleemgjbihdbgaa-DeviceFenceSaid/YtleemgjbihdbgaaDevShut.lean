/-
  Behind a fence, over plain values: what the law's walk asks of the document's device and of the program's deeds.
-/
import Derived.Test.YtleemgjbihdbgaaDevTwo
namespace Go.Proofs.Ytleemgjbihdbgaa
open Go.RowKit
set_option linter.unusedVariables false
set_option linter.unusedSimpArgs false

/-- What deeds leave of a device of five nodes. -/
structure Five (D : Dev) (n : Int) : Prop where
  may : MayD D
  s : D.S.length ≤ 1099511627776
  k : D.K.length = 5
  n : D.n ≤ n
theorem Five.small {D : Dev} {n : Int} (h : Five D n) : Small D 1099511627776 := may_small h.may h.s
theorem five_deed {D : Dev} {n : Int} (h : Five D n) (x : DeedM) : Five (deedD D x) (n + 1) := by
  have hl := like_deed D x
  exact ⟨may_deed h.may x, by have := hl.s; have := h.s; omega, by have := hl.k; have := h.k; omega, by have := hl.n1; have := h.n; omega⟩
theorem five_new {S : List ByteArray} (h : nwE 5 S = 0) (hs : S.length ≤ 1099511627776) : Five (nwD 5 S) 1 := by
  unfold nwE at h
  split at h
  · rename_i hh
    unfold nwD
    rw [if_pos hh]
    exact ⟨may_new (by have := hh.1; omega) (by have := hh.2.1; omega) hh.2.2.1 hh.2.2.2, hs, by simp [newD], Int.le_refl _⟩
  · cases h
theorem do_at {D : Dev} {i : Nat} (hi : i < D.K.length) (a : ActM) : doD D (i : Int) a = actD D i a ∧ doS D (i : Int) a = actS D i a ∧ refE D (i : Int) a = actE D i a := by
  have hn : NodeOk D (i : Int) := ⟨by omega, by omega⟩
  unfold doD doS refE
  rw [if_pos hn, if_pos hn, if_pos hn, Int.toNat_natCast]
  exact ⟨rfl, rfl, rfl⟩
theorem five_key {D : Dev} {n : Int} (h : Five D n) (hn : n ≤ 1000) {i : Nat} (h0 : keyOf D i ≠ 0) : 0 ≤ keyOf D i ∧ keyOf D i ≤ 16000 := by
  obtain ⟨hg, _⟩ := key_given h.may h0
  have h1 := hg.1
  have h2 := hg.2.1
  have := h.n
  omega
theorem getD_keyOf {D : Dev} {i : Nat} (hi : i < D.K.length) : D.K[i] = keyOf D i := by
  unfold keyOf
  rw [List.getD, List.getElem?_eq_getElem hi]
  rfl
/-- Node 4 registers and fences the key of a node. -/
theorem fence_all {D : Dev} {n : Int} (h : Five D n) (hn : n ≤ 101) {N : Nat} (hN : N ≤ 3) (h0 : keyOf D N ≠ 0) :
    ∃ D1 D2, doD D 4 ⟨6, 0, ⟨#[]⟩, 0⟩ = D1 ∧ Five D1 102 ∧ keyOf D1 N = keyOf D N ∧ doD D1 4 ⟨5, 0, ⟨#[]⟩, keyOf D N⟩ = D2 ∧ refE D1 4 ⟨5, 0, ⟨#[]⟩, keyOf D N⟩ = 0 ∧ Five D2 103 ∧
      fencedAny D2.F [keyOf D2 N] = true ∧ fencedAny D2.F [keyOf D2 4] = false ∧ Shut D2 N D2.S := by
  have hk := h.k
  have hnn := h.n
  obtain ⟨e1, d1, k1, e2, d2, f1, f2⟩ := fence_first h.may (i := N) (b := 4) (by omega) (by omega) (by omega) h0 0 0 ⟨#[]⟩ ⟨#[]⟩ 0
  have g1 := do_at (D := D) (i := 4) (by omega) ⟨6, 0, ⟨#[]⟩, 0⟩
  have hl1 := like_act D 4 ⟨6, 0, ⟨#[]⟩, 0⟩
  have hm1 := may_act h.may (i := 4) (by omega) ⟨6, 0, ⟨#[]⟩, 0⟩
  rw [d1] at hl1 hm1
  have F1 : Five (registerD D 4) 102 := ⟨hm1, by have := hl1.s; have := h.s; omega, by have := hl1.k; omega, by have := hl1.n1; omega⟩
  have g2 := do_at (D := registerD D 4) (i := 4) (by have := F1.k; omega) ⟨5, 0, ⟨#[]⟩, keyOf D N⟩
  have hl2 := like_act (registerD D 4) 4 ⟨5, 0, ⟨#[]⟩, keyOf D N⟩
  have hm2 := may_act hm1 (i := 4) (by have := F1.k; omega) ⟨5, 0, ⟨#[]⟩, keyOf D N⟩
  rw [d2] at hl2 hm2
  have F2 : Five (fencesD (registerD D 4) (keyOf D N)) 103 := ⟨hm2, by have := hl2.s; have := F1.s; omega, by have := hl2.k; have := F1.k; omega, by have := hl2.n1; have := F1.n; omega⟩
  refine ⟨registerD D 4, fencesD (registerD D 4) (keyOf D N), ?_, F1, k1, ?_, ?_, F2, ?_, ?_, ?_⟩
  · have := g1.1; rw [d1] at this; exact this
  · have := g2.1; rw [d2] at this; exact this
  · have := g2.2.2; rw [e2] at this; exact this
  · rw [fencedAny_one]
    show fencedK _ (keyOf (registerD D 4) N) = true
    rw [k1]
    exact f1
  · rw [fencedAny_one]
    exact f2
  · refine ⟨hm2, by have := F2.k; omega, ?_, rfl⟩
    show fencedK _ (keyOf (registerD D 4) N) = true
    rw [k1]
    exact f1
/-- A deed of that node, behind the fence. -/
theorem shut_deed {D : Dev} {i : Nat} {S : List ByteArray} (h : Shut D i S) {dk : Int} {a : ActM} (kept : Nat) (ha : dk = 0 → a.k ≠ 6) :
    Shut (deedD D ⟨dk, (i : Int), a, kept⟩) i S ∧ (dk = 0 → (deedE D ⟨dk, (i : Int), a, kept⟩ = 61 ∨ deedE D ⟨dk, (i : Int), a, kept⟩ = 2) ∧ deedS D ⟨dk, (i : Int), a, kept⟩ = ⟨#[]⟩) := by
  have hn : NodeOk D (i : Int) := ⟨by omega, by have := h.lt; omega⟩
  refine ⟨?_, fun h0 => ?_⟩
  · show Shut (if NodeOk D (i : Int) then (if dk = 0 then actD D (i : Int).toNat a else if dk = 1 then crashD D (i : Int).toNat kept else if dk = 2 then startD D (i : Int).toNat else D) else D) i S
    rw [if_pos hn, Int.toNat_natCast]
    split
    · rename_i h0
      rw [(shut_act h (ha h0)).2.1]
      exact h
    · split
      · exact shut_crash h kept
      · split
        · exact shut_start h
        · exact h
  · obtain ⟨h1, h2, h3⟩ := shut_act h (ha h0)
    subst h0
    refine ⟨?_, ?_⟩
    · have : deedE D ⟨0, (i : Int), a, kept⟩ = actE D i a := by
        show (if (0 : Int) = 0 then (if NodeOk D (i : Int) then actE D (i : Int).toNat a else 2) else _) = _
        rw [if_pos rfl, if_pos hn, Int.toNat_natCast]
      rw [this]
      omega
    · show (if (0 : Int) = 0 ∧ NodeOk D (i : Int) then actS D (i : Int).toNat a else ⟨#[]⟩) = _
      rw [if_pos ⟨rfl, hn⟩, Int.toNat_natCast]
      exact h3
/-- It registers anew. -/
theorem register_at {D : Dev} {n : Int} (h : Five D n) (hn : n ≤ 1000) {i : Nat} (hi : i ≤ 3) : refE D (i : Int) ⟨6, 0, ⟨#[]⟩, 0⟩ = 0 ∧ (doS D (i : Int) ⟨6, 0, ⟨#[]⟩, 0⟩).size = 6 := by
  have hk := h.k
  have hnn := h.n
  obtain ⟨_, g2, g3⟩ := do_at (D := D) (i := i) (by omega) ⟨6, 0, ⟨#[]⟩, 0⟩
  have e1 : actE D i ⟨6, 0, ⟨#[]⟩, 0⟩ = 0 := by simp [actE]; omega
  refine ⟨g3.trans e1, ?_⟩
  rw [g2]
  have : actS D i ⟨6, 0, ⟨#[]⟩, 0⟩ = key6 (16 * D.n + (i : Int)) := by simp [actS, e1]
  rw [this, key6_size]
theorem act_bd (k s e : Int) (h1 : 0 ≤ k) (h2 : k ≤ 6) (h3 : s = 0) (h4 : 0 ≤ e) (h5 : e ≤ 16000) : ActBd ⟨k, s, ⟨#[]⟩, e⟩ := ⟨by show -128 ≤ k; omega, by show k ≤ 127; omega, by show _ ≤ s; omega, by show s ≤ _; omega, by show _ ≤ e; omega, by show e ≤ _; omega⟩
/-- A row of texts of the call's own, another variable being written. -/
theorem own_into {w : World} {B r n : Nat} {v : Value} {xs : List Value} {cs : Array Value} (h : w.ownsRow B 9 1 v n xs) (k : Blk w r cs 29) (vS vC vK : Value) (m : Int) (vF : Value) : (into5 w r vS vC vK m vF).ownsRow B 9 1 v n xs := by
  have key : ∀ {W : World} {cs : Array Value} (o : Nat) (u : Value), W.ownsRow B 9 1 v n xs → Blk W r cs 29 → (W.setCell ⟨r, o, none⟩ u).ownsRow B 9 1 v n xs := fun o u hv hk => by
    refine ownsRow_setCell_other hv (fun hb => ?_) u
    exact own_blk hv hk (by decide) hb rfl
  have k1 := k.set 0 vS
  have k2 := k1.set 1 vC
  have k3 := k2.set 2 vK
  have k4 := k3.set 3 (.int .i64 m)
  exact key 4 vF (key 3 _ (key 2 vK (key 1 vC (key 0 vS h k) k1) k2) k3) k4

end Go.Proofs.Ytleemgjbihdbgaa
