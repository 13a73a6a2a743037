/-
  The document's taking out of a cell: by contract.
-/
import Derived.Test.YtleemgjbihdbgaaFreshApp
import Derived.Test.YtleemgjbihdbgaaJoinDevRefCheckNo
import Derived.Test.YtleemgjbihdbgaaDevDelete
namespace Go.Proofs.Ytleemgjbihdbgaa
open Go.RowKit
set_option linter.unusedVariables false
set_option linter.unusedSimpArgs false

theorem step_append_run {P : Program} {ops : Array Oper} {o : Oper} {a : Act} {w w' : World} {K : Act → World → Prop} {Q : Exit → Act → World → Prop} {E : Prop} {v v1 v2 : Value}
    (hg : o.guard = none) (s x : Operand) (t : TypeId) (hop : o.op = Op.call { callee := Callee.builtin Builtin.append, args := #[s, x], argTypes := #[t, t] }) (hs : a.eval s = v1) (hx : a.eval x = v2)
    (hrun : (Builtin.append_ #[t, t] o.type #[v1, v2]).run P w = .ok v w') (hK : K (a.put o.dst v) w') : if Region.wanted o (yielded ops a.tmps) = true then Oper.wp P o a w K Q else E := by
  have hw : Region.wanted o (yielded ops a.tmps) = true := by simp [Region.wanted, hg]
  rw [if_pos hw]
  unfold Oper.wp
  simp [execOp, hop, resolve, invoke, builtin, hs, hx, hrun, Result.andThen]
  exact hK

set_option maxRecDepth 100000 in
set_option maxHeartbeats 1000000 in
theorem refWithout_any (ad : Addr) (n c B : Nat) (l : List Cel) (k p m d : Nat) (w : World) (hA : Lies w B (some ad) (n * 2) (celV l)) (hl : l.length = n) (hn : n ≤ 1099511627776) (hc : n ≤ c) (hcm : c ≤ maxLen) (hB : B ≤ w.heap.size) (hk : k < n) (hpk : k + 1 = p) (hm : n - p = m) (hd : c - p = d) :
    Calls Try.prog 31 #[.slice (some ad) n c, .int .i64 (k : Int)] w fun e w' => ∃ v', e = .returned v' ∧ w'.ownsRow w.heap.size 59 2 v' (n - 1) (celV (l.eraseIdx k)) ∧ Below w.heap.size w w' := by
  obtain ⟨i0, hi, hz0, hz1, hz2⟩ := info_parts infoCell
  unfold maxLen at hcm
  have k0 : (0 : Int) ≤ (k : Int) := by omega
  have k1 : (k : Int) ≤ (c : Int) := by omega
  have hKi : (k : Int) + 1 = (p : Int) := by omega
  have hKw : IntKind.i64.wrap (p : Int) = (p : Int) := IntWalk.i64_in _ (by omega)
  have K0 : (0 : Int) ≤ (p : Int) := by omega
  have K1 : (p : Int) ≤ (n : Int) := by omega
  have K2 : (n : Int) ≤ (c : Int) := by omega
  go_enter Try.func31, Try.ntmps31
  go_wp2_with fail
  refine wp_region_held_drew (S := (fun _ => True)) (by kernel_rfl) ?_ (fun hHeld => ?_)
  focus (trivial)
  refine wpAnyH_take (i := 1) (oi := ⟨some 6, _, _, _, _, _⟩) (v := ?_) rfl (by kernel_rfl) (by kernel_rfl) (by kernel_rfl) (fun _ _ _ h => h) (Or.inl ⟨by rfl, ?_⟩) (by assumption) ?_
  rotate_left
  focus (intro wq hSq; (try dsimp only at hSq); go_simp; try with_reducible rfl)
  try simp only [Act.put, List.setIfInBounds_toArray, List.set_cons_zero, List.set_cons_succ]
  refine wpAnyH_take (i := 2) (oi := ⟨some 7, _, _, _, _, _⟩) (v := ?_) rfl (by kernel_rfl) (by kernel_rfl) (by kernel_rfl) (fun _ _ _ h => h) (Or.inl ⟨by rfl, ?_⟩) (by assumption) ?_
  rotate_left
  focus (intro wq hSq; (try dsimp only at hSq); go_simp; try with_reducible rfl)
  try simp only [Act.put, List.setIfInBounds_toArray, List.set_cons_zero, List.set_cons_succ]
  refine wpAnyH_take (i := 3) (oi := ⟨some 8, _, _, _, _, _⟩) (v := ?_) rfl (by kernel_rfl) (by kernel_rfl) (by kernel_rfl) (fun _ _ _ h => h) (Or.inl ⟨by rfl, ?_⟩) (by assumption) ?_
  rotate_left
  focus (intro wq hSq; (try dsimp only at hSq); go_simp; try with_reducible rfl)
  try simp only [Act.put, List.setIfInBounds_toArray, List.set_cons_zero, List.set_cons_succ]
  refine wpAnyH_take (i := 5) (oi := ⟨some 10, _, _, _, _, _⟩) (v := ?_) rfl (by kernel_rfl) (by kernel_rfl) (by kernel_rfl) (fun _ _ _ h => h) (Or.inl ⟨by rfl, ?_⟩) (by assumption) ?_
  rotate_left
  focus (intro wq hSq; (try dsimp only at hSq); go_simp; try with_reducible rfl)
  try simp only [Act.put, List.setIfInBounds_toArray, List.set_cons_zero, List.set_cons_succ]
  refine wpAnyH_take (i := 6) (oi := ⟨some 11, _, _, _, _, _⟩) (v := ?_) rfl (by kernel_rfl) (by kernel_rfl) (by kernel_rfl) (fun _ _ _ h => h) (Or.inl ⟨by rfl, ?_⟩) (by assumption) ?_
  rotate_left
  focus (intro wq hSq; (try dsimp only at hSq); go_simp; try with_reducible rfl)
  try simp only [Act.put, List.setIfInBounds_toArray, List.set_cons_zero, List.set_cons_succ]
  refine wpAnyH_take (i := 7) (oi := ⟨some 12, _, _, _, _, _⟩) (v := ?_) rfl (by kernel_rfl) (by kernel_rfl) (by kernel_rfl) (fun _ _ _ h => h) (Or.inl ⟨by rfl, ?_⟩) (by assumption) ?_
  rotate_left
  focus (intro wq hSq; (try dsimp only at hSq); go_simp; try with_reducible rfl)
  try simp only [Act.put, List.setIfInBounds_toArray, List.set_cons_zero, List.set_cons_succ]
  refine wpAnyH_take (i := 8) (oi := ⟨some 13, _, _, _, _, _⟩) (v := ?_) rfl (by kernel_rfl) (by kernel_rfl) (by kernel_rfl) (fun _ _ _ h => h) (Or.inl ⟨by rfl, ?_⟩) (by assumption) ?_
  rotate_left
  focus (intro wq hSq; (try dsimp only at hSq); go_simp; try with_reducible rfl)
  try simp only [Act.put, List.setIfInBounds_toArray, List.set_cons_zero, List.set_cons_succ]
  refine wpAnyH_ready (rs := [0]) (by kernel_rfl) (by simp) ?_
  refine AllReadyH.cons (o := ⟨some 5, _, _, _, _, _⟩) rfl (fun K hK => ?_) AllReadyH.nil
  go_simp
  refine hK.out _ _ trivial (fun hHeld => ?_)
  clear hK K
  try simp only [Act.put, List.setIfInBounds_toArray, List.set_cons_zero, List.set_cons_succ]
  obtain ⟨W0, hW⟩ : ∃ W0, W0 = (w.alloc (.cells #[] 59)).drew := ⟨_, rfl⟩
  rw [← hW]
  have hb0 : Below w.heap.size w W0 := by rw [hW]; exact (below_alloc w _).drew
  have hl0 : w.heap.size < W0.heap.size := by rw [hW]; simp
  have own0 : W0.ownsRow w.heap.size 59 2 (.slice (some ⟨w.heap.size, 0, none⟩) 0 0) 0 [] := by rw [hW]; exact own_up (World.ownsRow_lit w #[] 0 (Nat.le_refl _) (Nat.zero_le _) rfl) ((Below.refl _ _).drew)
  clear hW
  have hcell : ∀ w1, Below w.heap.size w w1 → ∀ j u, (celV l)[j]? = some u → w1.cell? (ad.add j) = some u := by
    intro w1 hbw j u h
    have hj := (List.getElem?_eq_some_iff.1 h).1
    obtain ⟨ad', e, hb, hc⟩ := (hA.keep (w' := w1) fun q hq => hbw.cell (by omega)).2 (by rw [← hA.1]; omega)
    injection e with e
    subst e
    exact hc j u h
  have htake : celV (l.take k) = (celV l).take (k * 2) := (celV_take l k).symm
  have hlk : LiesK W0 W0.heap.size (some ad) k 2 (celV (l.take k)) := by
    refine ⟨by rw [celV_length, List.length_take, Nat.min_eq_left (by omega)], fun h0 => ⟨ad, rfl, ?_, fun j u h => ?_⟩⟩
    · obtain ⟨ad', e, hb, _⟩ := hA.2 (by omega)
      injection e with e
      subst e
      omega
    · rw [htake, List.getElem?_take] at h
      split at h
      · exact hcell W0 hb0 j u h
      · cases h
  obtain ⟨A', c', W1, hrun, own1, hb1⟩ := run_append_fresh (P := Try.prog) W0 W0.heap.size w.heap.size 57 57 59 i0 _ 2 24 Try.underlying57 hi hz0 hz1 hz2 rfl (by omega) w.heap.size own0 hb0.size (some ad) k c (celV (l.take k)) hlk (by unfold maxLen; omega) (by omega)
  refine wpAnyH_ready (rs := [4]) (by kernel_rfl) (by simp) ?_
  refine AllReadyH.cons (o := ⟨some 9, _, _, _, _, _⟩) rfl (fun K hK => ?_) AllReadyH.nil
  refine step_append_run rfl (.tmp 5) (.tmp 8) 57 rfl (by simp [Act.eval, Act.put]) (by simp [Act.eval, Act.put]) hrun ?_
  refine hK.out _ _ trivial (fun hHeld => ?_)
  clear hK K hrun
  try simp only [Act.put, List.setIfInBounds_toArray, List.set_cons_zero, List.set_cons_succ]
  have hb01 : Below w.heap.size w W1 := hb0.trans (hb1.mono hb0.size)
  obtain ⟨td, htd⟩ : ∃ td, (if c = p then some ad else some (ad.add (p * 2))) = some td := by split <;> exact ⟨_, rfl⟩
  have hdrop : ∀ j u, (celV (l.drop p))[j]? = some u → W1.cell? (td.add j) = some u := by
    intro j u h
    have hj := (List.getElem?_eq_some_iff.1 h).1
    rw [celV_length, List.length_drop] at hj
    rw [if_neg (by omega)] at htd
    injection htd with htd
    subst htd
    have h2 : (celV l)[p * 2 + j]? = some u := by
      have e : celV l = celV (l.take p) ++ celV (l.drop p) := by rw [← celV_append, List.take_append_drop]
      rw [e, List.getElem?_append_right (by rw [celV_length, List.length_take]; omega)]
      rw [celV_length, List.length_take, Nat.min_eq_left (by omega), Nat.add_sub_cancel_left]
      exact h
    have e : (ad.add (p * 2)).add j = ad.add (p * 2 + j) := add_twice _ _ _
    rw [e]
    exact hcell W1 hb01 _ _ h2
  have hone : ∀ u ∈ celV (l.drop p), u.oneCell' = true := celV_one _
  obtain ⟨v', W2, hrun, own2, hg2, _⟩ := run_append_own (P := Try.prog) W1 w.heap.size 57 57 59 i0 _ 2 24 Try.underlying57 hi hz0 hz1 hz2 rfl (by omega) (.slice A' k c') k (celV (l.take k)) own1 td m d (celV (l.drop p)) (by rw [celV_length, List.length_drop]; omega) hdrop hone (by unfold maxLen; omega) (by omega) hb01.size
  have hb02 : Below w.heap.size w W2 := hb01.grown hg2 hb01.size (fun j hj => (own1.lt j hj).1)
  have hown : W2.ownsRow w.heap.size 59 2 v' (n - 1) (celV (l.eraseIdx k)) := by
    have e : celV (l.eraseIdx k) = celV (l.take k) ++ celV (l.drop p) := by rw [List.eraseIdx_eq_take_drop_succ, celV_append, hpk]
    have e2 : n - 1 = k + m := by omega
    rw [e, e2]
    exact own2
  refine wpAnyH_ready (rs := [9]) (by kernel_rfl) (by simp) ?_
  refine AllReadyH.cons (o := ⟨some 14, _, _, _, _, _⟩) rfl (fun K hK => ?_) AllReadyH.nil
  refine step_append_run rfl (.tmp 9) (.tmp 13) 57 rfl (by simp [Act.eval, Act.put]) (by simp [Act.eval, Act.put]; exact htd) hrun ?_
  refine hK.out _ _ trivial (fun hHeld => ?_)
  clear hK K hrun
  try simp only [Act.put, List.setIfInBounds_toArray, List.set_cons_zero, List.set_cons_succ]
  refine wpAnyH_take (i := 10) (oi := ⟨some 4, _, _, _, _, _⟩) (v := ?_) rfl (by kernel_rfl) (by kernel_rfl) (by kernel_rfl) (fun _ _ _ h => h) (Or.inl ⟨by rfl, ?_⟩) (by assumption) ?_
  rotate_left
  focus (intro wq hSq; (try dsimp only at hSq); go_simp; try with_reducible rfl)
  try simp only [Act.put, List.setIfInBounds_toArray, List.set_cons_zero, List.set_cons_succ]
  refine wpAnyH_done (by kernel_rfl) ?_ _
  go_wp2_with fail
  all_goals go_ret
  all_goals exact ⟨_, rfl, hown, hb02⟩

end Go.Proofs.Ytleemgjbihdbgaa
