/-
  A region that draws its order and ends in one operation that waits for all others, as base/XLast has it, with a relation between any two operations' values (that what they made lies apart). It speaks of no program.
-/
import Derived.Test.YtjknloaolennoaaLast
namespace Go.Proofs.Ytjknloaolennoaa
open Go Go.RowKit
set_option linter.unusedVariables false
set_option linter.unusedSimpArgs false

section
variable {P : Program} {ops : Array Oper} {Q : Exit → Act → World → Prop} {md : Region.Mode}

theorem wpAny_last2 (T : Nat → Nat → Value → Value → Prop) (R : Nat → Value → World → Prop) (S : World → Prop) (a0 : Act) (n : Nat) (hn : ops.size = n + 1) (hd : dstB ops.toList = true) (ht : topoB md ops = true) (hsink : sinkB md ops = true)
    (hK : ∀ i v w w', i < n → R i v w → Below w.heap.size w w' → R i v w')
    (hop : ∀ i o (vs : Nat → Value) w, i < n → ops[i]? = some o → S w → (∀ e ∈ o.after, Region.binds md e = true → R e.on (vs e.on) w) → (∀ e ∈ o.after, ∀ e' ∈ o.after, Region.binds md e = true → Region.binds md e' = true → e.on ≠ e'.on → T e.on e'.on (vs e.on) (vs e'.on)) →
      wpOp P ops Q i (fun a' w' => ∃ v, a' = (putAll ops.toList vs 0 a0).put o.dst v ∧ S w' ∧ R i v w' ∧ Below w.heap.size w w' ∧ ∀ j u, j < n → j ≠ i → R j u w → (∀ e ∈ o.after, Region.binds md e = true → e.on ≠ j → T j e.on u (vs e.on)) → T j i u v ∧ T i j v u) (putAll ops.toList vs 0 a0) w)
    (hend : ∀ (vs : Nat → Value) w, S w → (∀ i, i < n → R i (vs i) w) → (∀ i j, i < n → j < n → i ≠ j → T i j (vs i) (vs j)) → wpOp P ops Q n (fun a' w' => Q .normal a' w') (putAll ops.toList vs 0 a0) w) :
    ∀ (fuel : Nat) (listed : Array Bool) (vs : Nat → Value) (w : World), listed.size = ops.size → listed.toList.count false ≤ fuel → listed.getD n false = false → S w →
      (∀ i, i < n → listed.getD i false = true → R i (vs i) w) → (∀ i j, i < n → j < n → i ≠ j → listed.getD i false = true → listed.getD j false = true → T i j (vs i) (vs j)) → wpAny P md ops Q fuel listed (putAll ops.toList vs 0 a0) w := by
  intro fuel
  induction fuel with
  | zero =>
    intro listed vs w hs hf hln hS hR hT
    exfalso
    have hl : n < listed.size := by omega
    simp [Array.getD, hl] at hln
    have : 0 < listed.toList.count false := List.count_pos_iff.2 (by rw [← hln]; simp)
    omega
  | succ fuel ih =>
    intro listed vs w hs hf hln hS hR hT
    refine ⟨fun h0 => ?_, fun i hi => ?_⟩
    · have := ready_some ht hs h0 n (by omega)
      rw [hln] at this
      cases this
    · obtain ⟨h1, o, ho, hdeps⟩ := mem_ready.1 hi
      have hlt := (Array.getElem?_eq_some_iff.1 ho).1
      have hl : i < listed.size := by omega
      by_cases hin : i = n
      · subst hin
        have hall : ∀ j, j < i → listed.getD j false = true := fun j hj => by
          unfold sinkB at hsink
          rw [show ops.size - 1 = i by omega, ho] at hsink
          have h2 := List.all_eq_true.1 hsink j (List.mem_range.2 hj)
          rw [Array.any_eq_true] at h2
          obtain ⟨k, hk, h3⟩ := h2
          rw [Bool.and_eq_true] at h3
          have h4 := hdeps _ (Array.getElem_mem hk) h3.1
          have h5 : (o.after[k]).on = j := by simpa using h3.2
          rw [h5] at h4
          exact h4
        refine wpOp_mono (fun a' w' h => ?_) (hend vs w hS (fun j hj => hR j hj (hall j hj)) fun j m hj hm hne => hT j m hj hm hne (hall j hj) (hall m hm))
        have hdone : Region.ready md ops (listed.setIfInBounds i true) = [] := by
          apply List.eq_nil_iff_forall_not_mem.2
          intro j hj
          obtain ⟨h2, o2, ho2, _⟩ := mem_ready.1 hj
          have hj2 := (Array.getElem?_eq_some_iff.1 ho2).1
          by_cases e : j = i
          · subst e
            simp [Array.getD, hl] at h2
          · have h3 := hall j (by omega)
            rw [getD_set_ne true (fun h => e h.symm)] at h2
            have hlj : j < listed.size := by omega
            simp [Array.getD, hlj] at h2 h3
            rw [h2] at h3
            cases h3
        cases fuel with
        | zero => exact ⟨hdone, h⟩
        | succ f => exact ⟨fun _ => h, fun j hj => by rw [hdone] at hj; cases hj⟩
      · have hi' : i < n := by omega
        have hon : ∀ e ∈ o.after, Region.binds md e = true → e.on < n := fun e he hb => by
          have h6 := List.all_eq_true.1 ht i (List.mem_range.2 hlt)
          rw [ho] at h6
          have h7 := Array.all_eq_true_iff_forall_mem.1 h6 e he
          simp [hb] at h7
          omega
        refine wpOp_mono (fun a' w' h => ?_) (hop i o vs w hi' ho hS (fun e he hb => ?_) fun e he e' he' hb hb' hne => hT e.on e'.on (hon e he hb) (hon e' he' hb') hne (hdeps e he hb) (hdeps e' he' hb'))
        · obtain ⟨v, rfl, hS', hRi, hk, hTn⟩ := h
          have hol : ops.toList[i]? = some o := by simpa using ho
          rw [putAll_upd ops.toList vs 0 i a0 o v (dstOk_of hd) hol, Nat.zero_add]
          have hf0 : listed[i] = false := by simpa [Array.getD, hl] using h1
          refine ih (listed.setIfInBounds i true) _ w' (by simpa using hs) ?_ (by rw [getD_set_ne false hin]; exact hln) hS' (fun j hjn hj => ?_) (fun j m hjn hmn hjm hj hm => ?_)
          · rw [Array.toList_setIfInBounds, List.count_set (by simpa using hl)]
            have : listed.toList[i]'(by simpa using hl) = false := by simpa using hf0
            rw [this]
            have hp : 0 < listed.toList.count false := List.count_pos_iff.2 (by rw [← hf0]; simp)
            show listed.toList.count false - 1 + 0 ≤ fuel
            omega
          · by_cases e : j = i
            · subst e
              rw [updV_same]
              exact hRi
            · rw [updV_other v e]
              rw [getD_set_ne false (fun h => e h.symm)] at hj
              exact hK j _ w w' hjn (hR j hjn hj) hk
          · have hT' : ∀ q, q < n → q ≠ i → listed.getD q false = true → T q i (vs q) v ∧ T i q v (vs q) := fun q hq hqi hql =>
              hTn q (vs q) hq hqi (hR q hq hql) fun e he hb hne => hT q e.on hq (hon e he hb) (fun h => hne h.symm) hql (hdeps e he hb)
            by_cases e1 : j = i <;> by_cases e2 : m = i
            · exact absurd (e1.trans e2.symm) hjm
            · subst e1
              rw [updV_same, updV_other v e2]
              rw [getD_set_ne false (fun h => e2 h.symm)] at hm
              exact (hT' m hmn e2 hm).2
            · subst e2
              rw [updV_same, updV_other v e1]
              rw [getD_set_ne false (fun h => e1 h.symm)] at hj
              exact (hT' j hjn e1 hj).1
            · rw [updV_other v e1, updV_other v e2]
              rw [getD_set_ne false (fun h => e1 h.symm)] at hj
              rw [getD_set_ne false (fun h => e2 h.symm)] at hm
              exact hT j m hjn hmn hjm hj hm
        · have h4 := hdeps e he hb
          have h5 : e.on < n := by
            have h6 := List.all_eq_true.1 ht i (List.mem_range.2 hlt)
            rw [ho] at h6
            have h7 := Array.all_eq_true_iff_forall_mem.1 h6 e he
            simp [hb] at h7
            omega
          exact hR e.on h5 h4

/-- The region, with what holds of any two operations' values. -/
theorem wp_region_last2 (T : Nat → Nat → Value → Value → Prop) (R : Nat → Value → World → Prop) (S : World → Prop) (n : Nat) {id : Nat} {a : Act} {w : World} (hm : P.follows .mixedOrders = true) (hn : ops.size = n + 1) (hd : dstB ops.toList = true) (ht : topoB .any ops = true) (hsink : sinkB .any ops = true)
    (hS : S w.drew)
    (hK : ∀ i v w w', i < n → R i v w → Below w.heap.size w w' → R i v w')
    (hop : ∀ i o (vs : Nat → Value) w, i < n → ops[i]? = some o → S w → (∀ e ∈ o.after, Region.binds .any e = true → R e.on (vs e.on) w) → (∀ e ∈ o.after, ∀ e' ∈ o.after, Region.binds .any e = true → Region.binds .any e' = true → e.on ≠ e'.on → T e.on e'.on (vs e.on) (vs e'.on)) →
      wpOp P ops Q i (fun a' w' => ∃ v, a' = (putAll ops.toList vs 0 a).put o.dst v ∧ S w' ∧ R i v w' ∧ Below w.heap.size w w' ∧ ∀ j u, j < n → j ≠ i → R j u w → (∀ e ∈ o.after, Region.binds .any e = true → e.on ≠ j → T j e.on u (vs e.on)) → T j i u v ∧ T i j v u) (putAll ops.toList vs 0 a) w)
    (hend : ∀ (vs : Nat → Value) w, S w → (∀ i, i < n → R i (vs i) w) → (∀ i j, i < n → j < n → i ≠ j → T i j (vs i) (vs j)) → wpOp P ops Q n (fun a' w' => Q .normal a' w') (putAll ops.toList vs 0 a) w) : (Code.region id ops true).wp P Q a w := by
  refine wp_region_any hm ?_
  have hown : putAll ops.toList (fun i => match (ops[i]?).bind (·.dst) with | some d => a.tmps.getD d undef | none => undef) 0 a = a :=
    putAll_own _ _ _ _ fun i o ho => by
      rw [Nat.zero_add]
      have : ops[i]? = some o := by simpa using ho
      simp only [this, Option.bind_some]
      cases o.dst <;> rfl
  have hnl : ∀ i, ¬ (Array.replicate ops.size false).getD i false = true := fun i hi => by
    rcases Nat.lt_or_ge i ops.size with h2 | h2
    · simp [Array.getD, h2] at hi
    · have : ¬ i < ops.size := by omega
      simp [Array.getD, this] at hi
  have h := wpAny_last2 (md := .any) T R S a n hn hd ht hsink hK hop hend ops.size (Array.replicate ops.size false) (fun i => match (ops[i]?).bind (·.dst) with | some d => a.tmps.getD d undef | none => undef) w.drew (by simp) (by simp [List.count_replicate]) (by
    have := hnl n
    simpa using this) hS (fun i _ hi => absurd hi (hnl i)) (fun i _ _ _ _ hi _ => absurd hi (hnl i))
  rw [hown] at h
  exact h

end

end Go.Proofs.Ytjknloaolennoaa
