/-
  A region that draws its order, by an invariant: each operation is shown once, whatever has come up ahead of it; all orders follow. It speaks of no program.
-/
import Derived.Orders
import Derived.OwnWalk
namespace Go.Proofs.Ytjknloaolennoaa
open Go
set_option linter.unusedVariables false
set_option linter.unusedSimpArgs false

section
variable {P : Program} {ops : Array Oper} {Q : Exit → Act → World → Prop} {md : Region.Mode}

/-- The frame, with what each operation yields in its slot. -/
def putAll : List Oper → (Nat → Value) → Nat → Act → Act
  | [], _, _, a => a
  | o :: os, vs, k, a => putAll os vs (k + 1) (a.put o.dst (vs k))
def updV (vs : Nat → Value) (i : Nat) (v : Value) : Nat → Value := fun j => if j = i then v else vs j
theorem updV_same (vs : Nat → Value) (i : Nat) (v : Value) : updV vs i v i = v := if_pos rfl
theorem updV_other {vs : Nat → Value} {i j : Nat} (v : Value) (h : j ≠ i) : updV vs i v j = vs j := if_neg h
theorem put_same (a : Act) (d : Option Tmp) (u v : Value) : (a.put d u).put d v = a.put d v := by
  cases d with
  | none => rfl
  | some d => simp [Act.put]
theorem putAll_congr (os : List Oper) (vs us : Nat → Value) (k : Nat) (a : Act) (h : ∀ i, k ≤ i → vs i = us i) : putAll os vs k a = putAll os us k a := by
  induction os generalizing k a with
  | nil => rfl
  | cons o os ih => rw [putAll, putAll, h k (Nat.le_refl k), ih _ _ (fun i hi => h i (by omega))]
theorem putAll_put (os : List Oper) (vs : Nat → Value) (k : Nat) (a : Act) (d : Option Tmp) (v : Value) (h : ∀ o ∈ os, ∀ t, o.dst = some t → d ≠ some t) : (putAll os vs k a).put d v = putAll os vs k (a.put d v) := by
  induction os generalizing k a with
  | nil => rfl
  | cons o os ih =>
    rw [putAll, putAll, ih _ _ (fun x hx => h x (by simp [hx]))]
    rw [Act.put_comm a (x := o.dst) (y := d) (vs k) v (fun t ht => h o (by simp) t ht)]
/-- Each slot is written once. -/
def DstOk : List Oper → Prop
  | [] => True
  | o :: os => (∀ x ∈ os, ∀ t, x.dst = some t → o.dst ≠ some t) ∧ DstOk os
def dstB : List Oper → Bool
  | [] => true
  | o :: os => (match o.dst with | none => true | some t => os.all fun x => x.dst != some t) && dstB os
theorem dstOk_of : ∀ {os : List Oper}, dstB os = true → DstOk os
  | [], _ => trivial
  | o :: os, h => by
    rw [dstB, Bool.and_eq_true] at h
    refine ⟨fun x hx t ht e => ?_, dstOk_of h.2⟩
    rw [e] at h
    have := List.all_eq_true.1 h.1 x hx
    simp [ht] at this
theorem putAll_upd (os : List Oper) (vs : Nat → Value) (k i : Nat) (a : Act) (o : Oper) (v : Value) (hd : DstOk os) (hi : os[i]? = some o) : (putAll os vs k a).put o.dst v = putAll os (updV vs (k + i) v) k a := by
  induction os generalizing k i a with
  | nil => simp at hi
  | cons x os ih =>
    cases i with
    | zero =>
      simp at hi
      subst hi
      rw [putAll, putAll, putAll_put _ _ _ _ _ _ hd.1, put_same]
      simp only [Nat.add_zero, updV_same]
      exact putAll_congr _ _ _ _ _ fun j hj => (updV_other v (by omega)).symm
    | succ i =>
      rw [putAll, putAll, ih (k + 1) i _ hd.2 (by simpa using hi), show k + 1 + i = k + (i + 1) by omega, updV_other v (show k ≠ k + (i + 1) by omega)]
/-- The frame's own values. -/
def ownV (os : List Oper) (a : Act) (k i : Nat) : Value := match (os[i - k]?).bind (·.dst) with | some d => a.tmps.getD d undef | none => undef
theorem put_own (a : Act) (d : Option Tmp) : a.put d (match d with | some d => a.tmps.getD d undef | none => undef) = a := by
  cases d with
  | none => rfl
  | some d =>
    simp only [Act.put]
    have : a.tmps.setIfInBounds d (a.tmps.getD d undef) = a.tmps := by
      apply Array.ext
      · simp
      · intro i h1 h2
        rw [Array.getElem_setIfInBounds]
        split
        · rename_i e
          subst e
          simp [Array.getD, h2]
        · rfl
    rw [this]
theorem putAll_own (os : List Oper) (vs : Nat → Value) (k : Nat) (a : Act) (h : ∀ i o, os[i]? = some o → vs (k + i) = (match o.dst with | some d => a.tmps.getD d undef | none => undef)) : putAll os vs k a = a := by
  induction os generalizing k with
  | nil => rfl
  | cons o os ih =>
    rw [putAll, show vs k = _ from h 0 o rfl, put_own]
    exact ih (k + 1) fun i x hx => by
      have := h (i + 1) x (by simpa using hx)
      rwa [show k + (i + 1) = k + 1 + i by omega] at this

/-- What comes up waits for what stands ahead of it alone. -/
def topoB (md : Region.Mode) (ops : Array Oper) : Bool := (List.range ops.size).all fun i => match ops[i]? with | none => true | some o => o.after.all fun e => !Region.binds md e || decide (e.on < i)
theorem ready_some {listed : Array Bool} (ht : topoB md ops = true) (hs : listed.size = ops.size) (hr : Region.ready md ops listed = []) : ∀ i, i < ops.size → listed.getD i false = true := by
  intro i
  induction i using Nat.strongRecOn with
  | _ i ih =>
    intro hi
    rcases h0 : listed.getD i false with _ | _
    · exfalso
      have hmem : i ∈ Region.ready md ops listed := by
        rw [mem_ready]
        refine ⟨?_, ops[i], Array.getElem?_eq_getElem hi, fun e he hb => ?_⟩
        · have : i < listed.size := by omega
          simp [Array.getD, this] at h0 ⊢
          exact h0
        · have := List.all_eq_true.1 ht i (List.mem_range.2 hi)
          rw [Array.getElem?_eq_getElem hi] at this
          have h2 := Array.all_eq_true_iff_forall_mem.1 this e he
          simp [hb] at h2
          exact ih e.on h2 (by omega)
      rw [hr] at hmem
      cases hmem
    · rfl

/-- **Each operation once; all orders.** R: what is known of an operation's value; S: what holds throughout; Keep: what an operation does to the world. -/
theorem wpAny_free (R : Nat → Value → World → Prop) (S : World → Prop) (Keep : World → World → Prop) (a0 : Act) (hd : dstB ops.toList = true) (ht : topoB md ops = true)
    (hK : ∀ i v w w', i < ops.size → R i v w → Keep w w' → R i v w')
    (hop : ∀ i o (vs : Nat → Value) w, ops[i]? = some o → S w → (∀ e ∈ o.after, Region.binds md e = true → R e.on (vs e.on) w) →
      wpOp P ops Q i (fun a' w' => ∃ v, a' = (putAll ops.toList vs 0 a0).put o.dst v ∧ S w' ∧ R i v w' ∧ Keep w w') (putAll ops.toList vs 0 a0) w)
    (hend : ∀ (vs : Nat → Value) w, S w → (∀ i, i < ops.size → R i (vs i) w) → Q .normal (putAll ops.toList vs 0 a0) w) :
    ∀ (fuel : Nat) (listed : Array Bool) (vs : Nat → Value) (w : World), listed.size = ops.size → listed.toList.count false ≤ fuel → S w →
      (∀ i, listed.getD i false = true → R i (vs i) w) → wpAny P md ops Q fuel listed (putAll ops.toList vs 0 a0) w := by
  intro fuel
  induction fuel with
  | zero =>
    intro listed vs w hs hf hS hR
    have hall : ∀ i, i < ops.size → listed.getD i false = true := fun i hi => by
      rcases h0 : listed.getD i false with _ | _
      · exfalso
        have hl : i < listed.size := by omega
        simp [Array.getD, hl] at h0
        have : 0 < listed.toList.count false := List.count_pos_iff.2 (by rw [← h0]; simp)
        omega
      · rfl
    refine ⟨?_, hend vs w hS fun i hi => hR i (hall i hi)⟩
    apply List.eq_nil_iff_forall_not_mem.2
    intro i hi
    obtain ⟨h1, o, ho, _⟩ := mem_ready.1 hi
    have hlt := (Array.getElem?_eq_some_iff.1 ho).1
    have := hall i hlt
    have hl : i < listed.size := by omega
    simp [Array.getD, hl] at h1 this
    rw [h1] at this
    cases this
  | succ fuel ih =>
    intro listed vs w hs hf hS hR
    refine ⟨fun h0 => hend vs w hS fun i hi => hR i (ready_some ht hs h0 i hi), fun i hi => ?_⟩
    obtain ⟨h1, o, ho, hdeps⟩ := mem_ready.1 hi
    have hlt := (Array.getElem?_eq_some_iff.1 ho).1
    have hl : i < listed.size := by omega
    refine wpOp_mono (fun a' w' h => ?_) (hop i o vs w ho hS fun e he hb => hR e.on (hdeps e he hb))
    obtain ⟨v, rfl, hS', hRi, hk⟩ := h
    have hol : ops.toList[i]? = some o := by simpa using ho
    rw [putAll_upd ops.toList vs 0 i a0 o v (dstOk_of hd) hol, Nat.zero_add]
    have hf0 : listed[i] = false := by simpa [Array.getD, hl] using h1
    refine ih (listed.setIfInBounds i true) _ w' (by simpa using hs) ?_ hS' fun j hj => ?_
    · rw [Array.toList_setIfInBounds, List.count_set (by simpa using hl)]
      have : listed.toList[i]'(by simpa using hl) = false := by simpa using hf0
      rw [this]
      have hp : 0 < listed.toList.count false := List.count_pos_iff.2 (by rw [← hf0]; simp)
      show listed.toList.count false - 1 + 0 ≤ fuel
      omega
    · by_cases e : j = i
      · subst e
        rw [updV_same]
        exact hRi
      · rw [updV_other v e]
        rw [getD_set_ne false (fun h => e h.symm)] at hj
        have hjl : j < ops.size := by
          rcases Nat.lt_or_ge j ops.size with h2 | h2
          · exact h2
          · have : ¬ j < listed.size := by omega
            simp [Array.getD, this] at hj
        exact hK j _ w w' hjl (hR j hj) hk

/-- The region. -/
theorem wp_region_free (R : Nat → Value → World → Prop) (S : World → Prop) (Keep : World → World → Prop) {id : Nat} {a : Act} {w : World} (hm : P.follows .mixedOrders = true) (hd : dstB ops.toList = true) (ht : topoB .any ops = true)
    (hS : S w.drew)
    (hK : ∀ i v w w', i < ops.size → R i v w → Keep w w' → R i v w')
    (hop : ∀ i o (vs : Nat → Value) w, ops[i]? = some o → S w → (∀ e ∈ o.after, Region.binds .any e = true → R e.on (vs e.on) w) →
      wpOp P ops Q i (fun a' w' => ∃ v, a' = (putAll ops.toList vs 0 a).put o.dst v ∧ S w' ∧ R i v w' ∧ Keep w w') (putAll ops.toList vs 0 a) w)
    (hend : ∀ (vs : Nat → Value) w, S w → (∀ i, i < ops.size → R i (vs i) w) → Q .normal (putAll ops.toList vs 0 a) w) : (Code.region id ops true).wp P Q a w := by
  refine wp_region_any hm ?_
  have hown : putAll ops.toList (fun i => match (ops[i]?).bind (·.dst) with | some d => a.tmps.getD d undef | none => undef) 0 a = a :=
    putAll_own _ _ _ _ fun i o ho => by
      rw [Nat.zero_add]
      have : ops[i]? = some o := by simpa using ho
      simp only [this, Option.bind_some]
  have h := wpAny_free (md := .any) R S Keep a hd ht hK hop hend ops.size (Array.replicate ops.size false) (fun i => match (ops[i]?).bind (·.dst) with | some d => a.tmps.getD d undef | none => undef) w.drew (by simp) (by simp [List.count_replicate]) hS (fun i hi => by
    rcases Nat.lt_or_ge i ops.size with h2 | h2
    · simp [Array.getD, h2] at hi
    · have : ¬ i < ops.size := by omega
      simp [Array.getD, this] at hi)
  rw [hown] at h
  exact h
end

end Go.Proofs.Ytjknloaolennoaa
