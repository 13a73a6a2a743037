/-
  A region that draws its order and in which one operation (number m: a store) hits cells that others load: a load that m waits for may be taken first where a condition S holds till m has come up; behind m nothing is asked of S. It speaks of no program.
-/
import Derived.Test.YtjdacpnfgpdjhaaDoorAid
import Derived.OrdersHeld
import Derived.Deep.RegionHeld
namespace Go.Proofs.YtjdacpnfgpdjhaaDoor
open Go Go.RowKit
set_option linter.unusedVariables false
set_option linter.unusedSimpArgs false

section
variable {P : Program} {ops : Array Oper} {Q : Exit → Act → World → Prop} {md : Region.Mode} {m : Nat} {S : World → Prop}

/-- Whatever order is picked from here on, and S holds behind every operation that comes up ahead of number m. -/
def wpAnyM (P : Program) (md : Region.Mode) (ops : Array Oper) (Q : Exit → Act → World → Prop) (m : Nat) (S : World → Prop) : Nat → Array Bool → Act → World → Prop
  | 0, listed, a, w => Region.ready md ops listed = [] ∧ Q .normal a w
  | fuel + 1, listed, a, w =>
    (Region.ready md ops listed = [] → Q .normal a w) ∧
    ∀ i ∈ Region.ready md ops listed, wpOp P ops Q i (fun a' w' => ((listed.setIfInBounds i true).getD m false = false → S w') ∧ wpAnyM P md ops Q m S fuel (listed.setIfInBounds i true) a' w') a w
theorem wpAny_of_to : ∀ (fuel : Nat) (listed : Array Bool) (a : Act) (w : World), wpAnyM P md ops Q m S fuel listed a w → wpAny P md ops Q fuel listed a w
  | 0, _, _, _, h => h
  | fuel + 1, _, _, _, h => ⟨h.1, fun i hi => wpOp_mono (fun a' w' h' => wpAny_of_to fuel _ a' w' h'.2) (h.2 i hi)⟩

theorem set_m {m : Nat} (listed : Array Bool) (j : Nat) (h : (listed.setIfInBounds j true).getD m false = false) : listed.getD m false = false := by
  rcases Nat.lt_or_ge m listed.size with h1 | h1
  · by_cases e : j = m
    · subst e
      simp [Array.getD, h1] at h
    · rwa [getD_set_ne false e] at h
  · have : ¬ m < listed.size := by omega
    simp [Array.getD, this]

theorem wpAnyM_first {i : Nat} {oi : Oper} {v : Value} {S' : World → Prop} (hi : ops[i]? = some oi) (hsel : ∀ (j : Nat) (o : Oper) cs b, ops[j]? = some o → o.op ≠ .select cs b)
    (hQ : ∀ c a w, Q (.panic c) (a.put oi.dst v) w → Q (.panic c) a w) (hmi : i ≠ m)
    (hm : (∀ w, S' w) ∨ ((∀ w, S w → S' w) ∧ ∃ om, ops[m]? = some om ∧ ∃ e ∈ om.after, Region.binds md e = true ∧ e.on = i)) :
    ∀ (fuel : Nat) (listed : Array Bool) (a : Act) (w : World),
      (∀ j oj, ops[j]? = some oj → j ≠ i → listed.getD j true = false → (∀ e ∈ oj.after, Region.binds md e = true → e.on ≠ i) → oi.apart ops oj = true) →
      i ∈ Region.ready md ops listed → YieldsIf P ops S' oi v a → (listed.getD m false = false → S w) → ((∀ w, S' w) ∨ listed.getD m false = false) →
      wpAnyM P md ops Q m S fuel (listed.setIfInBounds i true) (a.put oi.dst v) w → wpAnyM P md ops Q m S (fuel + 1) listed a w := by
  intro fuel
  induction fuel with
  | zero =>
    intro listed a w _ hr hy hS hl H
    refine ⟨fun h => (by rw [h] at hr; cases hr), fun j hj => ?_⟩
    by_cases hji : j = i
    · subst hji
      have hS' : S' w := hl.elim (fun h => h w) (fun h => hm.elim (fun h2 => h2 w) (fun h2 => h2.1 w (hS h)))
      exact hy.wpOp hi hS' ⟨fun h => hS (set_m _ _ h), H⟩
    · have := ready_mono hj hji
      rw [H.1] at this
      cases this
  | succ fuel ih =>
    intro listed a w hfree hr hy hS hl H
    refine ⟨fun h => (by rw [h] at hr; cases hr), fun j hj => ?_⟩
    by_cases hji : j = i
    · subst hji
      have hS' : S' w := hl.elim (fun h => h w) (fun h => hm.elim (fun h2 => h2 w) (fun h2 => h2.1 w (hS h)))
      exact hy.wpOp hi hS' ⟨fun h => hS (set_m _ _ h), H⟩
    · have h1 := H.2 j (ready_mono hj hji)
      obtain ⟨hjun, oj, hoj, hall⟩ := mem_ready.1 hj
      have hnot : ∀ e ∈ oj.after, Region.binds md e = true → e.on ≠ i := fun e he hb heq => by
        have h1 := hall e he hb
        have h0 := (mem_ready.1 hr).1
        rw [heq] at h1
        rcases Nat.lt_or_ge i listed.size with h' | h'
        · simp [h'] at h0 h1; rw [h0] at h1; cases h1
        · simp [Array.getElem?_eq_none h'] at h1
      have h2 := wpOp_putIf hoj (hfree j oj hoj hji hjun hnot) (fun cs b => hsel i oi cs b hi) (fun cs b => hsel j oj cs b hoj) hQ hy h1
      have hfree' : ∀ k ok, ops[k]? = some ok → k ≠ i → (listed.setIfInBounds j true).getD k true = false →
          (∀ e ∈ ok.after, Region.binds md e = true → e.on ≠ i) → oi.apart ops ok = true := fun k ok hk hki hun hno => by
        refine hfree k ok hk hki ?_ hno
        by_cases hjk : j = k
        · subst hjk; exact hjun
        · rw [getD_set_ne true hjk] at hun; exact hun
      have hcomm : (listed.setIfInBounds i true).setIfInBounds j true = (listed.setIfInBounds j true).setIfInBounds i true := Array.setIfInBounds_comm _ _ (Ne.symm hji)
      refine wpOp_mono (fun a' w' h3 => ?_) h2
      obtain ⟨h4, h5, h6⟩ := h3
      have hl' : (∀ w, S' w) ∨ (listed.setIfInBounds j true).getD m false = false := by
        rcases hl with h7 | h7
        · exact .inl h7
        · rcases hm with h8 | ⟨_, om, hom, e, he, hb, heq⟩
          · exact .inl h8
          · right
            have hjm : j ≠ m := by
              rintro rfl
              rw [hoj] at hom
              obtain rfl := Option.some.inj hom
              exact hnot e he hb heq
            rw [getD_set_ne false hjm]
            exact h7
      have hS2 : (listed.setIfInBounds j true).getD m false = false → S w' := fun h7 => h5 (by rw [hcomm, getD_set_ne false hmi]; exact h7)
      refine ⟨hS2, ih (listed.setIfInBounds j true) a' w' hfree' (ready_mono hr (Ne.symm hji)) h4 hS2 hl' ?_⟩
      rw [← hcomm]
      exact h6

/-- Does number m wait for number i? -/
def waitsB (md : Region.Mode) (ops : Array Oper) (m i : Nat) : Bool := match ops[m]? with | none => false | some om => om.after.any fun e => Region.binds md e && e.on == i
/-- Number i, which m waits for, is taken first: it yields v in every world that meets S. -/
theorem wpAnyM_take {i : Nat} {oi : Oper} {v : Value} {fuel : Nat} {listed : Array Bool} {a : Act} {w : World} (hi : ops[i]? = some oi)
    (hs : Region.noSelect ops = true) (hf : Region.free md ops listed i = true) (hr : (Region.ready md ops listed).contains i = true)
    (hQ : ∀ c a w, Q (.panic c) (a.put oi.dst v) w → Q (.panic c) a w) (hmi : decide (i ≠ m) = true) (hw : waitsB md ops m i = true) (hl : listed.getD m false = false)
    (hy : YieldsIf P ops S oi v a) (hS : listed.getD m false = false → S w)
    (h : wpAnyM P md ops Q m S fuel (listed.setIfInBounds i true) (a.put oi.dst v) w) : wpAnyM P md ops Q m S (fuel + 1) listed a w := by
  refine wpAnyM_first (S' := S) hi (Region.noSelect_spec hs) hQ (of_decide_eq_true hmi) (.inr ⟨fun _ h => h, ?_⟩) fuel listed a w (Region.free_spec hi hf) (by simpa using hr) hy hS (.inr hl) h
  unfold waitsB at hw
  cases e : ops[m]? with
  | none => rw [e] at hw; cases hw
  | some om =>
    rw [e] at hw
    obtain ⟨k, hk, h2⟩ := Array.any_eq_true.1 hw
    rw [Bool.and_eq_true] at h2
    exact ⟨om, rfl, om.after[k], Array.getElem_mem hk, h2.1, by simpa using h2.2⟩
/-- Number i is taken first: it yields v in whatever world. -/
theorem wpAnyM_takeA {i : Nat} {oi : Oper} {v : Value} {fuel : Nat} {listed : Array Bool} {a : Act} {w : World} (hi : ops[i]? = some oi)
    (hs : Region.noSelect ops = true) (hf : Region.free md ops listed i = true) (hr : (Region.ready md ops listed).contains i = true)
    (hQ : ∀ c a w, Q (.panic c) (a.put oi.dst v) w → Q (.panic c) a w) (hmi : decide (i ≠ m) = true)
    (hy : YieldsIf P ops (fun _ => True) oi v a) (hS : listed.getD m false = false → S w)
    (h : wpAnyM P md ops Q m S fuel (listed.setIfInBounds i true) (a.put oi.dst v) w) : wpAnyM P md ops Q m S (fuel + 1) listed a w :=
  wpAnyM_first (S' := fun _ => True) hi (Region.noSelect_spec hs) hQ (of_decide_eq_true hmi) (.inl fun _ => trivial) fuel listed a w (Region.free_spec hi hf) (by simpa using hr) hy hS (.inl fun _ => trivial) h

/-- Whichever of those that are ready. -/
def AllReadyM (P : Program) (md : Region.Mode) (ops : Array Oper) (Q : Exit → Act → World → Prop) (m : Nat) (S : World → Prop) (fuel : Nat) (listed : Array Bool) (a : Act) (w : World) (rs : List Nat) : Prop :=
  ∀ i ∈ rs, wpOp P ops Q i (fun a' w' => ((listed.setIfInBounds i true).getD m false = false → S w') ∧ wpAnyM P md ops Q m S fuel (listed.setIfInBounds i true) a' w') a w
theorem AllReadyM.nil {fuel : Nat} {listed : Array Bool} {a : Act} {w : World} : AllReadyM P md ops Q m S fuel listed a w [] := fun _ h => by cases h
theorem AllReadyM.cons {fuel : Nat} {listed : Array Bool} {a : Act} {w : World} {i : Nat} {o : Oper} {rs : List Nat} (ho : ops[i]? = some o)
    (h : ∀ K' : Act → World → Prop, Shut (∀ a w, ((listed.setIfInBounds i true).getD m false = false → S w) → (((listed.setIfInBounds i true).getD m false = false → S w) → wpAnyM P md ops Q m S fuel (listed.setIfInBounds i true) a w) → K' a w) → if Region.wanted o (yielded ops a.tmps) = true then Oper.wp P o a w K' Q else K' (a.put o.dst undef) w)
    (hs : AllReadyM P md ops Q m S fuel listed a w rs) : AllReadyM P md ops Q m S fuel listed a w (i :: rs) := fun j hj => by
  rcases List.mem_cons.1 hj with rfl | hj
  · exact wpOp_step ho (fun K' hK => h K' (fun a w hS hW => hK a w ⟨hS, hW hS⟩))
  · exact hs j hj
theorem wpAnyM_ready {rs : List Nat} {fuel : Nat} {listed : Array Bool} {a : Act} {w : World} (hr : Region.ready md ops listed = rs) (hne : rs ≠ [])
    (h : AllReadyM P md ops Q m S fuel listed a w rs) : wpAnyM P md ops Q m S (fuel + 1) listed a w := ⟨fun h0 => absurd (hr ▸ h0) hne, hr ▸ h⟩
theorem wpAnyM_done {listed : Array Bool} {a : Act} {w : World} (hr : Region.ready md ops listed = []) (h : Q .normal a w) :
    ∀ fuel, wpAnyM P md ops Q m S fuel listed a w
  | 0 => ⟨hr, h⟩
  | _ + 1 => ⟨fun _ => h, by rw [hr]; simp⟩
theorem wp_region_to {id : Nat} {a : Act} {w : World} (m : Nat) (hm : P.follows .mixedOrders = true) (hS : S w.drew)
    (h : ((Array.replicate ops.size false).getD m false = false → S w.drew) → wpAnyM P .any ops Q m S ops.size (Array.replicate ops.size false) a w.drew) : (Code.region id ops true).wp P Q a w :=
  wp_region_any hm (wpAny_of_to _ _ _ _ (h fun _ => hS))
end

end Go.Proofs.YtjdacpnfgpdjhaaDoor
