/-
  The program's device: keys that are fenced, a sector that there is, a key that was given: by contract.
-/
import Derived.Test.YtleemgjbihdbgaaDevLeaf
namespace Go.Proofs.Ytleemgjbihdbgaa
open Go.RowKit
set_option linter.unusedVariables false
set_option linter.unusedSimpArgs false

def outK (F : List Int) (x : Int) : Bool := decide (x < 1) || decide (x ∈ F)
theorem outK_yes {F : List Int} {x : Int} (h : x < 1) : outK F x = true := by unfold outK; rw [decide_eq_true h]; rfl
theorem outK_no {F : List Int} {x : Int} (h : ¬ x < 1) : outK F x = decide (x ∈ F) := by unfold outK; rw [decide_eq_false h]; rfl
theorem outK_any (F keys : List Int) : keys.any (outK F) = fencedAny F keys := rfl

theorem isOut1_any (x : Int) (b nF cF B : Nat) (aF : Option Addr) (F : List Int) (w : World) (hc : w.cell? ⟨b, 4, none⟩ = some (.slice aF nF cF)) (hF : Lies w B aF nF (F.map (Value.int .i64))) (hl : F.length = nF) (hn : nF ≤ maxLen) :
    Calls Try.prog 60 #[.int .i64 x, .pointer (some ⟨b, 0, none⟩)] w fun e w' => e = .returned (.bool (outK F x)) ∧ w = w' := by
  have hcall := hasInt_any aF nF cF B F x w hF hl hn
  clear hF
  by_cases h1 : x < 1
  · have HO := Lib.hid (outK_yes (F := F) h1)
    go_enter Try.func60, Try.ntmps60
    go_wp2_with fail
    go_ret
    exact ⟨by rw [HO.out]; rfl, rfl⟩
  · have HO := Lib.hid (outK_no (F := F) h1)
    have hd : decide (x < 1) = false := decide_eq_false h1
    go_enter Try.func60, Try.ntmps60
    go_wp2_with fail
    refine hcall.mono ?_
    rintro e w' ⟨rfl, rfl⟩
    go_wp2_with fail
    go_ret
    exact ⟨by rw [HO.out]; rfl, rfl⟩

set_option maxRecDepth 100000 in
set_option maxHeartbeats 1000000 in
theorem idxOut_any (A : Option Addr) (n c B B2 : Nat) (l : List Int) (b nF cF : Nat) (aF : Option Addr) (F : List Int) (w : World) (hA : Lies w B A n (l.map (Value.int .i64))) (hl : l.length = n) (hn : n ≤ maxLen)
    (hc : w.cell? ⟨b, 4, none⟩ = some (.slice aF nF cF)) (hF : Lies w B2 aF nF (F.map (Value.int .i64))) (hFl : F.length = nF) (hFn : nF ≤ maxLen) :
    Calls Try.prog 74 #[.slice A n c, .func (.func 60) #[] #[.pointer (some ⟨b, 0, none⟩)]] w fun e w' => ∃ r : Int, e = .returned (.int .i64 r) ∧ Hid (Found l (outK F) r) ∧ w = w' := by
  unfold maxLen at hn
  have hcall := fun x => isOut1_any x b nF cF B2 aF F w hc hF hFl hFn
  clear hF hc
  go_enter Try.func74, Try.ntmps74
  go_wp2_with fail
  go_loopw [5, 8] (fun _ i wr => ∃ k : Nat, k ≤ n ∧ i = .int .i64 (k : Int) ∧ wr = w ∧ Hid (∀ j : Nat, j < k → ∀ h : j < l.length, outK F l[j] = false)) (fun _ i _ => n - (intOf i).toNat)
  case atStart => exact ⟨0, Nat.zero_le _, rfl, rfl, fun j hj => by omega⟩
  case round =>
    obtain ⟨k, hk, rfl, rfl, HP⟩ := hrel
    by_cases hlt : k < n
    · obtain ⟨ad, e1, _, hcl⟩ := int_at hA hlt (by omega)
      subst e1
      obtain ⟨s, hs⟩ : ∃ s, l[k]'(by omega) = s := ⟨_, rfl⟩
      have HS : Hid (∃ h : k < l.length, l[k] = s) := ⟨by omega, hs⟩
      rw [hs] at hcl
      clear hs
      have hcs := hcall s
      clear hcall
      cases ht : outK F s with
      | true =>
        rw [ht] at hcs
        go_wp2_with fail
        refine hcs.mono ?_
        rintro e w' ⟨rfl, rfl⟩
        go_wp2_with fail
        go_ret
        obtain ⟨h1, h2⟩ := HS.out
        exact ⟨_, rfl, .inl ⟨k, rfl, h1, by rw [h2]; exact ht, HP.out⟩, rfl⟩
      | false =>
        rw [ht] at hcs
        have HP' : Hid (∀ j : Nat, j < k + 1 → ∀ h : j < l.length, outK F l[j] = false) := fun j hj h => by
          by_cases e : j = k
          · subst e
            rw [HS.out.2]; exact ht
          · exact HP.out j (by omega) h
        clear HP HS
        go_wp2_with fail
        refine hcs.mono ?_
        rintro e w' ⟨rfl, rfl⟩
        go_wp2_with fail
        go_roundw
        case rel => exact ⟨k + 1, by omega, by go_num, trivial, HP'⟩
        case measure => simp [intOf]; omega
    · have hkn : k = n := by omega
      go_wp2_with fail
      go_ret
      exact ⟨_, rfl, .inr ⟨rfl, fun j h => HP.out j (by omega) h⟩, rfl⟩

theorem hasOut_any (A : Option Addr) (n c B B2 : Nat) (l : List Int) (b nF cF : Nat) (aF : Option Addr) (F : List Int) (w : World) (hA : Lies w B A n (l.map (Value.int .i64))) (hl : l.length = n) (hn : n ≤ maxLen)
    (hc : w.cell? ⟨b, 4, none⟩ = some (.slice aF nF cF)) (hF : Lies w B2 aF nF (F.map (Value.int .i64))) (hFl : F.length = nF) (hFn : nF ≤ maxLen) :
    Calls Try.prog 59 #[.slice A n c, .func (.func 60) #[] #[.pointer (some ⟨b, 0, none⟩)]] w fun e w' => e = .returned (.bool (fencedAny F l)) ∧ w = w' := by
  have hcall := idxOut_any A n c B B2 l b nF cF aF F w hA hl hn hc hF hFl hFn
  clear hA hF hc
  go_enter Try.func59, Try.ntmps59
  go_wp2_with fail
  refine hcall.mono ?_
  rintro e w' ⟨r, rfl, HR, rfl⟩
  go_wp2_with fail
  go_ret
  exact ⟨by rw [← outK_any, HR.out.any]; rfl, rfl⟩

set_option maxRecDepth 100000 in
theorem isFenced_any (v : Value) (D : Dev) (A : Option Addr) (n c : Nat) (keys : List Int) (w : World) (hD : DevAt w w.heap.size v D) (hA : Lies w w.heap.size A n (keys.map (Value.int .i64))) (hl : keys.length = n) (hn : n ≤ maxLen) :
    Calls Try.prog 37 #[v, .slice A n c] w fun e w' => e = .returned (.bool (fencedAny D.F keys)) ∧ Below w.heap.size w w' := by
  obtain ⟨vS, vC, vK, vF, rfl, _, _, _, ⟨aF, cF, rfl, hFc, hFm, hF⟩⟩ := hD
  obtain ⟨nF, hFl⟩ : ∃ nF, D.F.length = nF := ⟨_, rfl⟩
  rw [hFl] at hFc hF ⊢
  generalize D.F = F at *
  generalize D.n = dn
  obtain ⟨W0, hW⟩ : ∃ W0, W0 = w.alloc (.cells #[vS, vC, vK, .int .i64 dn, .slice aF nF cF] 55) := ⟨_, rfl⟩
  have hb : Below w.heap.size w W0 := hW ▸ below_alloc w _
  have p0 : Blk W0 w.heap.size #[vS, vC, vK, .int .i64 dn, .slice aF nF cF] 55 := hW ▸ Blk.new w _ _
  have c4 : W0.cell? ⟨w.heap.size, 4, none⟩ = some (.slice aF nF cF) := p0.cell 4 _ rfl
  have hcall := hasOut_any A n c _ _ keys w.heap.size nF cF aF F W0 (lies_up hA hb) hl hn c4 (lies_up hF hb) hFl (by omega)
  clear p0 hA hF c4
  go_enter Try.func37, Try.ntmps37
  go_wp2_with fail
  rw [← hW]
  clear hW
  refine hcall.mono ?_
  rintro e w' ⟨rfl, rfl⟩
  go_wp2_with fail
  go_ret
  exact ⟨rfl, hb⟩

end Go.Proofs.Ytleemgjbihdbgaa
