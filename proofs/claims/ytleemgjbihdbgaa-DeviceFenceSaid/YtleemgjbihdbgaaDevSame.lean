/-
  The document's comparison of sectors: by contract.
-/
import Derived.Test.YtleemgjbihdbgaaJoinNumRefPut
import Derived.Test.YtleemgjbihdbgaaAid
import Derived.Deep.RegionHeld3
namespace Go.Proofs.Ytleemgjbihdbgaa
open Go.RowKit
set_option linter.unusedVariables false
set_option linter.unusedSimpArgs false

theorem text_same (a : ByteArray) : (a.toList == a.toList) = true := by simp
theorem text_diff {a b : ByteArray} (h : a ≠ b) : (a.toList == b.toList) = false := by
  apply beq_eq_false_iff_ne.2
  intro e
  apply h
  rw [ByteArray.toList_eq, ByteArray.toList_eq] at e
  exact ByteArray.ext (Array.ext' e)

set_option maxRecDepth 100000 in
set_option maxHeartbeats 1000000 in
theorem sameSectors_any (A A' : Option Addr) (n n' c c' B : Nat) (S S' : List ByteArray) (w : World) (hA : Lies w B A n (strV S)) (hA' : Lies w B A' n' (strV S')) (hl : S.length = n) (hl' : S'.length = n') (hn : n ≤ maxLen) (hn' : n' ≤ maxLen) (hB : B ≤ w.heap.size) :
    Calls Try.prog 17 #[.slice A n c, .slice A' n' c'] w fun e w' => e = .returned (.bool (decide (S = S'))) ∧ Below w.heap.size w w' := by
  unfold maxLen at hn hn'
  by_cases hlen : n = n'
  · subst hlen
    go_enter Try.func17, Try.ntmps17
    go_wp2_with fail
    go_loopw [5] (fun i wr => ∃ k : Nat, k ≤ n ∧ i = .int .i64 (k : Int) ∧ Below w.heap.size w wr ∧ Hid (∀ j : Nat, j < k → S[j]? = S'[j]?)) (fun i _ => n - (intOf i).toNat)
    case atStart => exact ⟨0, Nat.zero_le _, rfl, Below.refl _ _, fun j hj => by omega⟩
    case round =>
      obtain ⟨k, hk, rfl, hb, HP⟩ := hrel
      by_cases hlt : k < n
      · obtain ⟨ad, e1, h1⟩ := str_at (hA.keep fun p hp => hb.cell (by omega)) hlt (by omega)
        obtain ⟨ad', e2, h2⟩ := str_at (hA'.keep fun p hp => hb.cell (by omega)) hlt (by omega)
        subst e1 e2
        obtain ⟨x, hx⟩ : ∃ x, S[k]'(by omega) = x := ⟨_, rfl⟩
        obtain ⟨y, hy⟩ : ∃ y, S'[k]'(by omega) = y := ⟨_, rfl⟩
        rw [hx] at h1
        rw [hy] at h2
        have i0 : (0 : Int) ≤ (k : Int) := by omega
        have i1 : (k : Int) < (n : Int) := by omega
        by_cases hxy : x = y
        · have HP' : Hid (∀ j : Nat, j < k + 1 → S[j]? = S'[j]?) := fun j hj => by
            by_cases e : j = k
            · subst e
              rw [List.getElem?_eq_getElem (by omega), List.getElem?_eq_getElem (by omega), hx, hy, hxy]
            · exact HP.out j (by omega)
          subst hxy
          clear HP hx hy hA hA'
          go_wp2_with fail
          go_region_held3 (fun w' => w'.cell? (ad.add k) = some (.string x) ∧ w'.cell? (ad'.add k) = some (.string x)) (go_keep) (fail)
          go_wp2_with fail
          go_roundw
          case rel => exact ⟨k + 1, by omega, by go_num, hb.drew, HP'⟩
          case measure => simp [intOf]; omega
        · have HD : Hid (decide (S = S') = false) := by
            refine decide_eq_false fun e => hxy ?_
            subst e
            exact hx.symm.trans hy
          have t1 := text_diff hxy
          have t2 : (x.toList != y.toList) = true := by simp [bne, t1]
          clear HP hx hy hA hA'
          go_wp2_with fail
          go_region_held3 (fun w' => w'.cell? (ad.add k) = some (.string x) ∧ w'.cell? (ad'.add k) = some (.string y)) (go_keep) (fail)
          go_wp2_with fail
          go_ret
          exact ⟨by rw [HD.out]; rfl, hb.drew⟩
      · have hkn : k = n := by omega
        subst hkn
        have HD : Hid (decide (S = S') = true) := by
          refine decide_eq_true (List.ext_getElem? fun j => ?_)
          by_cases hj : j < k
          · exact HP.out j hj
          · rw [List.getElem?_eq_none (by omega), List.getElem?_eq_none (by omega)]
        go_wp2_with fail
        go_ret
        exact ⟨by rw [HD.out]; rfl, hb⟩
  · have HD : Hid (decide (S = S') = false) := decide_eq_false fun e => hlen (by rw [← hl, ← hl', e])
    have hne : ((n : Int) == (n' : Int)) = false := beq_no (by omega)
    have hne2 : ((n : Int) != (n' : Int)) = true := by simp [bne, hne]
    go_enter Try.func17, Try.ntmps17
    go_wp2_with fail
    go_ret
    exact ⟨by rw [HD.out]; rfl, Below.refl _ _⟩

end Go.Proofs.Ytleemgjbihdbgaa
