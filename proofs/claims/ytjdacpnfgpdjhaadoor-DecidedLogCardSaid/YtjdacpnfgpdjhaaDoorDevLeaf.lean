/-
  The program's device: texts that are too long, a number in a row, keys that are fenced, a sector that there is, a key that was given: by contract.
-/
import Derived.Test.YtjdacpnfgpdjhaaDoorDevRefA
import Derived.Deep.RegionHeld3
import Derived.Shelf.RegionOpenPlain
namespace Go.Proofs.YtjdacpnfgpdjhaaDoor
open Go.RowKit
set_option linter.unusedVariables false
set_option linter.unusedSimpArgs false

def tooL (s : ByteArray) : Bool := decide ((512 : Int) < (s.size : Int))
theorem tooLong_any (s : ByteArray) (w : World) :
    Calls Tryd.prog 103 #[.string s] w fun e w' => e = .returned (.bool (tooL s)) ∧ w = w' := by
  go_enter Tryd.func103, Tryd.ntmps103
  go_wp2_with fail
  go_ret
  exact ⟨rfl, rfl⟩

/-- What a search finds: a place, or -1. -/
def Found {α : Type} (l : List α) (p : α → Bool) (r : Int) : Prop := (∃ k : Nat, r = (k : Int) ∧ ∃ h : k < l.length, p l[k] = true ∧ ∀ j : Nat, j < k → ∀ h : j < l.length, p l[j] = false) ∨ (r = -1 ∧ ∀ j : Nat, ∀ h : j < l.length, p l[j] = false)
theorem Found.any {α : Type} {l : List α} {p : α → Bool} {r : Int} (h : Found l p r) : l.any p = decide (0 ≤ r) := by
  rcases h with ⟨k, rfl, hk, hp, _⟩ | ⟨rfl, hn⟩
  · rw [decide_eq_true (by omega), List.any_eq_true]
    exact ⟨_, List.getElem_mem hk, hp⟩
  · rw [decide_eq_false (by omega), List.any_eq_false]
    intro x hx
    obtain ⟨i, hi, e⟩ := List.getElem_of_mem hx
    rw [← e, hn i hi]
    simp

set_option maxRecDepth 100000 in
set_option maxHeartbeats 1000000 in
theorem idxLong_any (A : Option Addr) (n c B : Nat) (S : List ByteArray) (w : World) (hA : Lies w B A n (strV S)) (hl : S.length = n) (hn : n ≤ maxLen) :
    Calls Tryd.prog 106 #[.slice A n c, .func (.func 103) #[] #[]] w fun e w' => ∃ r : Int, e = .returned (.int .i64 r) ∧ Hid (Found S tooL r) ∧ w = w' := by
  unfold maxLen at hn
  go_enter Tryd.func106, Tryd.ntmps106
  go_wp2_with fail
  go_loopw [5, 8] (fun _ i wr => ∃ k : Nat, k ≤ n ∧ i = .int .i64 (k : Int) ∧ wr = w ∧ Hid (∀ j : Nat, j < k → ∀ h : j < S.length, tooL S[j] = false)) (fun _ i _ => n - (intOf i).toNat)
  case atStart => exact ⟨0, Nat.zero_le _, rfl, rfl, fun j hj => by omega⟩
  case round =>
    obtain ⟨k, hk, rfl, rfl, HP⟩ := hrel
    by_cases hlt : k < n
    · obtain ⟨ad, e1, hc⟩ := str_at hA hlt (by omega)
      subst e1
      obtain ⟨s, hs⟩ : ∃ s, S[k]'(by omega) = s := ⟨_, rfl⟩
      have HS : Hid (∃ h : k < S.length, S[k] = s) := ⟨by omega, hs⟩
      rw [hs] at hc
      clear hs
      have hcall := tooLong_any s
      cases ht : tooL s with
      | true =>
        rw [ht] at hcall
        go_wp2_with fail
        refine (hcall _).mono ?_
        rintro e w' ⟨rfl, rfl⟩
        go_wp2_with fail
        go_ret
        obtain ⟨h1, h2⟩ := HS.out
        exact ⟨_, rfl, .inl ⟨k, rfl, h1, by rw [h2]; exact ht, HP.out⟩, rfl⟩
      | false =>
        rw [ht] at hcall
        have HP' : Hid (∀ j : Nat, j < k + 1 → ∀ h : j < S.length, tooL S[j] = false) := fun j hj h => by
          by_cases e : j = k
          · subst e
            rw [HS.out.2]; exact ht
          · exact HP.out j (by omega) h
        clear HP HS
        go_wp2_with fail
        refine (hcall _).mono ?_
        rintro e w' ⟨rfl, rfl⟩
        go_wp2_with fail
        go_roundw
        case rel => exact ⟨k + 1, by omega, by go_num, trivial, HP'⟩
        case measure => simp [intOf]; omega
    · have hkn : k = n := by omega
      go_wp2_with fail
      go_ret
      exact ⟨_, rfl, .inr ⟨rfl, fun j h => HP.out j (by omega) h⟩, rfl⟩

theorem hasLong_any (A : Option Addr) (n c B : Nat) (S : List ByteArray) (w : World) (hA : Lies w B A n (strV S)) (hl : S.length = n) (hn : n ≤ maxLen) :
    Calls Tryd.prog 102 #[.slice A n c, .func (.func 103) #[] #[]] w fun e w' => e = .returned (.bool (S.any tooL)) ∧ w = w' := by
  have hcall := idxLong_any A n c B S w hA hl hn
  clear hA
  go_enter Tryd.func102, Tryd.ntmps102
  go_wp2_with fail
  refine hcall.mono ?_
  rintro e w' ⟨r, rfl, HR, rfl⟩
  go_wp2_with fail
  go_ret
  exact ⟨by rw [HR.out.any]; rfl, rfl⟩


theorem any_beq (l : List Int) (x : Int) : (l.any fun y => x == y) = decide (x ∈ l) := by
  rw [Bool.eq_iff_iff, List.any_eq_true, decide_eq_true_eq]
  constructor
  · rintro ⟨y, hy, e⟩
    have : x = y := by simpa using e
    rw [this]; exact hy
  · exact fun h => ⟨x, h, by simp⟩

end Go.Proofs.YtjdacpnfgpdjhaaDoor
