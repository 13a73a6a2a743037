/-
  A device that may be is small. It speaks of no program's function.
-/
import Derived.Test.YtleemgjbihdbgaaDevCopy
namespace Go.Proofs.Ytleemgjbihdbgaa
set_option linter.unusedVariables false
set_option linter.unusedSimpArgs false

theorem nodup_le : ∀ (n : Nat) (l : List Int), l.Nodup → (∀ x ∈ l, 0 ≤ x ∧ x < (n : Int)) → l.length ≤ n
  | 0, l, _, h => by
    cases l with
    | nil => exact Nat.le_refl _
    | cons x r => have := h x (by simp); omega
  | n + 1, l, hd, h => by
    by_cases hn : (n : Int) ∈ l
    · have h1 := nodup_le n (l.erase (n : Int)) (hd.erase _) (fun x hx => by
        have h2 := (List.Nodup.mem_erase_iff hd).1 hx
        have h3 := h x h2.2
        have := h2.1
        omega)
      rw [List.length_erase_of_mem hn] at h1
      omega
    · have h1 := nodup_le n l hd (fun x hx => by
        have h3 := h x hx
        have : x ≠ (n : Int) := fun e => hn (e ▸ hx)
        omega)
      omega
theorem rise_le : ∀ (l : List Int) (a b : Int), l.Pairwise (· < ·) → (∀ x ∈ l, a ≤ x ∧ x < b) → (l.length : Int) ≤ (if a ≤ b then b - a else 0)
  | [], a, b, _, _ => by split <;> simp <;> omega
  | x :: r, a, b, hp, h => by
    rw [List.pairwise_cons] at hp
    have hx := h x (by simp)
    have h1 := rise_le r (x + 1) b hp.2 (fun y hy => by
      have := hp.1 y hy
      have := h y (by simp [hy])
      omega)
    rw [if_pos (by omega)] at h1
    rw [if_pos (by omega), List.length_cons]
    omega
theorem may_small {D : Dev} (h : MayD D) (hS : D.S.length ≤ 1099511627776) : Small D 1099511627776 := by
  have h16 := h.k16
  have hck := h.ck
  refine ⟨hS, ?_, by omega, by omega, fun l hl => ?_⟩
  · have h1 := rise_le D.F 0 1099511627776 h.fr (fun x hx => by
      have hg := h.fs x hx
      have h2 := hg.2.1
      have h3 := h.n2
      have h4 := hg.1
      omega)
    rw [if_pos (by omega)] at h1
    omega
  · have hc := h.cs l hl
    have h1 := nodup_le D.S.length (l.map Prod.fst) hc.d (fun x hx => by
      obtain ⟨c, hcl, rfl⟩ := List.mem_map.1 hx
      exact ⟨(hc.a c hcl).1, (hc.a c hcl).2.1⟩)
    rw [List.length_map] at h1
    omega

end Go.Proofs.Ytleemgjbihdbgaa
