/-
  Two rows of numbers compared, by contract; what the document's examples come to.
-/
import Derived.Test.YtjdacpnfgpdjhaaDoorNumGet
import Derived.BigQuiet
import Derived.Deep.QuietTactic
namespace Go.Proofs.YtjdacpnfgpdjhaaDoor
open Go.RowKit
set_option linter.unusedVariables false
set_option linter.unusedSimpArgs false

theorem own_drewN {w : World} {base n q : Nat} {e : TypeId} {v : Value} {xs : List Value} (h : w.ownsRow base e 1 v n xs) : (w.drewN q).ownsRow base e 1 v n xs := h
theorem lies_drewN {w : World} {B n q : Nat} {A : Option Addr} {xs : List Value} (h : Lies w B A n xs) : Lies (w.drewN q) B A n xs := h
theorem drewN_add (w : World) (p q : Nat) : (w.drewN p).drewN q = w.drewN (p + q) := by
  induction q with
  | zero => rfl
  | succ q ih => show ((w.drewN p).drewN q).drew = (w.drewN (p + q)).drew; rw [ih]

theorem take_eq_succ {l m : List Int} {k : Nat} (h1 : k < l.length) (h2 : k < m.length) (h : l.take k = m.take k) (hk : l[k] = m[k]) : l.take (k + 1) = m.take (k + 1) := by
  rw [List.take_succ_eq_append_getElem h1, List.take_succ_eq_append_getElem h2, h, hk]

set_option maxRecDepth 100000 in
set_option maxHeartbeats 1000000 in
theorem ints_any (A B : Option Addr) (Ba Bb n m c d : Nat) (za zb : List Int) (w : World) (hA : Lies w Ba A n (za.map (Value.int .i64))) (hB : Lies w Bb B m (zb.map (Value.int .i64)))
    (hn : n ≤ 1099511627776) (hm : m ≤ 1099511627776) :
    Calls Tryd.prog 15 #[.slice A n c, .slice B m d] w fun e w' => e = .returned (.bool (decide (za = zb))) ∧ ∃ q, w' = w.drewN q := by
  have HLA : Hid (za.length = n) := by show _ = _; simpa using hA.1
  have HLB : Hid (zb.length = m) := by show _ = _; simpa using hB.1
  by_cases hnm : n = m
  · subst hnm
    have hne : ((n : Int) != (n : Int)) = false := by simp
    go_enter Tryd.func15, Tryd.ntmps15
    go_wp2_with fail
    go_loopw [5] (fun i wr => ∃ k q : Nat, k ≤ n ∧ i = .int .i64 k ∧ Hid (za.take k = zb.take k) ∧ wr = w.drewN q) (fun i _ => n - (intOf i).toNat)
    case atStart => exact ⟨0, 0, Nat.zero_le _, rfl, (rfl : za.take 0 = zb.take 0), rfl⟩
    case round =>
      obtain ⟨k, q, hk, rfl, hE, rfl⟩ := hrel
      by_cases hlt : k < n
      · obtain ⟨ad, u, rfl, had, hu, hcell⟩ := hA.at_ hlt
        obtain ⟨bd, v, rfl, hbd, hv, hcellb⟩ := hB.at_ hlt
        have hka : k < za.length := by rw [HLA.out]; exact hlt
        have hkb : k < zb.length := by rw [HLB.out]; exact hlt
        obtain rfl : u = .int .i64 za[k] := by
          rw [List.getElem?_map, List.getElem?_eq_getElem hka] at hu
          simpa using hu.symm
        obtain rfl : v = .int .i64 zb[k] := by
          rw [List.getElem?_map, List.getElem?_eq_getElem hkb] at hv
          simpa using hv.symm
        clear hu hv
        by_cases hee : za[k] = zb[k]
        · have HE2 := Lib.hid (take_eq_succ hka hkb hE.out hee)
          have hbb : (za[k] != zb[k]) = false := by rw [hee]; simp
          clear hee
          go_wp2
          go_quiet (fail)
          go_wp2
          refine ⟨⟨k + 1, _, by omega, by go_num, HE2, rfl⟩, ?_⟩
          simp [intOf]; omega
        · have hbb : (za[k] != zb[k]) = true := by simpa using hee
          have HD : Hid (¬ za = zb) := fun h => hee (by subst h; rfl)
          clear hee
          go_wp2
          go_quiet (fail)
          go_wp2
          go_ret
          exact ⟨ret_bool (by simp [HD.out]), _, drewN_add _ _ _⟩
      · have hkm : k = n := by omega
        have HD : Hid (za = zb) := by
          have h := hE.out
          rw [hkm, List.take_of_length_le (by rw [HLA.out]; exact Nat.le_refl _), List.take_of_length_le (by rw [HLB.out]; exact Nat.le_refl _)] at h
          exact h
        clear hkm hE
        go_wp2
        go_ret
        exact ⟨ret_bool (by simp [HD.out]), _, rfl⟩
  · have HD : Hid (¬ za = zb) := by
      intro h
      subst h
      exact hnm (HLA.out.symm.trans HLB.out)
    have hne : ((n : Int) != (m : Int)) = true := by simp; omega
    clear hnm
    go_enter Tryd.func15, Tryd.ntmps15
    go_wp2
    go_ret
    exact ⟨ret_bool (by simp [HD.out]), 0, rfl⟩

end Go.Proofs.YtjdacpnfgpdjhaaDoor
