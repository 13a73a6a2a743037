/-
  The document's Same of rows of commands: by contract.
-/
import Derived.Test.YtjdacpnfgpdjhaaDoorCmdRow
import Derived.BigQuiet
import Derived.Deep.DeepCutAuto
import Derived.Deep.CutBlock
namespace Go.Proofs.YtjdacpnfgpdjhaaDoor
open Go.RowKit
set_option linter.unusedVariables false
set_option linter.unusedSimpArgs false

def sameC (l m : List CmdM) : Bool := decide (l = m)
theorem same_len {l m : List CmdM} (h : l.length ≠ m.length) : sameC l m = false := decide_eq_false (fun e => h (by rw [e]))
theorem same_at {l m : List CmdM} {i : Nat} (hi : i < l.length) (hj : i < m.length) {x y : CmdM} (ex : l[i] = x) (ey : m[i] = y) (h : ¬ x = y) : sameC l m = false := decide_eq_false (fun e => by
  subst e
  exact h (ex.symm.trans ey))
theorem same_all {l m : List CmdM} {n : Nat} (hl : l.length = n) (hm : m.length = n) (h : l.take n = m.take n) : sameC l m = true := decide_eq_true (by rwa [List.take_of_length_le (by omega), List.take_of_length_le (by omega)] at h)
theorem same_next {l m : List CmdM} {i : Nat} (hi : i < l.length) (hj : i < m.length) {x : CmdM} (ex : l[i] = x) (ey : m[i] = x) (h : l.take i = m.take i) : l.take (i + 1) = m.take (i + 1) := by
  rw [List.take_succ_eq_append_getElem hi, List.take_succ_eq_append_getElem hj, h, ex, ey]

set_option maxRecDepth 100000 in
set_option maxHeartbeats 2000000 in
theorem refDSame_any (A D : Option Addr) (n c n' c' : Nat) (l m : List CmdM) (w : World) (hA : LiesC w w.heap.size A n l) (hD : LiesC w w.heap.size D n' m) (hn : n ≤ maxLen) :
    Calls Tryd.prog 14 #[.slice A n c, .slice D n' c'] w fun e w' => e = .returned (.bool (sameC l m)) ∧ Below w.heap.size w w' := by
  have HL : Hid (l.length = n) := hA.1
  have HM : Hid (m.length = n') := hD.1
  unfold maxLen at hn
  have HA : Hid (∀ W, Below w.heap.size w W → LiesC W W.heap.size A n l) := fun W h => hA.below h
  have HD : Hid (∀ W, Below w.heap.size w W → LiesC W W.heap.size D n' m) := fun W h => hD.below h
  clear hA hD
  go_enter Tryd.func14, Tryd.ntmps14
  by_cases hnn : n = n'
  · subst hnn
    have z0 : ((n : Int) != (n : Int)) = false := by simp
    go_wp2_with fail
    go_loopw [5] (fun v wr => ∃ i : Nat, i ≤ n ∧ v = .int .i64 i ∧ Below w.heap.size w wr ∧ Hid (l.take i = m.take i)) (fun v _ => n - (intOf v).toNat)
    case atStart => exact ⟨0, Nat.zero_le _, rfl, Below.refl _ _, rfl⟩
    case round =>
      obtain ⟨i, hi, rfl, hb, HT⟩ := hrel
      by_cases hlt : i < n
      · have hil : i < l.length := by rw [HL.out]; exact hlt
        have him : i < m.length := by rw [HM.out]; exact hlt
        obtain ⟨⟨xk, xb, xs, xd, xa, xl, xh, xm⟩, hx⟩ : ∃ x, l[i] = x := ⟨_, rfl⟩
        obtain ⟨⟨yk, yb, ys, yd, ya, yl, yh, ym⟩, hy⟩ : ∃ x, m[i] = x := ⟨_, rfl⟩
        obtain ⟨ad, e1, had, c0, c1, c2, c3, c4, c5, c6, c7⟩ := cmd_at (HA.out _ hb) hlt hil hx
        obtain ⟨dd, e2, hdd, d0, d1, d2, d3, d4, d5, d6, d7⟩ := cmd_at (HD.out _ hb) hlt him hy
        subst e1 e2
        have HXY : Hid (∃ (h1 : i < l.length) (h2 : i < m.length), l[i] = ⟨xk, xb, xs, xd, xa, xl, xh, xm⟩ ∧ m[i] = ⟨yk, yb, ys, yd, ya, yl, yh, ym⟩) := ⟨hil, him, hx, hy⟩
        clear hx hy hil him
        by_cases f0 : xk = yk
        rotate_left
        · have HV : Hid (sameC l m = false) := by
            obtain ⟨h1, h2, h3, h4⟩ := HXY.out
            exact same_at h1 h2 h3 h4 (by simp only [CmdM.mk.injEq]; intro hh; exact f0 hh.1)
          clear HT
          go_upto_region 6 with fail
          go_quiet (fail)
          go_wp2_with fail
          go_ret
          exact ⟨by rw [HV.out] <;> rfl, hb.trans (drewN_below _ _ _)⟩
        obtain rfl : yk = xk := f0.symm
        clear f0
        by_cases f1 : xb = yb
        rotate_left
        · have HV : Hid (sameC l m = false) := by
            obtain ⟨h1, h2, h3, h4⟩ := HXY.out
            exact same_at h1 h2 h3 h4 (by simp only [CmdM.mk.injEq]; intro hh; exact f1 hh.2.1)
          clear HT
          go_upto_region 6 with fail
          go_quiet (fail)
          go_wp2_with fail
          go_ret
          exact ⟨by rw [HV.out] <;> rfl, hb.trans (drewN_below _ _ _)⟩
        obtain rfl : yb = xb := f1.symm
        clear f1
        by_cases f2 : xs = ys
        rotate_left
        · have HV : Hid (sameC l m = false) := by
            obtain ⟨h1, h2, h3, h4⟩ := HXY.out
            exact same_at h1 h2 h3 h4 (by simp only [CmdM.mk.injEq]; intro hh; exact f2 hh.2.2.1)
          clear HT
          go_upto_region 6 with fail
          go_quiet (fail)
          go_wp2_with fail
          go_ret
          exact ⟨by rw [HV.out] <;> rfl, hb.trans (drewN_below _ _ _)⟩
        obtain rfl : ys = xs := f2.symm
        clear f2
        by_cases f3 : xd = yd
        rotate_left
        · have HV : Hid (sameC l m = false) := by
            obtain ⟨h1, h2, h3, h4⟩ := HXY.out
            exact same_at h1 h2 h3 h4 (by simp only [CmdM.mk.injEq]; intro hh; exact f3 hh.2.2.2.1)
          clear HT
          go_upto_region 6 with fail
          go_quiet (fail)
          go_wp2_with fail
          go_ret
          exact ⟨by rw [HV.out] <;> rfl, hb.trans (drewN_below _ _ _)⟩
        obtain rfl : yd = xd := f3.symm
        clear f3
        by_cases f4 : xa = ya
        rotate_left
        · have HV : Hid (sameC l m = false) := by
            obtain ⟨h1, h2, h3, h4⟩ := HXY.out
            exact same_at h1 h2 h3 h4 (by simp only [CmdM.mk.injEq]; intro hh; exact f4 hh.2.2.2.2.1)
          clear HT
          go_upto_region 6 with fail
          go_quiet (fail)
          go_wp2_with fail
          go_ret
          exact ⟨by rw [HV.out] <;> rfl, hb.trans (drewN_below _ _ _)⟩
        obtain rfl : ya = xa := f4.symm
        clear f4
        by_cases f5 : xl = yl
        rotate_left
        · have HV : Hid (sameC l m = false) := by
            obtain ⟨h1, h2, h3, h4⟩ := HXY.out
            exact same_at h1 h2 h3 h4 (by simp only [CmdM.mk.injEq]; intro hh; exact f5 hh.2.2.2.2.2.1)
          clear HT
          go_upto_region 6 with fail
          go_quiet (fail)
          go_wp2_with fail
          go_ret
          exact ⟨by rw [HV.out] <;> rfl, hb.trans (drewN_below _ _ _)⟩
        obtain rfl : yl = xl := f5.symm
        clear f5
        by_cases f6 : xh = yh
        rotate_left
        · have HV : Hid (sameC l m = false) := by
            obtain ⟨h1, h2, h3, h4⟩ := HXY.out
            exact same_at h1 h2 h3 h4 (by simp only [CmdM.mk.injEq]; intro hh; exact f6 hh.2.2.2.2.2.2.1)
          clear HT
          go_upto_region 6 with fail
          go_quiet (fail)
          go_wp2_with fail
          go_ret
          exact ⟨by rw [HV.out] <;> rfl, hb.trans (drewN_below _ _ _)⟩
        obtain rfl : yh = xh := f6.symm
        clear f6
        by_cases f7 : xm = ym
        rotate_left
        · have HV : Hid (sameC l m = false) := by
            obtain ⟨h1, h2, h3, h4⟩ := HXY.out
            exact same_at h1 h2 h3 h4 (by simp only [CmdM.mk.injEq]; intro hh; exact f7 hh.2.2.2.2.2.2.2)
          clear HT
          go_upto_region 6 with fail
          go_quiet (fail)
          go_wp2_with fail
          go_ret
          exact ⟨by rw [HV.out] <;> rfl, hb.trans (drewN_below _ _ _)⟩
        obtain rfl : ym = xm := f7.symm
        clear f7
        have HT' : Hid (l.take (i + 1) = m.take (i + 1)) := by
          obtain ⟨h1, h2, h3, h4⟩ := HXY.out
          exact same_next h1 h2 h3 h4 HT.out
        clear HT
        go_upto_region 6 with fail
        go_quiet (fail)
        go_wp2_with fail
        go_roundw
        case rel => exact ⟨i + 1, by omega, by go_num, hb.trans (drewN_below _ _ _), HT'⟩
        case measure => simp [intOf]; omega
      · have HV : Hid (sameC l m = true) := same_all HL.out HM.out (by have h := HT.out; rwa [show i = n by omega] at h)
        have hin : i = n := by omega
        clear hlt HT
        go_wp2_with fail
        go_ret
        exact ⟨by rw [HV.out] <;> rfl, hb⟩
  · have HV : Hid (sameC l m = false) := same_len (by rw [HL.out, HM.out]; exact hnn)
    have z0 : ((n : Int) != (n' : Int)) = true := by
      have : ¬ (n : Int) = (n' : Int) := by omega
      simpa using this
    clear hnn
    go_wp2_with fail
    go_ret
    exact ⟨by rw [HV.out] <;> rfl, Below.refl _ _⟩

end Go.Proofs.YtjdacpnfgpdjhaaDoor
