/-
  The document's commands: a key, whether a command may be: by contract.
-/
import Derived.Test.YtjdacpnfgpdjhaaDoorCmdAt
import Derived.Deep.DeepCutAuto
import Derived.Deep.CutBlock
namespace Go.Proofs.YtjdacpnfgpdjhaaDoor
open Go.RowKit
set_option linter.unusedVariables false
set_option linter.unusedSimpArgs false

set_option maxRecDepth 100000 in
theorem refKey_any (k : Int) (w : World) : Calls Tryd.prog 38 #[.int .i64 k] w fun e w' => e = .returned (.bool (cKey k)) ∧ w = w' := by
  by_cases h0 : 16 ≤ k
  · by_cases h1 : k ≤ 1099511627776
    · have HV : Hid (cKey k = true) := by show _ = _; simp [cKey, h0, h1]
      go_enter Tryd.func38, Tryd.ntmps38
      go_wp2_with fail
      go_ret
      exact ⟨by rw [HV.out] <;> rfl, rfl⟩
    · have HV : Hid (cKey k = false) := by show _ = _; simp [cKey, h1]
      have hd : decide (k ≤ 1099511627776) = false := decide_eq_false h1
      clear h1
      go_enter Tryd.func38, Tryd.ntmps38
      go_wp2_with fail
      go_ret
      exact ⟨by rw [HV.out] <;> rfl, rfl⟩
  · have HV : Hid (cKey k = false) := by show _ = _; simp [cKey, h0]
    have hd : decide (16 ≤ k) = false := decide_eq_false h0
    clear h0
    go_enter Tryd.func38, Tryd.ntmps38
    go_wp2_with fail
    go_ret
    exact ⟨by rw [HV.out] <;> rfl, rfl⟩

/-! ### What each kind asks -/
def spanB (lo hi : Int) : Bool := decide (cSpan lo hi)
theorem spanB_iff {lo hi : Int} : spanB lo hi = true ↔ cSpan lo hi := by simp [spanB]
section
variable {k b s d a lo hi m : Int}
theorem may_head (h : cKey b = false ∨ ¬ (1 ≤ s ∧ s ≤ 2147483648)) : cMay ⟨k, b, s, d, a, lo, hi, m⟩ = false := by
  rcases hm : cMay ⟨k, b, s, d, a, lo, hi, m⟩ with _ | _
  · rfl
  · obtain ⟨h1, h2, _⟩ := cMay_iff.1 hm
    rcases h with h | h
    · rw [h] at h1; cases h1
    · exact absurd h2 h
theorem may_01 (hb : cKey b = true) (hs : 1 ≤ s ∧ s ≤ 2147483648) (hk : k = 0 ∨ k = 1) : cMay ⟨k, b, s, d, a, lo, hi, m⟩ = true ↔ d = 0 ∧ a = 0 ∧ lo = 0 ∧ hi = 0 ∧ m = 0 := by
  rw [cMay_iff]
  constructor
  · rintro ⟨_, _, h⟩
    rcases h with ⟨_, h⟩ | ⟨h, _⟩ | ⟨h, _⟩ | ⟨h, _⟩ | ⟨h, _⟩
    · exact h
    all_goals (simp only at h; omega)
  · intro h
    exact ⟨hb, hs, .inl ⟨hk, h⟩⟩
theorem may_2 (hb : cKey b = true) (hs : 1 ≤ s ∧ s ≤ 2147483648) (hk : k = 2) : cMay ⟨k, b, s, d, a, lo, hi, m⟩ = true ↔ d = 0 ∧ a = 0 ∧ spanB lo hi = true ∧ (m = 1 ∨ m = 2) := by
  rw [cMay_iff, spanB_iff]
  constructor
  · rintro ⟨_, _, h⟩
    rcases h with ⟨h | h, _⟩ | ⟨_, h⟩ | ⟨h, _⟩ | ⟨h, _⟩ | ⟨h, _⟩
    · simp only at h; omega
    · simp only at h; omega
    · exact h
    all_goals (simp only at h; omega)
  · intro h
    exact ⟨hb, hs, .inr (.inl ⟨hk, h⟩)⟩
theorem may_3 (hb : cKey b = true) (hs : 1 ≤ s ∧ s ≤ 2147483648) (hk : k = 3) : cMay ⟨k, b, s, d, a, lo, hi, m⟩ = true ↔ d = 0 ∧ a = 0 ∧ spanB lo hi = true ∧ m = 0 := by
  rw [cMay_iff, spanB_iff]
  constructor
  · rintro ⟨_, _, h⟩
    rcases h with ⟨h | h, _⟩ | ⟨h, _⟩ | ⟨_, h⟩ | ⟨h, _⟩ | ⟨h, _⟩
    · simp only at h; omega
    · simp only at h; omega
    · simp only at h; omega
    · exact h
    all_goals (simp only at h; omega)
  · intro h
    exact ⟨hb, hs, .inr (.inr (.inl ⟨hk, h⟩))⟩
theorem may_4 (hb : cKey b = true) (hs : 1 ≤ s ∧ s ≤ 2147483648) (hk : k = 4) : cMay ⟨k, b, s, d, a, lo, hi, m⟩ = true ↔ cKey d = true ∧ (a = 0 ∨ cKey a = true) ∧ lo = 0 ∧ hi = 0 ∧ m = 0 := by
  rw [cMay_iff]
  constructor
  · rintro ⟨_, _, h⟩
    rcases h with ⟨h | h, _⟩ | ⟨h, _⟩ | ⟨h, _⟩ | ⟨_, h⟩ | ⟨h, _⟩
    · simp only at h; omega
    · simp only at h; omega
    · simp only at h; omega
    · simp only at h; omega
    · exact h
    all_goals (simp only at h; omega)
  · intro h
    exact ⟨hb, hs, .inr (.inr (.inr (.inl ⟨hk, h⟩)))⟩
theorem may_5 (hb : cKey b = true) (hs : 1 ≤ s ∧ s ≤ 2147483648) (hk : k = 5) : cMay ⟨k, b, s, d, a, lo, hi, m⟩ = true ↔ cKey d = true ∧ a = 0 ∧ lo = 0 ∧ hi = 0 ∧ m = 0 := by
  rw [cMay_iff]
  constructor
  · rintro ⟨_, _, h⟩
    rcases h with ⟨h | h, _⟩ | ⟨h, _⟩ | ⟨h, _⟩ | ⟨h, _⟩ | ⟨_, h⟩
    · simp only at h; omega
    · simp only at h; omega
    · simp only at h; omega
    · simp only at h; omega
    · simp only at h; omega
    · exact h
  · intro h
    exact ⟨hb, hs, .inr (.inr (.inr (.inr ⟨hk, h⟩)))⟩
theorem may_not (h : ¬ (0 ≤ k ∧ k ≤ 5)) : cMay ⟨k, b, s, d, a, lo, hi, m⟩ = false := by
  rcases hm : cMay ⟨k, b, s, d, a, lo, hi, m⟩ with _ | _
  · rfl
  · exact absurd (cKind_bd (cMay_iff.1 hm).2.2) h
end
theorem ret_iff {x y : Bool} (h : x = true ↔ y = true) : Ending.returned (.bool x) = .returned (.bool y) := ret_bool (Bool.eq_iff_iff.2 h)

set_option maxRecDepth 100000 in
set_option maxHeartbeats 4000000 in
theorem refCMay_any (k b s d a lo hi m : Int) (w : World) :
    Calls Tryd.prog 63 #[.agg #[.int .i8 k, .int .i64 b, .int .i64 s, .int .i64 d, .int .i64 a, .int .i64 lo, .int .i64 hi, .int .i8 m]] w fun e w' => e = .returned (.bool (cMay ⟨k, b, s, d, a, lo, hi, m⟩)) ∧ Below w.heap.size w w' := by
  have bw : Below w.heap.size w ((w.alloc (.cells #[.int .i8 k, .int .i64 b, .int .i64 s, .int .i64 d, .int .i64 a, .int .i64 lo, .int .i64 hi, .int .i8 m] 32)).alloc (.cells #[.int .i8 k, .int .i64 b, .int .i64 s, .int .i64 0, .int .i64 0, .int .i64 0, .int .i64 0, .int .i8 0] 32)) := ((Below.refl _ _).alloc (Nat.le_refl _) _).alloc (by simp) _
  have b1 : Below w.heap.size w (w.alloc (.cells #[.int .i8 k, .int .i64 b, .int .i64 s, .int .i64 d, .int .i64 a, .int .i64 lo, .int .i64 hi, .int .i8 m] 32)) := (Below.refl _ _).alloc (Nat.le_refl _) _
  cases hb : cKey b with
  | false =>
    have HV := Lib.hid (may_head (k := k) (d := d) (a := a) (lo := lo) (hi := hi) (m := m) (s := s) (.inl hb))
    go_enter Tryd.func63, Tryd.ntmps63
    go_wp2_with fail
    refine (refKey_any b _).mono ?_
    rintro e w1 ⟨rfl, rfl⟩
    rw [hb]
    go_wp2_with fail
    go_ret
    exact ⟨by rw [HV.out] <;> rfl, b1⟩
  | true =>
    by_cases hs : 1 ≤ s ∧ s ≤ 2147483648
    · have HB := Lib.hid hb
      have HS := Lib.hid hs
      have s1 : decide (s < 1) = false := decide_eq_false (by omega)
      have s2 : decide (2147483648 < s) = false := decide_eq_false (by omega)
      clear hs
      go_enter Tryd.func63, Tryd.ntmps63
      go_wp2_with fail
      refine (refKey_any b _).mono ?_
      rintro e w1 ⟨rfl, rfl⟩
      rw [hb]
      clear hb
      go_upto_region 4 with fail
      clear s1 s2
      go_cut [4] (fun v wx => v = .bool (spanB lo hi) ∧ wx = ((w.alloc (.cells #[.int .i8 k, .int .i64 b, .int .i64 s, .int .i64 d, .int .i64 a, .int .i64 lo, .int .i64 hi, .int .i8 m] 32)).alloc (.cells #[.int .i8 k, .int .i64 b, .int .i64 s, .int .i64 0, .int .i64 0, .int .i64 0, .int .i64 0, .int .i8 0] 32)))
      case first =>
        by_cases l1 : 0 ≤ lo
        · by_cases l2 : lo ≤ hi
          · by_cases l3 : hi < 64
            · have HP : Hid (spanB lo hi = true) := spanB_iff.2 ⟨l1, l2, l3⟩
              go_wp2_with fail
              go_meet
              exact ⟨by rw [HP.out], rfl⟩
            · have HP : Hid (spanB lo hi = false) := decide_eq_false fun h => l3 h.2.2
              have l3' : decide (hi < 64) = false := decide_eq_false l3
              clear l3
              go_wp2_with fail
              go_meet
              exact ⟨by rw [HP.out], rfl⟩
          · have HP : Hid (spanB lo hi = false) := decide_eq_false fun h => l2 h.2.1
            have l2' : decide (lo ≤ hi) = false := decide_eq_false l2
            clear l2
            go_wp2_with fail
            go_meet
            exact ⟨by rw [HP.out], rfl⟩
        · have HP : Hid (spanB lo hi = false) := decide_eq_false fun h => l1 h.1
          have l1' : decide (0 ≤ lo) = false := decide_eq_false l1
          clear l1
          go_wp2_with fail
          go_meet
          exact ⟨by rw [HP.out], rfl⟩
      case rest =>
      obtain ⟨rfl, rfl⟩ := hcut
      cases hp : spanB lo hi
      all_goals
        by_cases k0 : k = 0
        · obtain rfl : k = 0 := k0
          have HM := Lib.hid (may_01 HB.out HS.out (.inl rfl) : cMay ⟨0, b, s, d, a, lo, hi, m⟩ = true ↔ _)
          go_wp2_with (go_at_call 38; refine (refKey_any _ _).mono ?_; rintro e w1 ⟨rfl, rfl⟩)
          all_goals
            go_ret
            refine ⟨?_, ((Below.refl _ _).alloc (Nat.le_refl _) _).alloc (by simp) _⟩
            clear bw b1
            rcases hmm : cMay ⟨0, b, s, d, a, lo, hi, m⟩ with _ | _
            · first
              | rfl
              | (refine absurd (HM.out.2 ?_) (by rw [hmm]; simp); simp_all; done)
              | (refine ret_bool ?_; simp_all; done)
            · first
              | rfl
              | (refine absurd (HM.out.1 hmm) ?_; simp_all; done)
              | (refine ret_bool ?_; simp_all; done)
        · by_cases k1 : k = 1
          · obtain rfl : k = 1 := k1
            have HM := Lib.hid (may_01 HB.out HS.out (.inr rfl) : cMay ⟨1, b, s, d, a, lo, hi, m⟩ = true ↔ _)
            go_wp2_with (go_at_call 38; refine (refKey_any _ _).mono ?_; rintro e w1 ⟨rfl, rfl⟩)
            all_goals
              go_ret
              refine ⟨?_, ((Below.refl _ _).alloc (Nat.le_refl _) _).alloc (by simp) _⟩
              clear bw b1
              rcases hmm : cMay ⟨1, b, s, d, a, lo, hi, m⟩ with _ | _
              · first
                | rfl
                | (refine absurd (HM.out.2 ?_) (by rw [hmm]; simp); simp_all; done)
                | (refine ret_bool ?_; simp_all; done)
              · first
                | rfl
                | (refine absurd (HM.out.1 hmm) ?_; simp_all; done)
                | (refine ret_bool ?_; simp_all; done)
          · by_cases k2 : k = 2
            · obtain rfl : k = 2 := k2
              have HM := Lib.hid (may_2 HB.out HS.out rfl : cMay ⟨2, b, s, d, a, lo, hi, m⟩ = true ↔ _)
              cases hm2 : m == 2
              all_goals
                go_wp2_with (go_at_call 38; refine (refKey_any _ _).mono ?_; rintro e w1 ⟨rfl, rfl⟩)
                all_goals
                  go_ret
                  refine ⟨?_, ((Below.refl _ _).alloc (Nat.le_refl _) _).alloc (by simp) _⟩
                  clear bw b1
                  try simp only [hm2]
                  rcases hmm : cMay ⟨2, b, s, d, a, lo, hi, m⟩ with _ | _
                  · first
                    | rfl
                    | (refine absurd (HM.out.2 ?_) (by rw [hmm]; simp); simp_all; done)
                    | (refine ret_bool ?_; simp_all; done)
                  · first
                    | rfl
                    | (refine absurd (HM.out.1 hmm) ?_; simp_all; done)
                    | (refine ret_bool ?_; simp_all; done)
            · by_cases k3 : k = 3
              · obtain rfl : k = 3 := k3
                have HM := Lib.hid (may_3 HB.out HS.out rfl : cMay ⟨3, b, s, d, a, lo, hi, m⟩ = true ↔ _)
                go_wp2_with (go_at_call 38; refine (refKey_any _ _).mono ?_; rintro e w1 ⟨rfl, rfl⟩)
                all_goals
                  go_ret
                  refine ⟨?_, ((Below.refl _ _).alloc (Nat.le_refl _) _).alloc (by simp) _⟩
                  clear bw b1
                  rcases hmm : cMay ⟨3, b, s, d, a, lo, hi, m⟩ with _ | _
                  · first
                    | rfl
                    | (refine absurd (HM.out.2 ?_) (by rw [hmm]; simp); simp_all; done)
                    | (refine ret_bool ?_; simp_all; done)
                  · first
                    | rfl
                    | (refine absurd (HM.out.1 hmm) ?_; simp_all; done)
                    | (refine ret_bool ?_; simp_all; done)
              · by_cases k4 : k = 4
                · obtain rfl : k = 4 := k4
                  have HM := Lib.hid (may_4 HB.out HS.out rfl : cMay ⟨4, b, s, d, a, lo, hi, m⟩ = true ↔ _)
                  cases hkd : cKey d
                  all_goals (cases hka : cKey a)
                  all_goals
                    go_wp2_with (go_at_call 38; refine (refKey_any _ _).mono ?_; rintro e w1 ⟨rfl, rfl⟩)
                    all_goals
                      go_ret
                      refine ⟨?_, ((Below.refl _ _).alloc (Nat.le_refl _) _).alloc (by simp) _⟩
                      clear bw b1
                      try simp only [hka]
                      rcases hmm : cMay ⟨4, b, s, d, a, lo, hi, m⟩ with _ | _
                      · first
                        | rfl
                        | (refine absurd (HM.out.2 ?_) (by rw [hmm]; simp); simp_all; done)
                        | (refine ret_bool ?_; simp_all; done)
                      · first
                        | rfl
                        | (refine absurd (HM.out.1 hmm) ?_; simp_all; done)
                        | (refine ret_bool ?_; simp_all; done)
                · by_cases k5 : k = 5
                  · obtain rfl : k = 5 := k5
                    have HM := Lib.hid (may_5 HB.out HS.out rfl : cMay ⟨5, b, s, d, a, lo, hi, m⟩ = true ↔ _)
                    cases hkd : cKey d
                    all_goals
                      go_wp2_with (go_at_call 38; refine (refKey_any _ _).mono ?_; rintro e w1 ⟨rfl, rfl⟩)
                      all_goals
                        go_ret
                        refine ⟨?_, ((Below.refl _ _).alloc (Nat.le_refl _) _).alloc (by simp) _⟩
                        clear bw b1
                        try simp only [hkd]
                        rcases hmm : cMay ⟨5, b, s, d, a, lo, hi, m⟩ with _ | _
                        · first
                          | rfl
                          | (refine absurd (HM.out.2 ?_) (by rw [hmm]; simp); simp_all; done)
                          | (refine ret_bool ?_; simp_all; done)
                        · first
                          | rfl
                          | (refine absurd (HM.out.1 hmm) ?_; simp_all; done)
                          | (refine ret_bool ?_; simp_all; done)
                  · have HV : Hid (cMay ⟨k, b, s, d, a, lo, hi, m⟩ = false) := may_not (by omega)
                    have k0' : (k == 0) = false := beq_no k0
                    have k1' : (k == 1) = false := beq_no k1
                    have k2' : (k == 2) = false := beq_no k2
                    have k3' : (k == 3) = false := beq_no k3
                    have k4' : (k == 4) = false := beq_no k4
                    have k5' : (k == 5) = false := beq_no k5
                    clear k0 k1 k2 k3 k4 k5
                    go_wp2_with fail
                    go_ret
                    exact ⟨by rw [HV.out] <;> rfl, bw⟩
    · have HV := Lib.hid (may_head (k := k) (b := b) (d := d) (a := a) (lo := lo) (hi := hi) (m := m) (s := s) (.inr hs))
      by_cases h1 : s < 1
      · clear hs
        go_enter Tryd.func63, Tryd.ntmps63
        go_wp2_with fail
        refine (refKey_any b _).mono ?_
        rintro e w1 ⟨rfl, rfl⟩
        rw [hb]
        go_wp2_with fail
        go_ret
        exact ⟨by rw [HV.out] <;> rfl, b1⟩
      · have s1 : decide (s < 1) = false := decide_eq_false h1
        have h2 : 2147483648 < s := by omega
        clear hs h1
        go_enter Tryd.func63, Tryd.ntmps63
        go_wp2_with fail
        refine (refKey_any b _).mono ?_
        rintro e w1 ⟨rfl, rfl⟩
        rw [hb]
        go_wp2_with fail
        go_ret
        exact ⟨by rw [HV.out] <;> rfl, b1⟩

end Go.Proofs.YtjdacpnfgpdjhaaDoor
