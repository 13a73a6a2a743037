/-
  The program's actor: what it does: by contract.
-/
import Derived.Test.YtleemgjbihdbgaaJoinDevActC
import Derived.Test.YtleemgjbihdbgaaJoinDevActJ
import Derived.Test.YtleemgjbihdbgaaDevActK
namespace Go.Proofs.Ytleemgjbihdbgaa
open Go.RowKit
set_option linter.unusedVariables false
set_option linter.unusedSimpArgs false

theorem act_kinds {D : Dev} {i : Nat} {a : ActM} (h : actE D i a = 0) : a.k = 1 ∨ a.k = 2 ∨ a.k = 3 ∨ a.k = 4 ∨ a.k = 5 ∨ a.k = 6 := by
  unfold actE at h
  split at h
  · cases h
  · omega
theorem act_sec {D : Dev} {i : Nat} {a : ActM} (h : actE D i a = 0) (hk : a.k = 1 ∨ a.k = 2 ∨ a.k = 3) : ∃ s : Nat, a.s = (s : Int) ∧ s < D.S.length := by
  unfold actE at h
  split at h
  · cases h
  · split at h
    · cases h
    · split at h
      · cases h
      · split at h
        · cases h
        · rename_i h4
          have : 0 ≤ a.s ∧ a.s < (D.S.length : Int) := Decidable.byContradiction fun h5 => h4 ⟨hk, h5⟩
          obtain ⟨s, hs⟩ := Int.eq_ofNat_of_zero_le this.1
          exact ⟨s, hs, by omega⟩
theorem act_next {D : Dev} {i : Nat} {a : ActM} (h : actE D i a = 0) (hk : a.k = 6) : D.n < 68719476736 := by
  unfold actE at h
  split at h
  · cases h
  · split at h
    · cases h
    · rename_i h2
      have : ¬ 68719476736 ≤ D.n := fun h3 => h2 (.inr (.inr ⟨hk, h3⟩))
      omega

set_option maxRecDepth 100000 in
set_option maxHeartbeats 4000000 in
theorem do_any (B b : Nat) (D : Dev) (i : Nat) (a : ActM) (w : World) (h : ActorAt w B b D (i : Int)) (hm : MayD D) (hi : i < D.K.length) (hS : Small D 1099511627776) (hE : actE D i a = 0) (hB : B ≤ w.heap.size) :
    Calls Try.prog 36 #[.pointer (some ⟨b, 0, none⟩), actV a] w fun e w' => e = .returned (.string (actS D i a)) ∧ ActorAt w' B b (actD D i a) (i : Int) ∧ Below B w w' := by
  have hC : i < D.C.length := by rw [hm.ck]; exact hi
  obtain ⟨k, s, t, key⟩ := a
  obtain ⟨W0, hW⟩ : ∃ W0, W0 = w.alloc (.cells #[.int .i8 k, .int .i64 s, .string t, .int .i64 key] 38) := ⟨_, rfl⟩
  have hb0 : Below w.heap.size w W0 := hW ▸ below_alloc w _
  have x0 : Box4 W0 w.heap.size k s t key := hW ▸ Box4.new w _ _ _ _ _
  have H0 := Lib.hid (h.up hb0)
  have hB0 : B ≤ W0.heap.size := Nat.le_trans hB hb0.size
  have HB0 := Lib.hid (hb0.mono hB)
  clear h hb0
  have hkk := act_kinds hE
  have hsec := act_sec hE
  have hnext := act_next hE
  simp only at hkk hsec hnext
  show Calls _ _ #[_, .agg #[.int .i8 k, .int .i64 s, .string t, .int .i64 key]] _ _
  have y0 := x0.c0
  have y1 := x0.c1
  have y2 := x0.c2
  have y3 := x0.c3
  clear x0
  rcases hkk with rfl | rfl | rfl | rfl | rfl | rfl
  · obtain ⟨sn, rfl, hs⟩ := hsec (.inl rfl)
    have HD : Hid (actD D i ⟨1, (sn : Int), t, key⟩ = D) := by show actD _ _ _ = _; simp [actD, hE]
    have HV : Hid (actS D i ⟨1, (sn : Int), t, key⟩ = readD D i (sn : Int)) := by show actS _ _ _ = _; simp [actS, hE]
    have hc := read_any B b D i sn W0 H0.out hC hs
    clear hE hsec hnext
    go_enter Try.func36, Try.ntmps36
    go_wp2_with fail
    rw [← hW]
    clear hW
    refine hc.mono ?_
    rintro e w1 ⟨rfl, hb1⟩
    clear hc
    go_wp2_with fail
    go_ret
    refine ⟨by rw [HV.out]; rfl, ?_, HB0.out.trans (hb1.mono hB0)⟩
    rw [HD.out]
    exact H0.out.up hb1
  · obtain ⟨sn, rfl, hs⟩ := hsec (.inr (.inl rfl))
    have HD : Hid (actD D i ⟨2, (sn : Int), t, key⟩ = forceD D i (sn : Int) t) := by show actD _ _ _ = _; simp [actD, hE]
    have HV : Hid (actS D i ⟨2, (sn : Int), t, key⟩ = ⟨#[]⟩) := by show actS _ _ _ = _; simp [actS, hE]
    have hc := force_any B b D i sn t W0 H0.out hC hs hS hB0
    clear hE hsec hnext H0
    go_enter Try.func36, Try.ntmps36
    go_wp2_with fail
    rw [← hW]
    clear hW
    refine hc.mono ?_
    rintro e w1 ⟨rfl, hA1, hb1⟩
    have HA1 := Lib.hid hA1
    clear hc hA1
    go_wp2_with fail
    go_ret
    refine ⟨by rw [HV.out]; rfl, ?_, HB0.out.trans hb1⟩
    rw [HD.out]
    exact HA1.out
  · obtain ⟨sn, rfl, hs⟩ := hsec (.inr (.inr rfl))
    have HD : Hid (actD D i ⟨3, (sn : Int), t, key⟩ = putD D i (sn : Int) t) := by show actD _ _ _ = _; simp [actD, hE]
    have HV : Hid (actS D i ⟨3, (sn : Int), t, key⟩ = ⟨#[]⟩) := by show actS _ _ _ = _; simp [actS, hE]
    have hc := put_any' B b D i sn t W0 H0.out hC hS hB0
    clear hE hsec hnext H0
    go_enter Try.func36, Try.ntmps36
    go_wp2_with fail
    rw [← hW]
    clear hW
    refine hc.mono ?_
    rintro e w1 ⟨rfl, hA1, hb1⟩
    have HA1 := Lib.hid hA1
    clear hc hA1
    go_wp2_with fail
    go_ret
    refine ⟨by rw [HV.out]; rfl, ?_, HB0.out.trans hb1⟩
    rw [HD.out]
    exact HA1.out
  · have HD : Hid (actD D i ⟨4, s, t, key⟩ = flushD D i) := by show actD _ _ _ = _; simp [actD, hE]
    have HV : Hid (actS D i ⟨4, s, t, key⟩ = ⟨#[]⟩) := by show actS _ _ _ = _; simp [actS, hE]
    have hc := flush_any B b D i W0 H0.out hC hm hS hB0
    clear hE hsec hnext H0
    go_enter Try.func36, Try.ntmps36
    go_wp2_with fail
    rw [← hW]
    clear hW
    refine hc.mono ?_
    rintro e w1 ⟨rfl, hA1, hb1⟩
    have HA1 := Lib.hid hA1
    clear hc hA1
    go_wp2_with fail
    go_ret
    refine ⟨by rw [HV.out]; rfl, ?_, HB0.out.trans hb1⟩
    rw [HD.out]
    exact HA1.out
  · have HD : Hid (actD D i ⟨5, s, t, key⟩ = fencesD D key) := by show actD _ _ _ = _; simp [actD, hE]
    have HV : Hid (actS D i ⟨5, s, t, key⟩ = ⟨#[]⟩) := by show actS _ _ _ = _; simp [actS, hE]
    have hc := fence_any B b D (i : Int) key W0 H0.out hm.fr hS.f hB0
    clear hE hsec hnext H0
    go_enter Try.func36, Try.ntmps36
    go_wp2_with fail
    rw [← hW]
    clear hW
    refine hc.mono ?_
    rintro e w1 ⟨rfl, hA1, hb1⟩
    have HA1 := Lib.hid hA1
    clear hc hA1
    go_wp2_with fail
    go_ret
    refine ⟨by rw [HV.out]; rfl, ?_, HB0.out.trans hb1⟩
    rw [HD.out]
    exact HA1.out
  · have HD : Hid (actD D i ⟨6, s, t, key⟩ = registerD D i) := by show actD _ _ _ = _; simp [actD, hE]
    have HV : Hid (actS D i ⟨6, s, t, key⟩ = key6 (16 * D.n + (i : Int))) := by show actS _ _ _ = _; simp [actS, hE]
    have hc := register_any B b D i W0 H0.out hC hi hm.k16 hm.n1 (hnext rfl) hB0
    clear hE hsec hnext H0
    go_enter Try.func36, Try.ntmps36
    go_wp2_with fail
    rw [← hW]
    clear hW
    refine hc.mono ?_
    rintro e w1 ⟨rfl, hA1, hb1⟩
    have HA1 := Lib.hid hA1
    clear hc hA1
    go_wp2_with fail
    go_ret
    refine ⟨by rw [HV.out]; rfl, ?_, HB0.out.trans hb1⟩
    rw [HD.out]
    exact HA1.out

end Go.Proofs.Ytleemgjbihdbgaa
