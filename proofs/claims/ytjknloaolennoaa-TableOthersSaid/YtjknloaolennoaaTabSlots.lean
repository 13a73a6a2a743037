/-
  The document's tables: which slots may be: by contract.
-/
import Derived.Test.YtjknloaolennoaaTabRefA
import Derived.BigQuiet
namespace Go.Proofs.Ytjknloaolennoaa
open Go.RowKit
set_option linter.unusedVariables false
set_option linter.unusedSimpArgs false

/-- Is a slot alone as it must not be? -/
def sloBad (x : SlotM) : Bool := decide (x.key < 0) || (decide (x.claim < 0) || ((x.key == 0) && !(x.claim == 0)))
def SloP (l : List SlotM) (n : Nat) : Prop := ∀ (i : Nat) (hi : i < l.length), i < n → sloBad l[i] = false ∧ ∀ (k : Nat) (hk : k < i), ¬ (((l[i]).key == 0) = false ∧ ((l[k]'(by omega)).key == (l[i]).key) = true)
def slotsB (l : List SlotM) : Bool := decide (∀ i : Fin l.length, sloBad l[i.val] = false ∧ ∀ k : Fin i.val, ¬ (((l[i.val]).key == 0) = false ∧ ((l[k.val]'(by omega)).key == (l[i.val]).key) = true))
theorem slotsB_iff {l : List SlotM} : slotsB l = true ↔ SloP l l.length := by
  unfold slotsB
  rw [decide_eq_true_eq]
  constructor
  · intro h i hi _
    exact ⟨(h ⟨i, hi⟩).1, fun k hk => (h ⟨i, hi⟩).2 ⟨k, hk⟩⟩
  · intro h i
    exact ⟨(h i.val i.isLt i.isLt).1, fun k => (h i.val i.isLt i.isLt).2 k.val k.isLt⟩
theorem slots_yes {l : List SlotM} {n : Nat} (hl : l.length = n) (h : SloP l n) : slotsB l = true := slotsB_iff.2 (hl ▸ h)
theorem slots_bad {l : List SlotM} {i : Nat} (hi : i < l.length) (h : sloBad l[i] = true) : slotsB l = false := by
  rcases hr : slotsB l with _ | _
  · rfl
  · have := (slotsB_iff.1 hr i hi hi).1
    rw [h] at this; cases this
theorem slots_twice {l : List SlotM} {i k : Nat} (hi : i < l.length) (hk : k < i) (h0 : ((l[i]).key == 0) = false) (h1 : ((l[k]'(by omega)).key == (l[i]).key) = true) : slotsB l = false := by
  rcases hr : slotsB l with _ | _
  · rfl
  · exact absurd ⟨h0, h1⟩ ((slotsB_iff.1 hr i hi hi).2 k hk)
theorem slots_iff {l : List SlotM} : slotsB l = true ↔ SlotsOk l := by
  rw [slotsB_iff]
  constructor
  · intro h
    have g : ∀ (i : Nat) (hi : i < l.length), 0 ≤ (l[i]).key ∧ 0 ≤ (l[i]).claim ∧ ((l[i]).key = 0 → (l[i]).claim = 0) := fun i hi => by
      have := (h i hi hi).1
      unfold sloBad at this
      simp at this
      omega
    refine ⟨fun x hx => ?_, fun x hx h0 => ?_, fun i j hi hj he h0 => ?_⟩
    · obtain ⟨i, hi, rfl⟩ := List.getElem_of_mem hx
      exact ⟨(g i hi).1, (g i hi).2.1⟩
    · obtain ⟨i, hi, rfl⟩ := List.getElem_of_mem hx
      exact (g i hi).2.2 h0
    · rcases Nat.lt_trichotomy i j with hl | hl | hl
      · exact absurd ⟨by rw [← he]; simpa using h0, by simpa using he⟩ ((h j hj hj).2 i hl)
      · exact hl
      · exact absurd ⟨by simpa using h0, by simpa using he.symm⟩ ((h i hi hi).2 j hl)
  · intro h i hi _
    refine ⟨?_, fun k hk hc => ?_⟩
    · have h1 := h.k0 _ (List.getElem_mem hi)
      have h2 := h.free _ (List.getElem_mem hi)
      unfold sloBad
      simp
      omega
    · have := h.one i k hi (by omega) (by have := hc.2; simp at this; omega) (by have := hc.1; simpa using this)
      omega

set_option maxRecDepth 100000 in
set_option maxHeartbeats 1000000 in
theorem refSlots_any (aS : Option Addr) (nS cS : Nat) (l : List SlotM) (vH vQ : Value) (w : World) (hS : LiesS w w.heap.size aS nS l) (hn : nS ≤ maxLen) :
    Calls Try.prog 20 #[.agg #[.slice aS nS cS, vH, vQ]] w fun e w' => e = .returned (.bool (slotsB l)) ∧ Below w.heap.size w w' := by
  have HL : Hid (l.length = nS) := hS.1
  unfold maxLen at hn
  obtain ⟨W0, hW⟩ : ∃ W0, W0 = w.alloc (.cells #[.slice aS nS cS, vH, vQ] 29) := ⟨_, rfl⟩
  have hbw : Below w.heap.size w W0 := hW ▸ one_new _ _
  have p0 : Blk W0 w.heap.size #[.slice aS nS cS, vH, vQ] 29 := hW ▸ Blk.new w _ _
  obtain ⟨t0, t1, t2⟩ := tab_cells p0
  have hA := hS.below hbw
  have hw0 := p0.lt
  clear hS
  go_enter Try.func20, Try.ntmps20
  have HA : Hid (∀ W, Below W0.heap.size W0 W → LiesS W W.heap.size aS nS l) := fun W h => hA.below h
  clear hA t0 t1 t2
  go_wp2_with fail
  rw [← hW]
  clear hW
  go_loopw [3] (fun i wr => ∃ k : Nat, k ≤ nS ∧ i = .int .i64 k ∧ Below W0.heap.size W0 wr ∧ Hid (SloP l k)) (fun i _ => nS - (intOf i).toNat)
  case atStart => exact ⟨0, Nat.zero_le _, rfl, Below.refl _ _, fun i _ hi => by omega⟩
  case round =>
    obtain ⟨i, hi, rfl, hb, HF⟩ := hrel
    obtain ⟨t0, t1, t2⟩ := tab_cells (p0.below hb p0.lt)
    have hwr := hb.size
    by_cases hlt : i < nS
    · have hil : i < l.length := by rw [HL.out]; exact hlt
      obtain ⟨ad, e1, had, c0, c1⟩ := slo_cells (HA.out _ hb) hlt hil
      subst e1
      obtain ⟨kx, cx, hx⟩ : ∃ kx cx, l[i] = (⟨kx, cx⟩ : SlotM) := ⟨_, _, rfl⟩
      have HX : Hid (∃ h : i < l.length, l[i] = (⟨kx, cx⟩ : SlotM)) := ⟨hil, hx⟩
      rw [hx] at c0 c1
      clear hx hil
      have px := Blk.new wr #[.int .i64 kx, .int .i64 cx] 48
      have bx := hb.alloc hb.size (.cells #[.int .i64 kx, .int .i64 cx] 48)
      rcases hbad : sloBad ⟨kx, cx⟩ with _ | _
      · have HBad := Lib.hid hbad
        obtain ⟨WX, hWX⟩ : ∃ W, W = wr.alloc (.cells #[.int .i64 kx, .int .i64 cx] 48) := ⟨_, rfl⟩
        have pX : Blk WX wr.heap.size #[.int .i64 kx, .int .i64 cx] 48 := hWX ▸ px
        have bX : Below W0.heap.size W0 WX := hWX ▸ bx
        clear px bx
        have z0 : decide (kx < 0) = false := by
          unfold sloBad at hbad
          simp only [Bool.or_eq_false_iff] at hbad
          exact hbad.1
        have z1 : decide (cx < 0) = false := by
          unfold sloBad at hbad
          simp only [Bool.or_eq_false_iff] at hbad
          exact hbad.2.1
        rcases z2 : kx == 0 with _ | _
        · have HZ := Lib.hid z2
          have z4 : (kx != 0) = true := by unfold bne; rw [z2]; rfl
          clear hbad
          go_wp2_with fail
          rw [← hWX]
          clear hWX
          go_loopw [5] (fun v wq => ∃ k : Nat, k ≤ i ∧ v = .int .i64 k ∧ Below WX.heap.size WX wq ∧ Hid (∀ (j : Nat) (hj : j < k) (hjl : j < l.length), ¬ ((kx == 0) = false ∧ ((l[j]).key == kx) = true))) (fun v _ => i - (intOf v).toNat)
          case atStart => exact ⟨0, Nat.zero_le _, rfl, Below.refl _ _, fun j hj => by omega⟩
          case round =>
            obtain ⟨k, hk, rfl, hq, HG⟩ := hrel
            have hbq := below_then bX hq
            obtain ⟨t0, t1, t2⟩ := tab_cells (p0.below hbq p0.lt)
            have x0 := (pX.below hq pX.lt).cell 0 _ rfl
            have hwq := hbq.size
            have hxq := (pX.below hq pX.lt).lt
            by_cases hkt : k < i
            · have hkl : k < l.length := by rw [HL.out]; omega
              obtain ⟨ad', e1, had', c0', c1'⟩ := slo_cells (HA.out _ hbq) (by omega : k < nS) hkl
              injection e1 with e1
              subst e1
              obtain ⟨kq, hkq⟩ : ∃ kq, (l[k]).key = kq := ⟨_, rfl⟩
              have HK : Hid (∃ h : k < l.length, (l[k]).key = kq) := ⟨hkl, hkq⟩
              rw [hkq] at c0'
              clear hkq hkl c1'
              rcases hq2 : kq == kx with _ | _
              · have HQ2 := Lib.hid hq2
                have HG' : Hid (∀ (j : Nat) (hj : j < k + 1) (hjl : j < l.length), ¬ ((kx == 0) = false ∧ ((l[j]).key == kx) = true)) := fun j hj hjl hc => by
                  by_cases e : j = k
                  · subst e
                    have h1 := hc.2; rw [HK.out.2, HQ2.out] at h1; cases h1
                  · exact HG.out j (by omega) hjl hc
                clear HG
                go_upto_region 10 with fail
                go_quiet (fail)
                go_wp2_with fail
                go_roundw
                case rel => exact ⟨k + 1, by omega, by go_num, hq.trans (drewN_below _ _ _), HG'⟩
                case measure => simp [intOf]; omega
              · have HV : Hid (slotsB l = false) := slots_twice HX.out.1 hkt (by rw [HX.out.2]; exact HZ.out) (by rw [HX.out.2, HK.out.2]; exact hq2)
                clear HG
                go_upto_region 10 with fail
                go_quiet (fail)
                go_wp2_with fail
                go_ret
                exact ⟨by rw [HV.out] <;> rfl, below_then hbw (hbq.trans (drewN_below _ _ _))⟩
            · have hki : k = i := by omega
              have HF' : Hid (SloP l (i + 1)) := fun j hj hji => by
                by_cases e : j = i
                · subst e
                  refine ⟨by rw [HX.out.2]; exact HBad.out, fun a ha => ?_⟩
                  rw [HX.out.2]
                  exact HG.out a (by omega) (by omega)
                · exact HF.out j hj (by omega)
              clear HG hkt
              go_wp2_with fail
              go_roundw
              case rel => exact ⟨i + 1, by omega, by go_num, hbq, HF'⟩
              case measure => simp [intOf]; omega
        · have z3 : (cx == 0) = true := by
            unfold sloBad at hbad
            rw [z2] at hbad
            simpa using (Bool.or_eq_false_iff.1 (Bool.or_eq_false_iff.1 hbad).2).2
          have HZ := Lib.hid z2
          have z4 : (kx != 0) = false := by unfold bne; rw [z2]; rfl
          clear hbad
          go_wp2_with fail
          rw [← hWX]
          clear hWX
          go_loopw [5] (fun v wq => ∃ k : Nat, k ≤ i ∧ v = .int .i64 k ∧ Below WX.heap.size WX wq ∧ Hid (∀ (j : Nat) (hj : j < k) (hjl : j < l.length), ¬ ((kx == 0) = false ∧ ((l[j]).key == kx) = true))) (fun v _ => i - (intOf v).toNat)
          case atStart => exact ⟨0, Nat.zero_le _, rfl, Below.refl _ _, fun j hj => by omega⟩
          case round =>
            obtain ⟨k, hk, rfl, hq, HG⟩ := hrel
            have hbq := below_then bX hq
            obtain ⟨t0, t1, t2⟩ := tab_cells (p0.below hbq p0.lt)
            have x0 := (pX.below hq pX.lt).cell 0 _ rfl
            have hwq := hbq.size
            have hxq := (pX.below hq pX.lt).lt
            by_cases hkt : k < i
            · have hkl : k < l.length := by rw [HL.out]; omega
              obtain ⟨ad', e1, had', c0', c1'⟩ := slo_cells (HA.out _ hbq) (by omega : k < nS) hkl
              injection e1 with e1
              subst e1
              obtain ⟨kq, hkq⟩ : ∃ kq, (l[k]).key = kq := ⟨_, rfl⟩
              have HK : Hid (∃ h : k < l.length, (l[k]).key = kq) := ⟨hkl, hkq⟩
              rw [hkq] at c0'
              clear hkq hkl c1'
              have HG' : Hid (∀ (j : Nat) (hj : j < k + 1) (hjl : j < l.length), ¬ ((kx == 0) = false ∧ ((l[j]).key == kx) = true)) := fun j hj hjl hc => by
                by_cases e : j = k
                · subst e
                  have h1 := hc.1; rw [HZ.out] at h1; cases h1
                · exact HG.out j (by omega) hjl hc
              clear HG
              go_upto_region 10 with fail
              go_quiet (fail)
              go_wp2_with fail
              go_roundw
              case rel => exact ⟨k + 1, by omega, by go_num, hq.trans (drewN_below _ _ _), HG'⟩
              case measure => simp [intOf]; omega
            · have hki : k = i := by omega
              have HF' : Hid (SloP l (i + 1)) := fun j hj hji => by
                by_cases e : j = i
                · subst e
                  refine ⟨by rw [HX.out.2]; exact HBad.out, fun a ha => ?_⟩
                  rw [HX.out.2]
                  exact HG.out a (by omega) (by omega)
                · exact HF.out j hj (by omega)
              clear HG hkt
              go_wp2_with fail
              go_roundw
              case rel => exact ⟨i + 1, by omega, by go_num, hbq, HF'⟩
              case measure => simp [intOf]; omega
      · have HV : Hid (slotsB l = false) := slots_bad HX.out.1 (by rw [HX.out.2]; exact hbad)
        rcases z0 : decide (kx < 0) with _ | _
        · rcases z1 : decide (cx < 0) with _ | _
          · obtain ⟨z2, z3⟩ : (kx == 0) = true ∧ (cx == 0) = false := by
              unfold sloBad at hbad
              rw [z0, z1] at hbad
              simpa using hbad
            clear hbad
            go_wp2_with fail
            go_ret
            exact ⟨by rw [HV.out] <;> rfl, below_then hbw bx⟩
          · clear hbad
            go_wp2_with fail
            go_ret
            exact ⟨by rw [HV.out] <;> rfl, below_then hbw bx⟩
        · clear hbad
          go_wp2_with fail
          go_ret
          exact ⟨by rw [HV.out] <;> rfl, below_then hbw bx⟩
    · have HV : Hid (slotsB l = true) := slots_yes HL.out (by have h := HF.out; rwa [show i = nS by omega] at h)
      have hkn : i = nS := by omega
      clear hlt HF
      go_wp2_with fail
      go_ret
      exact ⟨by rw [HV.out] <;> rfl, below_then hbw hb⟩

end Go.Proofs.Ytjknloaolennoaa
