/-
  The law's small example: what the document says of a sector that is put, and lost, or fenced.
-/
import Derived.Test.YtleemgjbihdbgaaDevVar
import Derived.Test.YtleemgjbihdbgaaMem
namespace Go.Proofs.Ytleemgjbihdbgaa
open Go.RowKit
set_option linter.unusedVariables false
set_option linter.unusedSimpArgs false

def wS : List ByteArray := [⟨#[]⟩, ⟨#[120]⟩]
def wk0 : Dev := ⟨wS, [[], []], [0, 0], 1, []⟩
def wk1 : Dev := ⟨wS, [[], []], [16, 0], 2, []⟩
def wk2 : Dev := ⟨wS, [[], []], [16, 33], 3, []⟩
def wk3 : Dev := ⟨wS, [[(1, ⟨#[97]⟩)], []], [16, 33], 3, []⟩
def wkL : Dev := ⟨wS, [[], []], [16, 33], 3, []⟩
def wkK : Dev := ⟨[⟨#[]⟩, ⟨#[97]⟩], [[], []], [16, 33], 3, []⟩
def wk4 : Dev := ⟨wS, [[(1, ⟨#[97]⟩)], []], [16, 33], 3, [16]⟩
def wkF : Dev := ⟨wS, [[], []], [16, 33], 3, [16]⟩
theorem wk0_eq : nwD 2 wS = wk0 := rfl
theorem wk1_eq : doD wk0 0 ⟨6, 0, ⟨#[]⟩, 0⟩ = wk1 := rfl
theorem wk2_eq : doD wk1 1 ⟨6, 0, ⟨#[]⟩, 0⟩ = wk2 := rfl
theorem wk3_eq : doD wk2 0 ⟨3, 1, ⟨#[97]⟩, 0⟩ = wk3 := rfl
theorem wkL_eq : crD wk3 0 0 = wkL := rfl
theorem wkK_eq : crD wk3 0 1 = wkK := rfl
theorem wk4_eq : doD wk3 1 ⟨5, 0, ⟨#[]⟩, 16⟩ = wk4 := rfl
theorem wkF_eq : crD wk4 0 1 = wkF := rfl
theorem lies_pair (w : World) (s t : ByteArray) (T : TypeId) : Lies (w.alloc (.cells #[.string s, .string t] T)) (w.alloc (.cells #[.string s, .string t] T)).heap.size (some ⟨w.heap.size, 0, none⟩) 2 (strV [s, t]) := by
  refine ⟨rfl, fun _ => ⟨_, rfl, by simp, fun j u hj => ?_⟩⟩
  rw [Addr.add_lit, Nat.zero_add]
  exact (Blk.new w _ T).cell j u (by simpa [strV] using hj)
/-- The second of two sectors, in a variable. -/
theorem VarAt.second {w : World} {B b : Nat} {D : Dev} {s t : ByteArray} (h : VarAt w B b D) (e : D.S = [s, t]) : ∃ ad c, w.cell? ⟨b, 0, none⟩ = some (.slice (some ad) 2 c) ∧ w.cell? (ad.add 1) = some (.string t) := by
  obtain ⟨aS, cS, aC, cC, aK, cK, aF, cF, k0, -, -, -, -, -, hL, -⟩ := h.cells
  rw [e] at hL k0
  obtain ⟨ad, rfl, h2⟩ := str_at (k := 1) hL (by simp) (by simp)
  exact ⟨ad, cS, k0, h2⟩
theorem may_do {D : Dev} (h : MayD D) (node : Int) (a : ActM) : MayD (doD D node a) := by
  unfold doD
  split
  · rename_i hn
    exact may_act h (by have := hn.1; have := hn.2; omega) a
  · exact h
theorem wk0_may : MayD wk0 := may_new (nodes := 2) (by omega) (by omega) (by decide) (by decide)
theorem wk1_may : MayD wk1 := wk1_eq ▸ may_do wk0_may _ _
theorem wk2_may : MayD wk2 := wk2_eq ▸ may_do wk1_may _ _
theorem wk3_may : MayD wk3 := wk3_eq ▸ may_do wk2_may _ _
theorem wk4_may : MayD wk4 := wk4_eq ▸ may_do wk3_may _ _
theorem wk0_small : Small wk0 1099511627776 := ⟨by decide, by decide, by decide, by decide, by decide⟩
theorem wk1_small : Small wk1 1099511627776 := ⟨by decide, by decide, by decide, by decide, by decide⟩
theorem wk2_small : Small wk2 1099511627776 := ⟨by decide, by decide, by decide, by decide, by decide⟩
theorem wk3_small : Small wk3 1099511627776 := ⟨by decide, by decide, by decide, by decide, by decide⟩
theorem wk4_small : Small wk4 1099511627776 := ⟨by decide, by decide, by decide, by decide, by decide⟩

set_option maxRecDepth 100000 in
set_option maxHeartbeats 8000000 in
theorem wakes_any (w : World) :
    Calls Try.prog 7 #[] w fun e w' => e = .returned (.bool true) ∧ Below w.heap.size w w' := by
  obtain ⟨V0, hV0⟩ : ∃ V0, V0 = w.alloc (.cells #[.string ⟨#[]⟩, .string ⟨#[120]⟩] 9) := ⟨_, rfl⟩
  have hb0 : Below w.heap.size w V0 := hV0 ▸ below_alloc w _
  have hL : Lies V0 V0.heap.size (some ⟨w.heap.size, 0, none⟩) 2 (strV wS) := hV0 ▸ lies_pair w ⟨#[]⟩ ⟨#[120]⟩ 9
  have hc := devNew_any 2 (some ⟨w.heap.size, 0, none⟩) 2 2 wS V0 hL rfl (by omega)
  rw [wk0_eq, show nwE 2 wS = 0 from rfl] at hc
  go_enter Try.func7, Try.ntmps7
  go_wp2_with fail
  rw [← hV0]
  clear hV0 hL
  refine hc.mono ?_
  rintro e W0 ⟨uS, uC, uK, uF, f, rfl, hO, hb⟩
  obtain ⟨aS, cS, aC, cC, aK, cK, aF, cF, rfl, rfl, rfl, rfl⟩ := own_shapes hO
  obtain ⟨X0, hX0⟩ : ∃ X, X = W0.alloc (.cells #[.slice aS wk0.S.length cS, .slice aC wk0.C.length cC, .slice aK wk0.K.length cK, .int .i64 wk0.n, .slice aF wk0.F.length cF] 29) := ⟨_, rfl⟩
  have HV0 := Lib.hid (VarAt.less (B' := w.heap.size) (hX0 ▸ var_new hO) hb0.size)
  have hbx : Below W0.heap.size W0 X0 := hX0 ▸ below_alloc W0 _
  have HB0 := Lib.hid ((hb0.trans (hb.mono hb0.size)).trans (hbx.mono (Nat.le_trans hb0.size hb.size)))
  have HDV0 := Lib.hid ((hO.up hbx).dev)
  have HBL := Lib.hid (Nat.le_trans hb0.size hb.size)
  clear hc hO hb hb0 hbx
  go_wp2_with fail
  rw [← hX0]
  clear hX0
  have hc := devDo_any _ wk0 0 ⟨6, 0, ⟨#[]⟩, 0⟩ X0 HDV0.out wk0_may wk0_small ⟨by decide, by decide, by decide, by decide, by decide, by decide⟩
  rw [wk1_eq, show refE wk0 0 ⟨6, 0, ⟨#[]⟩, 0⟩ = 0 from rfl, show doS wk0 0 ⟨6, 0, ⟨#[]⟩, 0⟩ = ⟨#[16, 0, 0, 0, 0, 0]⟩ from rfl] at hc
  refine hc.mono ?_
  rintro e W1 ⟨uS, uC, uK, uF, f, rfl, hO, hb⟩
  obtain ⟨aS, cS, aC, cC, aK, cK, aF, cF, rfl, rfl, rfl, rfl⟩ := own_shapes hO
  obtain ⟨HF, hv, cs, kb⟩ := HV0.out.next hO hb HB0.out.size
  obtain ⟨X1, hX1⟩ : ∃ X, X = into5 W1 W0.heap.size (.slice aS wk1.S.length cS) (.slice aC wk1.C.length cC) (.slice aK wk1.K.length cK) wk1.n (.slice aF wk1.F.length cF) := ⟨_, rfl⟩
  have HV1 := Lib.hid hv
  rw [← hX1] at HV1
  have HDV1 := Lib.hid (into5_other hO kb (by decide) (by decide) (by decide) (by decide) (.slice aS wk1.S.length cS) (.slice aC wk1.C.length cC) (.slice aK wk1.K.length cK) wk1.n (.slice aF wk1.F.length cF)).dev
  rw [← hX1] at HDV1
  have HB1 := Lib.hid (into5_below (HB0.out.trans (hb.mono HB0.out.size)) HBL.out (.slice aS wk1.S.length cS) (.slice aC wk1.C.length cC) (.slice aK wk1.K.length cK) wk1.n (.slice aF wk1.F.length cF))
  rw [← hX1] at HB1
  have hXu := hX1
  unfold into5 at hXu
  obtain ⟨⟨u0, q0⟩, ⟨u1, q1⟩, ⟨u2, q2⟩, ⟨u3, q3⟩, ⟨u4, q4⟩, f0, f1, f2, f3, f4⟩ := HF
  clear hO hb hv kb HV0 HB0 HDV0 hc hX1
  go_wp2_with fail
  rw [← hXu]
  clear hXu q0 q1 q2 q3 q4 f0 f1 f2 f3 f4
  have hc := devDo_any _ wk1 1 ⟨6, 0, ⟨#[]⟩, 0⟩ X1 HDV1.out wk1_may wk1_small ⟨by decide, by decide, by decide, by decide, by decide, by decide⟩
  rw [wk2_eq, show refE wk1 1 ⟨6, 0, ⟨#[]⟩, 0⟩ = 0 from rfl, show doS wk1 1 ⟨6, 0, ⟨#[]⟩, 0⟩ = ⟨#[33, 0, 0, 0, 0, 0]⟩ from rfl] at hc
  refine hc.mono ?_
  rintro e W2 ⟨uS, uC, uK, uF, f, rfl, hO, hb⟩
  obtain ⟨aS, cS, aC, cC, aK, cK, aF, cF, rfl, rfl, rfl, rfl⟩ := own_shapes hO
  obtain ⟨HF, hv, cs, kb⟩ := HV1.out.next hO hb HB1.out.size
  obtain ⟨X2, hX2⟩ : ∃ X, X = into5 W2 W0.heap.size (.slice aS wk2.S.length cS) (.slice aC wk2.C.length cC) (.slice aK wk2.K.length cK) wk2.n (.slice aF wk2.F.length cF) := ⟨_, rfl⟩
  have HV2 := Lib.hid hv
  rw [← hX2] at HV2
  have HDV2 := Lib.hid (into5_other hO kb (by decide) (by decide) (by decide) (by decide) (.slice aS wk2.S.length cS) (.slice aC wk2.C.length cC) (.slice aK wk2.K.length cK) wk2.n (.slice aF wk2.F.length cF)).dev
  rw [← hX2] at HDV2
  have HB2 := Lib.hid (into5_below (HB1.out.trans (hb.mono HB1.out.size)) HBL.out (.slice aS wk2.S.length cS) (.slice aC wk2.C.length cC) (.slice aK wk2.K.length cK) wk2.n (.slice aF wk2.F.length cF))
  rw [← hX2] at HB2
  have hXu := hX2
  unfold into5 at hXu
  obtain ⟨⟨u0, q0⟩, ⟨u1, q1⟩, ⟨u2, q2⟩, ⟨u3, q3⟩, ⟨u4, q4⟩, f0, f1, f2, f3, f4⟩ := HF
  clear hO hb hv kb HV1 HB1 HDV1 hc hX2
  go_wp2_with fail
  rw [← hXu]
  clear hXu q0 q1 q2 q3 q4 f0 f1 f2 f3 f4
  have hc := devDo_any _ wk2 0 ⟨3, 1, ⟨#[97]⟩, 0⟩ X2 HDV2.out wk2_may wk2_small ⟨by decide, by decide, by decide, by decide, by decide, by decide⟩
  rw [wk3_eq, show refE wk2 0 ⟨3, 1, ⟨#[97]⟩, 0⟩ = 0 from rfl, show doS wk2 0 ⟨3, 1, ⟨#[97]⟩, 0⟩ = ⟨#[]⟩ from rfl] at hc
  refine hc.mono ?_
  rintro e W3 ⟨uS, uC, uK, uF, f, rfl, hO, hb⟩
  obtain ⟨aS, cS, aC, cC, aK, cK, aF, cF, rfl, rfl, rfl, rfl⟩ := own_shapes hO
  obtain ⟨HF, hv, cs, kb⟩ := HV2.out.next hO hb HB2.out.size
  obtain ⟨X3, hX3⟩ : ∃ X, X = into5 W3 W0.heap.size (.slice aS wk3.S.length cS) (.slice aC wk3.C.length cC) (.slice aK wk3.K.length cK) wk3.n (.slice aF wk3.F.length cF) := ⟨_, rfl⟩
  have HV3 := Lib.hid hv
  rw [← hX3] at HV3
  have HDV3 := Lib.hid (into5_other hO kb (by decide) (by decide) (by decide) (by decide) (.slice aS wk3.S.length cS) (.slice aC wk3.C.length cC) (.slice aK wk3.K.length cK) wk3.n (.slice aF wk3.F.length cF)).dev
  rw [← hX3] at HDV3
  have HB3 := Lib.hid (into5_below (HB2.out.trans (hb.mono HB2.out.size)) HBL.out (.slice aS wk3.S.length cS) (.slice aC wk3.C.length cC) (.slice aK wk3.K.length cK) wk3.n (.slice aF wk3.F.length cF))
  rw [← hX3] at HB3
  have hXu := hX3
  unfold into5 at hXu
  obtain ⟨⟨u0, q0⟩, ⟨u1, q1⟩, ⟨u2, q2⟩, ⟨u3, q3⟩, ⟨u4, q4⟩, f0, f1, f2, f3, f4⟩ := HF
  clear hO hb hv kb HV2 HB2 HDV2 hc hX3
  go_wp2_with fail
  rw [← hXu]
  clear hXu q0 q1 q2 q3 q4 f0 f1 f2 f3 f4
  have hc := devCrash_any _ wk3 0 0 X3 HDV3.out wk3_may wk3_small (by decide)
  rw [wkL_eq, show nodeE wk3 0 = 0 from rfl] at hc
  refine hc.mono ?_
  rintro e W4 ⟨uS, uC, uK, uF, f, rfl, hO, hb⟩
  obtain ⟨aS, cS, aC, cC, aK, cK, aF, cF, rfl, rfl, rfl, rfl⟩ := own_shapes hO
  obtain ⟨X4, hX4⟩ : ∃ X, X = W4.alloc (.cells #[.slice aS wkL.S.length cS, .slice aC wkL.C.length cC, .slice aK wkL.K.length cK, .int .i64 wkL.n, .slice aF wkL.F.length cF] 29) := ⟨_, rfl⟩
  have hbx : Below W4.heap.size W4 X4 := hX4 ▸ below_alloc W4 _
  have HLT4 := Lib.hid (Nat.lt_of_lt_of_le HV3.out.lt hb.size)
  have HOL := Lib.hid (VarAt.less (B' := w.heap.size) (hX4 ▸ var_new hO) HB3.out.size)
  have HV4 := Lib.hid ((HV3.out.up hb).up hbx)
  have HB4 := Lib.hid ((HB3.out.trans (hb.mono HB3.out.size)).trans (hbx.mono (Nat.le_trans HB3.out.size hb.size)))
  obtain ⟨pS, dS, pC, dC, pK, dK, pF, dF, k0, k1, k2, k3, k4, hdev, -, -⟩ := HV4.out.cells
  have HDV4 := Lib.hid hdev
  rw [hX4] at k0 k1 k2 k3 k4
  clear hO hb hbx HV3 HB3 HDV3 hc hdev
  go_wp2_with fail
  rw [← hX4]
  clear hX4 k0 k1 k2 k3 k4
  have hc := devCrash_any _ wk3 0 1 X4 HDV4.out wk3_may wk3_small (by decide)
  rw [wkK_eq, show nodeE wk3 0 = 0 from rfl] at hc
  refine hc.mono ?_
  rintro e W5 ⟨uS, uC, uK, uF, f, rfl, hO, hb⟩
  obtain ⟨aS, cS, aC, cC, aK, cK, aF, cF, rfl, rfl, rfl, rfl⟩ := own_shapes hO
  obtain ⟨X5, hX5⟩ : ∃ X, X = W5.alloc (.cells #[.slice aS wkK.S.length cS, .slice aC wkK.C.length cC, .slice aK wkK.K.length cK, .int .i64 wkK.n, .slice aF wkK.F.length cF] 29) := ⟨_, rfl⟩
  have hbx : Below W5.heap.size W5 X5 := hX5 ▸ below_alloc W5 _
  have HLT5 := Lib.hid (Nat.lt_of_lt_of_le HV4.out.lt hb.size)
  have HOK := Lib.hid (VarAt.less (B' := w.heap.size) (hX5 ▸ var_new hO) HB4.out.size)
  have HV5 := Lib.hid ((HV4.out.up hb).up hbx)
  have HB5 := Lib.hid ((HB4.out.trans (hb.mono HB4.out.size)).trans (hbx.mono (Nat.le_trans HB4.out.size hb.size)))
  have HOL := Lib.hid ((HOL.out.up hb).up hbx)
  obtain ⟨pS, dS, pC, dC, pK, dK, pF, dF, k0, k1, k2, k3, k4, hdev, -, -⟩ := HV5.out.cells
  have HDV5 := Lib.hid hdev
  rw [hX5] at k0 k1 k2 k3 k4
  clear hO hb hbx HV4 HB4 HDV4 hc hdev
  go_wp2_with fail
  rw [← hX5]
  clear hX5 k0 k1 k2 k3 k4
  have hc := devDo_any _ wk3 1 ⟨5, 0, ⟨#[]⟩, 16⟩ X5 HDV5.out wk3_may wk3_small ⟨by decide, by decide, by decide, by decide, by decide, by decide⟩
  rw [wk4_eq, show refE wk3 1 ⟨5, 0, ⟨#[]⟩, 16⟩ = 0 from rfl, show doS wk3 1 ⟨5, 0, ⟨#[]⟩, 16⟩ = ⟨#[]⟩ from rfl] at hc
  refine hc.mono ?_
  rintro e W6 ⟨uS, uC, uK, uF, f, rfl, hO, hb⟩
  obtain ⟨aS, cS, aC, cC, aK, cK, aF, cF, rfl, rfl, rfl, rfl⟩ := own_shapes hO
  obtain ⟨HF, hv, cs, kb⟩ := HV5.out.next hO hb HB5.out.size
  obtain ⟨X6, hX6⟩ : ∃ X, X = into5 W6 W0.heap.size (.slice aS wk4.S.length cS) (.slice aC wk4.C.length cC) (.slice aK wk4.K.length cK) wk4.n (.slice aF wk4.F.length cF) := ⟨_, rfl⟩
  have HV6 := Lib.hid hv
  rw [← hX6] at HV6
  have HDV6 := Lib.hid (into5_other hO kb (by decide) (by decide) (by decide) (by decide) (.slice aS wk4.S.length cS) (.slice aC wk4.C.length cC) (.slice aK wk4.K.length cK) wk4.n (.slice aF wk4.F.length cF)).dev
  rw [← hX6] at HDV6
  have HB6 := Lib.hid (into5_below (HB5.out.trans (hb.mono HB5.out.size)) HBL.out (.slice aS wk4.S.length cS) (.slice aC wk4.C.length cC) (.slice aK wk4.K.length cK) wk4.n (.slice aF wk4.F.length cF))
  rw [← hX6] at HB6
  have HOL := Lib.hid ((HOL.out.up hb).into kb (Nat.ne_of_gt HLT4.out) (.slice aS wk4.S.length cS) (.slice aC wk4.C.length cC) (.slice aK wk4.K.length cK) wk4.n (.slice aF wk4.F.length cF))
  rw [← hX6] at HOL
  have HOK := Lib.hid ((HOK.out.up hb).into kb (Nat.ne_of_gt HLT5.out) (.slice aS wk4.S.length cS) (.slice aC wk4.C.length cC) (.slice aK wk4.K.length cK) wk4.n (.slice aF wk4.F.length cF))
  rw [← hX6] at HOK
  have hXu := hX6
  unfold into5 at hXu
  obtain ⟨⟨u0, q0⟩, ⟨u1, q1⟩, ⟨u2, q2⟩, ⟨u3, q3⟩, ⟨u4, q4⟩, f0, f1, f2, f3, f4⟩ := HF
  clear hO hb hv kb HV5 HB5 HDV5 hc hX6
  go_wp2_with fail
  rw [← hXu]
  clear hXu q0 q1 q2 q3 q4 f0 f1 f2 f3 f4
  have hc := devCrash_any _ wk4 0 1 X6 HDV6.out wk4_may wk4_small (by decide)
  rw [wkF_eq, show nodeE wk4 0 = 0 from rfl] at hc
  refine hc.mono ?_
  rintro e W7 ⟨uS, uC, uK, uF, f, rfl, hO, hb⟩
  obtain ⟨aS, cS, aC, cC, aK, cK, aF, cF, rfl, rfl, rfl, rfl⟩ := own_shapes hO
  obtain ⟨X7, hX7⟩ : ∃ X, X = W7.alloc (.cells #[.slice aS wkF.S.length cS, .slice aC wkF.C.length cC, .slice aK wkF.K.length cK, .int .i64 wkF.n, .slice aF wkF.F.length cF] 29) := ⟨_, rfl⟩
  have hbx : Below W7.heap.size W7 X7 := hX7 ▸ below_alloc W7 _
  have HLT7 := Lib.hid (Nat.lt_of_lt_of_le HV6.out.lt hb.size)
  have HOF := Lib.hid (VarAt.less (B' := w.heap.size) (hX7 ▸ var_new hO) HB6.out.size)
  have HV7 := Lib.hid ((HV6.out.up hb).up hbx)
  have HB7 := Lib.hid ((HB6.out.trans (hb.mono HB6.out.size)).trans (hbx.mono (Nat.le_trans HB6.out.size hb.size)))
  have HOL := Lib.hid ((HOL.out.up hb).up hbx)
  have HOK := Lib.hid ((HOK.out.up hb).up hbx)
  obtain ⟨pS, dS, pC, dC, pK, dK, pF, dF, k0, k1, k2, k3, k4, hdev, -, -⟩ := HV7.out.cells
  have HDV7 := Lib.hid hdev
  rw [hX7] at k0 k1 k2 k3 k4
  clear hO hb hbx HV6 HB6 HDV6 hc hdev
  go_wp2_with fail
  rw [← hX7]
  clear hX7 k0 k1 k2 k3 k4
  have hc := devDo_any _ wk4 0 ⟨1, 0, ⟨#[]⟩, 0⟩ X7 HDV7.out wk4_may wk4_small ⟨by decide, by decide, by decide, by decide, by decide, by decide⟩
  rw [show refE wk4 0 ⟨1, 0, ⟨#[]⟩, 0⟩ = 61 from rfl, show doS wk4 0 ⟨1, 0, ⟨#[]⟩, 0⟩ = ⟨#[]⟩ from rfl] at hc
  refine hc.mono ?_
  rintro e W8 ⟨uS, uC, uK, uF, f, rfl, hO, hb⟩
  obtain ⟨aS, cS, aC, cC, aK, cK, aF, cF, rfl, rfl, rfl, rfl⟩ := own_shapes hO
  obtain ⟨X8, hX8⟩ : ∃ X, X = W8.alloc (.cells #[.slice aS (doD wk4 0 ⟨1, 0, ⟨#[]⟩, 0⟩).S.length cS, .slice aC (doD wk4 0 ⟨1, 0, ⟨#[]⟩, 0⟩).C.length cC, .slice aK (doD wk4 0 ⟨1, 0, ⟨#[]⟩, 0⟩).K.length cK, .int .i64 (doD wk4 0 ⟨1, 0, ⟨#[]⟩, 0⟩).n, .slice aF (doD wk4 0 ⟨1, 0, ⟨#[]⟩, 0⟩).F.length cF] 29) := ⟨_, rfl⟩
  have hbx : Below W8.heap.size W8 X8 := hX8 ▸ below_alloc W8 _
  have HLT8 := Lib.hid (Nat.lt_of_lt_of_le HV7.out.lt hb.size)
  have HO8 := Lib.hid (VarAt.less (B' := w.heap.size) (hX8 ▸ var_new hO) HB7.out.size)
  have HV8 := Lib.hid ((HV7.out.up hb).up hbx)
  have HB8 := Lib.hid ((HB7.out.trans (hb.mono HB7.out.size)).trans (hbx.mono (Nat.le_trans HB7.out.size hb.size)))
  have HOL := Lib.hid ((HOL.out.up hb).up hbx)
  have HOK := Lib.hid ((HOK.out.up hb).up hbx)
  have HOF := Lib.hid ((HOF.out.up hb).up hbx)
  obtain ⟨pS, dS, pC, dC, pK, dK, pF, dF, k0, k1, k2, k3, k4, hdev, -, -⟩ := HV8.out.cells
  have HDV8 := Lib.hid hdev
  rw [hX8] at k0 k1 k2 k3 k4
  clear hO hb hbx HV7 HB7 HDV7 hc hdev
  obtain ⟨l1, z1, a0, a1⟩ := HOL.out.second (s := ⟨#[]⟩) (t := ⟨#[120]⟩) rfl
  obtain ⟨l2, z2, b0, b1⟩ := HOK.out.second (s := ⟨#[]⟩) (t := ⟨#[97]⟩) rfl
  obtain ⟨l3, z3, d0, d1⟩ := HOF.out.second (s := ⟨#[]⟩) (t := ⟨#[120]⟩) rfl
  rw [hX8] at a0 a1 b0 b1 d0 d1
  have a2 := a1
  have b2 := b1
  have d2 := d1
  rw [add_one] at a2 b2 d2
  clear HOL HOK HOF k0 k1 k2 k3 k4
  go_wp2_with fail
  go_ret
  exact ⟨rfl, hX8 ▸ HB8.out⟩

end Go.Proofs.Ytleemgjbihdbgaa
