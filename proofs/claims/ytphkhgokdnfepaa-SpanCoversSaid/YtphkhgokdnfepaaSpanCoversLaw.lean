/-
  The statement SpanCovers: a hold covers just the blocks of its span, in its mode or less, for its key; a key touches what it covers: for every row of holds, every key and block the call answers true and leaves its arguments as they were. No conditions.
-/
import Derived.Test.YtphkhgokdnfepaaSpanWakes
import Derived.Test.YtphkhgokdnfepaaGeoArg
import Derived.ProofKit
import Derived.ShutString
import Derived.ChangeOld
import Derived.Below
namespace Go.Proofs.Ytphkhgokdnfepaa.spanCovers
open Go.ChangeShapes Go.WideShapes Go.ChangeAt Go.RowKit
open Go.ChangeMaps (open_string shut_string)
set_option linter.unusedVariables false
set_option linter.unusedSimpArgs false

theorem own : ownKnob Try.prog.godebug = none := by kernel_rfl
theorem laidOut : laidOutB Try.prog = true := by kernel_rfl

/-- What the law reckons, as far as k. -/
theorem on_take {l : List HoldM} {key b : Int} {k : Nat} (hk : k < l.length) {x : HoldM} (e : l[k] = x) :
    sCov (l.take (k + 1)) key b 2 = (sCov (l.take k) key b 2 || ((x.key == key) && (hasC b 2 x.s x.m))) ∧ sCov (l.take (k + 1)) key b 1 = (sCov (l.take k) key b 1 || ((x.key == key) && (hasC b 1 x.s x.m))) ∧
      sTou (l.take (k + 1)) key ⟨b, b⟩ = (sTou (l.take k) key ⟨b, b⟩ || ((x.key == key) && sOv x.s ⟨b, b⟩)) := by
  rw [s_cov_take hk, s_cov_take hk, s_tou_take hk, e, sHas_parts, sHas_parts]
  exact ⟨rfl, rfl, rfl⟩
theorem off {l : List HoldM} {key b : Int} {k : Nat} (hk : k < l.length) {kx lx hx mx : Int} (e : l[k] = ⟨kx, ⟨lx, hx⟩, mx⟩) (h : (kx == key) = false ∨ b < lx ∨ hx < b) {o s n : Bool}
    (h2 : sCov (l.take k) key b 2 = o ∧ sCov (l.take k) key b 1 = s ∧ sTou (l.take k) key ⟨b, b⟩ = n) : sCov (l.take (k + 1)) key b 2 = o ∧ sCov (l.take (k + 1)) key b 1 = s ∧ sTou (l.take (k + 1)) key ⟨b, b⟩ = n := by
  obtain ⟨h3, h4, h5⟩ := on_take (key := key) (b := b) hk e
  obtain ⟨h6, h7, h8⟩ := h2
  rw [h3, h4, h5, h6, h7, h8]
  rcases h with h | h | h
  · simp [h]
  · have e1 : decide (lx ≤ b) = false := decide_eq_false (by omega)
    simp [hasC, sOv, e1]
  · have e1 : decide (b ≤ hx) = false := decide_eq_false (by omega)
    simp [hasC, sOv, e1]
theorem on {l : List HoldM} {key b : Int} {k : Nat} (hk : k < l.length) {kx lx hx mx : Int} (e : l[k] = ⟨kx, ⟨lx, hx⟩, mx⟩) (h : (kx == key) = true) (h0 : lx ≤ b) (h1 : b ≤ hx) {o s n : Bool}
    (h2 : sCov (l.take k) key b 2 = o ∧ sCov (l.take k) key b 1 = s ∧ sTou (l.take k) key ⟨b, b⟩ = n) : sCov (l.take (k + 1)) key b 2 = (o || (mx == 2)) ∧ sCov (l.take (k + 1)) key b 1 = (s || ((mx == 1) || (mx == 2))) ∧ sTou (l.take (k + 1)) key ⟨b, b⟩ = true := by
  obtain ⟨h3, h4, h5⟩ := on_take (key := key) (b := b) hk e
  obtain ⟨h6, h7, h8⟩ := h2
  rw [h3, h4, h5, h6, h7, h8]
  refine ⟨?_, ?_, ?_⟩
  · simp [hasC, h, h0, h1]
  · simp [hasC, h, h0, h1]
  · rw [h, s_ov_iff.2 (by simp only; omega)]
    simp

set_option maxRecDepth 100000 in
set_option maxHeartbeats 2000000 in
theorem walk (A : Option Addr) (n c : Nat) (l : List HoldM) (key b : Int) (w : World) (hl : IsHolds w A n c l) (w1 : (Lit.int .i64 key).wf = true) (w2 : (Lit.int .i64 b).wf = true) :
    Calls Try.prog 6 #[.slice A n c, .int .i64 key, .int .i64 b] w fun e w' => e = .returned (.bool true) ∧ Below w.heap.size w w' := by
  obtain ⟨hA, hn, hnc, hc, _⟩ := hl
  have HN := Lib.hid hn
  have HL : Hid (l.length = n) := hA.1
  have HA : Hid (∀ W, Below w.heap.size w W → LiesH W W.heap.size A n l) := fun W h => hA.below h
  clear hA hn hnc hc w1 w2
  by_cases g : 100 < n
  · go_enter Try.func6, Try.ntmps6
    go_wp2_with fail
    refine (wakes_any _).mono ?_
    rintro e w6 ⟨rfl, hb6⟩
    go_wp2_with fail
    go_ret
    exact ⟨rfl, hb6⟩
  · have g2 : n ≤ 100 := by omega
    clear g
    go_enter Try.func6, Try.ntmps6
    go_wp2_with fail
    go_loopw [7, 8, 9, 10] (fun o s m i wr => ∃ k : Nat, k ≤ n ∧ i = .int .i64 k ∧ Below w.heap.size w wr ∧ ∃ o' s' m' : Bool, o = .bool o' ∧ s = .bool s' ∧ m = .bool m' ∧ Hid (sCov (l.take k) key b 2 = o' ∧ sCov (l.take k) key b 1 = s' ∧ sTou (l.take k) key ⟨b, b⟩ = m')) (fun _ _ _ i _ => n - (intOf i).toNat)
    case atStart => exact ⟨0, Nat.zero_le _, rfl, Below.refl _ _, _, _, _, rfl, rfl, rfl, rfl, rfl, rfl⟩
    case round =>
      obtain ⟨k, hk, rfl, hb, o', s', m', rfl, rfl, rfl, HF⟩ := hrel
      by_cases hlt : k < n
      · have hkl : k < l.length := by rw [HL.out]; exact hlt
        obtain ⟨ad, e1, had, c0, c1, c2, c3⟩ := hol_cells (HA.out _ hb) hlt hkl
        subst e1
        obtain ⟨kx, lx, hx', mx, hx⟩ : ∃ kx lx hx' mx, l[k] = (⟨kx, ⟨lx, hx'⟩, mx⟩ : HoldM) := ⟨_, _, _, _, rfl⟩
        have HX : Hid (∃ h : k < l.length, l[k] = (⟨kx, ⟨lx, hx'⟩, mx⟩ : HoldM)) := ⟨hkl, hx⟩
        rw [hx] at c0 c1 c2 c3
        clear hx hkl
        have hb4 := hb.alloc hb.size (.cells #[.int .i64 kx, .int .i64 lx, .int .i64 hx', .int .i8 mx] 28)
        have HR := fun h => Lib.hid (off HX.out.1 HX.out.2 h HF.out)
        have HY := fun h h0 h1 => Lib.hid (on HX.out.1 HX.out.2 h h0 h1 HF.out)
        cases he : kx == key with
        | false =>
          have HF' := HR (.inl he)
          have hne : (kx != key) = true := by simp [bne, he]
          clear HR HY he
          go_wp2_with fail
          go_roundw
          case rel => exact ⟨k + 1, by omega, by go_num, hb4, _, _, _, rfl, rfl, rfl, HF'⟩
          case measure => simp [intOf]; omega
        | true =>
          have HY := HY he
          have hne : (kx != key) = false := by simp [bne, he]
          clear he
          by_cases h1 : b < lx
          · have HF' := HR (.inr (.inl h1))
            clear HR HY
            go_wp2_with fail
            go_roundw
            case rel => exact ⟨k + 1, by omega, by go_num, hb4, _, _, _, rfl, rfl, rfl, HF'⟩
            case measure => simp [intOf]; omega
          · have h1' : decide (b < lx) = false := decide_eq_false h1
            by_cases h2 : hx' < b
            · have HF' := HR (.inr (.inr h2))
              clear HR HY h1
              go_wp2_with fail
              go_roundw
              case rel => exact ⟨k + 1, by omega, by go_num, hb4, _, _, _, rfl, rfl, rfl, HF'⟩
              case measure => simp [intOf]; omega
            · have h2' : decide (hx' < b) = false := decide_eq_false h2
              have HF' := HY (by omega) (by omega)
              clear HR HY h1 h2
              cases h3 : mx == 2 with
              | true =>
                rw [h3] at HF'
                cases o' <;> cases s' <;>
                · go_wp2_with fail
                  go_roundw
                  case rel => exact ⟨k + 1, by omega, by go_num, hb4, _, _, _, rfl, rfl, rfl, by simpa using HF'⟩
                  case measure => simp [intOf]; omega
              | false =>
                cases h4 : mx == 1 with
                | true =>
                  rw [h3, h4] at HF'
                  cases o' <;> cases s' <;>
                  · go_wp2_with fail
                    go_roundw
                    case rel => exact ⟨k + 1, by omega, by go_num, hb4, _, _, _, rfl, rfl, rfl, by simpa using HF'⟩
                    case measure => simp [intOf]; omega
                | false =>
                  rw [h3, h4] at HF'
                  cases o' <;> cases s' <;>
                  · go_wp2_with fail
                    go_roundw
                    case rel => exact ⟨k + 1, by omega, by go_num, hb4, _, _, _, rfl, rfl, rfl, by simpa using HF'⟩
                    case measure => simp [intOf]; omega
      · have hkn : k = n := by omega
        have HF' : Hid (sCov l key b 2 = o' ∧ sCov l key b 1 = s' ∧ sTou l key ⟨b, b⟩ = m') := by
          have h := HF.out
          rwa [hkn, ← HL.out, List.take_length] at h
        have C1 := Covers_any A n c l key b 2
        have C2 := Covers_any A n c l key b 1
        have C3 := Touches_any A n c l key b b
        rw [HF'.out.1] at C1
        rw [HF'.out.2.1] at C2
        rw [HF'.out.2.2] at C3
        have z1 : (o' == o') = true := by simp
        have z2 : (s' == s') = true := by simp
        have z3 : (m' == m') = true := by simp
        clear hlt HF HF'
        go_wp2_with fail
        refine (C1 _ (HA.out _ hb) HN.out).mono ?_
        rintro e w1 ⟨rfl, hb1⟩
        have b1 := below_then hb hb1
        go_wp2_with fail
        refine (C2 _ (HA.out _ b1) HN.out).mono ?_
        rintro e w2 ⟨rfl, hb2⟩
        have b2 := below_then b1 hb2
        go_wp2_with fail
        refine (C3 _ (HA.out _ b2) HN.out).mono ?_
        rintro e w3 ⟨rfl, hb3⟩
        have b3 := below_then b2 hb3
        go_wp2_with fail
        refine (wakes_any _).mono ?_
        rintro e w4 ⟨rfl, hb4⟩
        have b4 := below_then b3 hb4
        go_wp2_with fail
        go_ret
        exact ⟨rfl, b4⟩

/-! ### THE ROW's STEP -/
set_option maxRecDepth 100000 in
theorem lifted (os : Os) (started : os.Started) (H : Type) (enc : TypeId × Value → H) :
    ReturnsInHanded {} Try.checked os 6 .any (Rows.spanCoversSpec.pre6 enc Try.prog Try.f6 Rows.spanCoversRow.domain false) (Rows.spanCoversSpec.post enc Try.prog Try.f6 false true false false) := by
  refine returnsInHanded_of_change (C := Try.checked) own started (by kernel_rfl) Try.func6
    (ChangeSpec.witness6 (enc := enc) (C := Try.checked) false ⟨#[], #[.slice none 0 0, .int .i64 0, .int .i64 0], []⟩ 8 (by kernel_rfl) (by kernel_rfl) (by kernel_rfl) (by kernel_rfl)) ?_
  intro W base args ds gs before hval0 hW hcnd _
  have hval : ∀ (j : Nat) t v, Try.f6.params[j]? = some t → args[j]? = some v → Value.okWide Try.prog W .any base t v := hval0
  have hW' := hW
  obtain ⟨p, q, hA0, hV, rfl, hfz, hnd⟩ := hW
  have hA : DataW.TrodAll enc Try.prog W 0 (fun _ => true) true Try.f6.params.toList args.toList ds p := hA0
  rw [Try.params6] at hA hval
  obtain ⟨v0, vs0, d0, ds0, p0, q0, hargs, rfl, rfl, h0, r0⟩ := trodAll_cons hA
  obtain ⟨v1, vs1, d1, ds1, p1, q1, rfl, rfl, rfl, h1, r1⟩ := trodAll_cons r0
  obtain ⟨v2, vs2, d2, ds2, p2, q2, rfl, rfl, rfl, h2, r2⟩ := trodAll_cons r1
  obtain ⟨rfl, rfl, rfl⟩ := trodAll_nil r2
  obtain rfl : args = #[v0, v1, v2] := by cases args; simp_all
  obtain ⟨rfl, rfl⟩ := trodVars_none hV
  have k0 := h0
  have lt0 : ∀ x ∈ p0, x.block < W.heap.size := by obtain ⟨m, hm⟩ := k0; exact DataW.trod_lt m _ _ _ hm
  obtain ⟨a0, len0, cap0, L0, rfl, w0⟩ := open_holds (hval 0 29 v0 rfl rfl) h0
  obtain ⟨a1, rfl, rfl, rfl, w1⟩ := open_int Try.underlying3 (hval 1 3 v1 rfl rfl) h1
  obtain ⟨a2, rfl, rfl, rfl, w2⟩ := open_int Try.underlying3 (hval 2 3 v2 rfl rfl) h2
  clear hA0 hval0
  refine (walk a0 len0 cap0 L0 a1 a2 W w0 w1 w2).mono fun e W' ⟨he, bel⟩ => ?_
  subst he
  exact ⟨_, rfl, _, _, _, [], _, [], hW', trodAll_mk1 (shut_bool Try.underlying4 _), (trodAll_cons_mk (Below.trod laidOut (by kernel_rfl) (of_decide_eq_true (by kernel_rfl)) k0 bel lt0) (trodAll_cons_mk (shut_int Try.underlying3 w1) (trodAll_cons_mk (shut_int Try.underlying3 w2) trodAll_mk0))), rfl, bel.frame _, fun h => by cases h⟩

theorem over : Rows.spanCoversRow.holds Try.pinned (OpenSpec.ofChange Rows.spanCoversSpec) :=
  OpenClaim.holds_of_wide 6 Try.f6 rfl rfl rfl rfl rfl rfl rfl ⟨rfl, rfl, rfl, rfl, rfl⟩ rfl rfl rfl rfl rfl (by kernel_rfl) Try.func6 (by kernel_rfl)
    (of_decide_eq_true (by kernel_rfl)) (by unfold Func.isWrapper; first | (rw [if_pos (by decide +kernel)]; kernel_rfl) | (rw [if_neg (by decide +kernel)]; exact ⟨rfl, rfl⟩))
    (fun os started H enc _ => lifted os started H enc)

/-- The statement. -/
theorem proved : Rows.SpanCoversSaid := over
#print axioms proved

end Go.Proofs.Ytphkhgokdnfepaa.spanCovers
