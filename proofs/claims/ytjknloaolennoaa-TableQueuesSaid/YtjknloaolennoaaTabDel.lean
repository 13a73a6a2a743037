/-
  table: a row of the call's own without those that meet conditions; 'without': by contract.
-/
import Derived.Test.YtjknloaolennoaaTabFilt
namespace Go.Proofs.Ytjknloaolennoaa
open Go.RowKit
set_option linter.unusedVariables false
set_option linter.unusedSimpArgs false

/-! ### Over plain rows: L's first i are those that are left of l's first j, the rest is l's -/
theorem del_skip {l L : List HoldM} {p : HoldM → Bool} {i j : Nat} (h : L.take i = notP p (l.take j)) (hj : j < l.length) {x : HoldM} (e : l[j] = x) (hp : p x = true) : L.take i = notP p (l.take (j + 1)) := by
  unfold notP at h ⊢
  rw [List.take_succ_eq_append_getElem hj, List.filter_append, h, e]
  simp [hp]
theorem del_keep {l L : List HoldM} {p : HoldM → Bool} {i j : Nat} (h : L.take i = notP p (l.take j)) (hi : i < L.length) (hj : j < l.length) {x : HoldM} (e : l[j] = x) (hp : p x = false) : (L.set i x).take (i + 1) = notP p (l.take (j + 1)) := by
  unfold notP at h ⊢
  rw [List.take_succ_eq_append_getElem hj, List.filter_append, ← h, e, List.take_succ_eq_append_getElem (by simpa using hi), List.take_set_of_le (Nat.le_refl _)]
  simp [hp]
theorem del_rest {l L : List HoldM} {i j : Nat} {x : HoldM} (h : L.drop j = l.drop j) (hij : i < j) : (L.set i x).drop (j + 1) = l.drop (j + 1) := by
  rw [List.drop_set_of_lt (by omega), ← List.drop_drop, ← List.drop_drop, h]
theorem del_more {l L : List HoldM} {j : Nat} (h : L.drop j = l.drop j) : L.drop (j + 1) = l.drop (j + 1) := by
  rw [← List.drop_drop, ← List.drop_drop, h]
theorem del_at {l L : List HoldM} {j : Nat} (h : L.drop j = l.drop j) (hj : j < l.length) (hL : j < L.length) : L[j] = l[j] := by
  have h1 : (L.drop j)[0]? = (l.drop j)[0]? := by rw [h]
  rw [List.getElem?_drop, List.getElem?_drop, Nat.add_zero, List.getElem?_eq_getElem hj, List.getElem?_eq_getElem hL] at h1
  exact Option.some.inj h1
theorem del_start {l : List HoldM} {p : HoldM → Bool} {i : Nat} (h : l.findIdx? p = some i) : ∃ hi : i < l.length, l.take i = notP p (l.take (i + 1)) := by
  rw [List.findIdx?_eq_some_iff_getElem] at h
  obtain ⟨hi, h1, h2⟩ := h
  refine ⟨hi, ?_⟩
  unfold notP
  rw [List.take_succ_eq_append_getElem hi, List.filter_append]
  rw [List.filter_eq_self.2 (fun x hx => by
    obtain ⟨j, hj, rfl⟩ := List.mem_take_iff_getElem.1 hx
    have := h2 j (by omega)
    simpa using this)]
  simp [h1]
theorem del_none {l : List HoldM} {p : HoldM → Bool} (h : l.findIdx? p = none) : notP p l = l := by
  rw [List.findIdx?_eq_none_iff] at h
  exact List.filter_eq_self.2 fun x hx => by rw [h x hx]; rfl

set_option maxRecDepth 100000 in
set_option maxHeartbeats 2000000 in
theorem tdelete_any (v : Value) (n B b : Nat) (l : List HoldM) (p : HoldM → Bool) (w : World) (hown : w.ownsRow B 43 4 v n (holV l)) (hl : l.length = n) (hn : n ≤ 1099511627776) (hB : B ≤ w.heap.size) (hC : CloC w B b p) :
    Calls Try.prog 60 #[v, .func (.func 61) #[] #[.pointer (some ⟨b, 0, none⟩)]] w fun e w' => ∃ A' c', e = .returned (.slice A' (notP p l).length c') ∧ w'.ownsRow B 43 4 (.slice A' (notP p l).length c') (notP p l).length (holV (notP p l)) ∧ Below B w w' := by
  obtain ⟨A, c, rfl, hnc, hcm⟩ := ow_shape hown
  have hlies : LiesH w w.heap.size A n l := ⟨hl, ow_lies hown⟩
  have HI := Lib.hid (tindexH_any A n c b l p w hlies (by unfold maxLen; omega) (fun W k lo hi m h => hC W k lo hi m (h.mono hB)))
  clear hlies
  cases hf : l.findIdx? p with
  | none =>
    rw [hf] at HI
    have HV := Lib.hid (del_none hf)
    have HO := Lib.hid hown
    rw [← hl] at HO
    clear hown hC hf hnc hcm
    go_enter Try.func60, Try.ntmps60
    go_wp2_with fail
    refine HI.out.mono ?_
    rintro e w1 ⟨rfl, hb1⟩
    rw [show idxI none = -1 from rfl]
    go_wp2_with fail
    go_ret
    exact ⟨A, c, by rw [HV.out, hl] <;> rfl, by rw [HV.out]; exact ow_up HO.out hb1, hb1.mono hB⟩
  | some i0 =>
    rw [hf] at HI
    obtain ⟨hi0, hst⟩ := del_start hf
    have HC : Hid (CloC w B b p) := hC
    clear hC hf
    rw [hl] at hi0
    rcases id hown.2 with ⟨_, h0⟩ | ⟨g, cap, cur, hv, hgB, _⟩
    · omega
    simp only [Value.slice.injEq, true_and] at hv
    obtain ⟨rfl, rfl⟩ := hv
    have HLn := Lib.hid hl
    have HOw := Lib.hid hown
    have HS := Lib.hid hst
    unfold maxLen at hcm
    clear hown hst hl
    go_enter Try.func60, Try.ntmps60
    go_wp2_with fail
    refine HI.out.mono ?_
    rintro e w1 ⟨rfl, hb1⟩
    rw [show idxI (some i0) = (i0 : Int) from rfl]
    have hb1B := hb1.mono hB
    have hO1 := ow_up HOw.out hb1
    have hz : ((i0 : Int) == -1) = false := by rw [beq_eq_false_iff_ne]; omega
    have hs1 := Nat.le_trans hB hb1.size
    clear HI hb1 HOw
    go_wp2_with fail
    clear hz
    go_loopw [5, 6] (fun u v wr => ∃ (i j : Nat) (L : List HoldM), i < j ∧ j ≤ n ∧ u = .int .i64 i ∧ v = .int .i64 j ∧ Hid (L.length = n) ∧ Hid (L.take i = notP p (l.take j)) ∧ Hid (L.drop j = l.drop j) ∧ wr.ownsRow B 43 4 (.slice (some ⟨g, 0, none⟩) n c) n (holV L) ∧ Below B w wr ∧ B ≤ wr.heap.size) (fun _ v _ => n - (intOf v).toNat)
    case atStart => exact ⟨i0, i0 + 1, l, by omega, by omega, by go_num, by go_num, HLn, HS, rfl, hO1, hb1B, hs1⟩
    case round =>
      clear hb1B hO1 HS
      obtain ⟨i, j, L, hij, hj, rfl, rfl, HL, HT, HD, hO, hb, hBs⟩ := hrel
      by_cases hlt : j < n
      · have hjl : j < l.length := by rw [HLn.out]; exact hlt
        have hjL : j < L.length := by rw [HL.out]; exact hlt
        obtain ⟨kx, lx, hx', mx, hx⟩ : ∃ kx lx hx' mx, l[j] = (⟨kx, ⟨lx, hx'⟩, mx⟩ : HoldM) := ⟨_, _, _, _, rfl⟩
        have HX : Hid (∃ h : j < l.length, l[j] = (⟨kx, ⟨lx, hx'⟩, mx⟩ : HoldM)) := ⟨hjl, hx⟩
        obtain ⟨c0, c1, c2, c3⟩ := ow_cells4 hO hlt hjL ((del_at HD.out hjl hjL).trans hx)
        have hgl := (hO.lt g rfl).2
        clear hx hjl hjL
        have p0 := Blk.new wr #[.int .i64 kx, .int .i64 lx, .int .i64 hx', .int .i8 mx] 43
        have hbn := one_new wr (.cells #[.int .i64 kx, .int .i64 lx, .int .i64 hx', .int .i8 mx] 43)
        have hb1 := hb.trans (hbn.mono hBs)
        have hO1 := ow_up hO hbn
        have hs1 := Nat.le_trans hBs hbn.size
        have HO1 := Lib.hid (And.intro hO1 hs1)
        clear hO hbn hO1 hs1
        go_wp2_with fail
        refine (HC.out _ kx lx hx' mx hb1).mono ?_
        rintro e w2 ⟨rfl, hb2⟩
        have hO2 := ow_up HO1.out.1 hb2
        have hs2 := Nat.le_trans HO1.out.2 hb2.size
        have hbb := hb1.trans (hb2.mono HO1.out.2)
        have p2 := p0.below hb2 p0.lt
        cases hr : p ⟨kx, ⟨lx, hx'⟩, mx⟩ with
        | true =>
          have HT' := Lib.hid (del_skip HT.out HX.out.1 HX.out.2 hr)
          have HD' := Lib.hid (del_more HD.out)
          clear c0 c1 c2 c3 p0 hb1 hb2 HO1 HT HD p2 hb hBs hgl
          go_wp2_with fail
          go_roundw
          case rel => exact ⟨i, j + 1, L, by omega, by omega, rfl, by go_num, HL, HT', HD', hO2, hbb, hs2⟩
          case measure => simp [intOf]; omega
        | false =>
          have hiL : i < L.length := by rw [HL.out]; omega
          have HT' := Lib.hid (del_keep HT.out hiL HX.out.1 HX.out.2 hr)
          have HD' := Lib.hid (del_rest (x := ⟨kx, ⟨lx, hx'⟩, mx⟩) HD.out hij)
          have HL' : Hid ((L.set i ⟨kx, ⟨lx, hx'⟩, mx⟩).length = n) := by show _ = _; rw [List.length_set]; exact HL.out
          have hth := ow_there hO2 (o := i * 4) (k := 4) (by omega)
          have hO3 := Lib.hid (ow_hold (x := ⟨kx, ⟨lx, hx'⟩, mx⟩) hO2 HL.out (i := i) (by omega))
          have hb3 := Lib.hid (setCells_below [.int .i64 kx, .int .i64 lx, .int .i64 hx', .int .i8 mx] (i * 4) hbb hgB)
          have hs3 : Hid (B ≤ (w2.setCells g (i * 4) [.int .i64 kx, .int .i64 lx, .int .i64 hx', .int .i8 mx]).heap.size) := by
            show _ ≤ _
            have := (setCells_below (B := 0) [.int .i64 kx, .int .i64 lx, .int .i64 hx', .int .i8 mx] (i * 4) (Below.refl 0 w2) (Nat.zero_le g)).size
            omega
          have hin : i < n := by omega
          obtain ⟨d0, d1, d2, d3⟩ := hold_cells p2
          have hl2 := p2.lt
          clear c0 c1 c2 c3 p0 hb1 hb2 HO1 HT HD hb hBs hgl hO2 hs2 hbb hiL p2
          go_wp2_with (refine wpList_store_mid (op := ⟨none, .store 43 _ _, _, _, _, none⟩) rfl 43 _ _ (by rfl) g (i * 4) #[.int .i64 kx, .int .i64 lx, .int .i64 hx', .int .i8 mx] (by rfl) (by rfl) hth (by kernel_rfl) (by kernel_rfl) ?_)
          go_roundw
          case rel => exact ⟨i + 1, j + 1, _, by omega, by omega, by go_num, by go_num, HL', HT', HD', hO3.out, hb3.out, hs3.out⟩
          case measure => simp [intOf]; omega
      · obtain rfl : j = n := by omega
        have HV : Hid (notP p l = L.take i) := by
          show _ = _
          have h := HT.out
          rw [List.take_of_length_le (l := l) (by rw [HLn.out]; exact Nat.le_refl _)] at h
          exact h.symm
        have HVn : Hid ((notP p l).length = i) := by
          show _ = _
          rw [HV.out, List.length_take, HL.out]
          omega
        obtain ⟨vs, hcl, _⟩ := run_clear_holds wr 0 g (i * 4) (j - i) (c - i) (by omega) (ow_there hO (by omega))
        obtain ⟨ys, hO2, hys⟩ := ow_sets vs (i * 4) hO
        have hO3 := Lib.hid (ow_cut hO2 (m := i) (by omega))
        rw [hys, holV_take] at hO3
        have hb3 := Lib.hid (setCells_below vs (i * 4) hb hgB)
        clear HT HD hO hb hBs hlt hO2 hys
        go_wp2_with fail
        go_ret
        exact ⟨some ⟨g, 0, none⟩, c, by rw [HVn.out] <;> rfl, by rw [HVn.out, HV.out]; exact hO3.out, hb3.out⟩

theorem CloC.below {w w' : World} {B b : Nat} {p : HoldM → Bool} (h : CloC w B b p) (hb : Below B w w') : CloC w' B b p := fun W k lo hi m hW => h W k lo hi m (hb.trans hW)
theorem notP_len (p : HoldM → Bool) (l : List HoldM) : (notP p l).length ≤ l.length := List.length_filter_le _ _
set_option maxRecDepth 100000 in
theorem twithout_any (A : Option Addr) (n c : Nat) (l : List HoldM) (VA : Option Addr) (vn vc : Nat) (p : HoldM → Bool) (w : World) (lA : LiesH w w.heap.size A n l) (hn : n ≤ 1099511627776) (hc : A = none → c = 0) (hM : MeetsC w (.slice VA vn vc) p) :
    Calls Try.prog 49 #[.slice A n c, .slice VA vn vc] w fun e w' => ∃ A' c', e = .returned (.slice A' (notP p l).length c') ∧ w'.ownsRow w.heap.size 43 4 (.slice A' (notP p l).length c') (notP p l).length (holV (notP p l)) ∧ Below w.heap.size w w' := by
  have hl := lA.1
  obtain ⟨W0, hW0⟩ : ∃ W0, W0 = w.alloc (.cells #[.slice VA vn vc] 86) := ⟨_, rfl⟩
  have b0 : Below w.heap.size w W0 := hW0 ▸ one_new _ _
  have p0 : Blk W0 w.heap.size #[.slice VA vn vc] 86 := hW0 ▸ Blk.new w _ _
  have HC := Lib.hid (cloWithout_any w.heap.size VA vn vc p W0 p0 (hM.below b0))
  have HK := Lib.hid (tcloneH_any A n c l W0 (lA.below b0) hn hc)
  clear lA hM p0
  go_enter Try.func49, Try.ntmps49
  go_wp2_with fail
  rw [← hW0]
  refine HK.out.mono ?_
  rintro e w1 ⟨A1, c1, rfl, hO1, hb1⟩
  have HD := Lib.hid (tdelete_any _ n W0.heap.size w.heap.size l p w1 hO1 hl hn hb1.size (HC.out.below hb1))
  have b1 := below_then b0 hb1
  have hs1 := b1.size
  clear hO1 HK HC hW0
  go_wp2_with fail
  refine HD.out.mono ?_
  rintro e w2 ⟨A2, c2, rfl, hO2, hb2⟩
  have HO : Hid (w2.ownsRow w.heap.size 43 4 (.slice A2 (notP p l).length c2) (notP p l).length (holV (notP p l)) ∧ Below w.heap.size w w2) := ⟨ow_less hO2 b0.size, b1.trans (hb2.mono b0.size)⟩
  clear hO2 hb2 HD b1 hb1
  go_wp2_with fail
  go_ret
  exact ⟨A2, c2, rfl, HO.out.1, HO.out.2⟩

end Go.Proofs.Ytjknloaolennoaa
