/-
  The document's tables: a key's holds and queued ones: by contract.
-/
import Derived.Test.YtjknloaolennoaaTabRefA
import Derived.Test.YtjknloaolennoaaOwnRows
import Derived.Deep.RegionHeld3
import Derived.Deep.DeepCutAuto
import Derived.Deep.CutBlock
namespace Go.Proofs.Ytjknloaolennoaa
open Go.RowKit
set_option linter.unusedVariables false
set_option linter.unusedSimpArgs false

theorem tinfoHold : (Try.prog.info? 43).map (fun i => (i.zero, i.size, i.bytes)) = some (some (.agg #[.int .i64 0, .int .i64 0, .int .i64 0, .int .i8 0]), 4, 32) := by kernel_rfl
theorem LiesH.just {w : World} {q : Nat} {k lo hi m : Int} {T : TypeId} (p : Blk w q #[.int .i64 k, .int .i64 lo, .int .i64 hi, .int .i8 m] T) : LiesH w w.heap.size (some ⟨q, 0, none⟩) 1 [⟨k, ⟨lo, hi⟩, m⟩] := by
  refine ⟨rfl, rfl, fun _ => ⟨⟨q, 0, none⟩, rfl, p.lt, fun j u hj => ?_⟩⟩
  have : (⟨q, 0, none⟩ : Addr).add j = ⟨q, j, none⟩ := by
    unfold Addr.add
    split
    · rename_i h; subst h; rfl
    · simp
  rw [this]
  exact p.cell j u (by simpa [holV] using hj)
/-- The holds of a key. -/
def ofKey (l : List HoldM) (key : Int) : List HoldM := l.filter fun h => h.key == key
theorem ofKey_yes {l : List HoldM} {key : Int} {k : Nat} (hk : k < l.length) {x : HoldM} (e : l[k] = x) (h : (x.key == key) = true) : ofKey (l.take (k + 1)) key = ofKey (l.take k) key ++ [x] := by
  unfold ofKey
  rw [List.take_succ_eq_append_getElem hk, List.filter_append, e]
  simp [h]
theorem ofKey_no {l : List HoldM} {key : Int} {k : Nat} (hk : k < l.length) {x : HoldM} (e : l[k] = x) (h : (x.key == key) = false) : ofKey (l.take (k + 1)) key = ofKey (l.take k) key := by
  unfold ofKey
  rw [List.take_succ_eq_append_getElem hk, List.filter_append, e]
  simp [h]
theorem ofKey_len (l : List HoldM) (key : Int) (k : Nat) : (ofKey (l.take k) key).length ≤ k := Nat.le_trans (List.length_filter_le _ _) (by rw [List.length_take]; omega)

set_option maxRecDepth 100000 in
set_option maxHeartbeats 2000000 in
theorem refAllOf_any (vS vH vQ : Value) (ho qu : List HoldM) (key : Int) (w : World) (hH : HolAt w vH ho) (hQ : HolAt w vQ qu) (hnH : ho.length ≤ 1099511627776) (hnQ : qu.length ≤ 1099511627776) :
    Calls Try.prog 24 #[.agg #[vS, vH, vQ], .int .i64 key] w fun e w' => ∃ v, e = .returned v ∧ HolAt w' v (ofKey (ho ++ qu) key) ∧ Below w.heap.size w w' := by
  obtain ⟨aH, cH, rfl, lH, hH1, hH2, hH3⟩ := hH
  obtain ⟨aQ, cQ, rfl, lQ, hQ1, hQ2, hQ3⟩ := hQ
  obtain ⟨nH, enH⟩ : ∃ n, ho.length = n := ⟨_, rfl⟩
  obtain ⟨nQ, enQ⟩ : ∃ n, qu.length = n := ⟨_, rfl⟩
  rw [enH] at lH hnH hH1 ⊢
  rw [enQ] at lQ hnQ hQ1 ⊢
  have HLen : Hid ((ho ++ qu).length = nH + nQ) := by show _ = _; rw [List.length_append, enH, enQ]
  obtain ⟨l, hl⟩ : ∃ l, ho ++ qu = l := ⟨_, rfl⟩
  rw [hl] at HLen ⊢
  have HE := Lib.hid hl
  clear hH1 hH2 hQ1 hQ2 enH enQ hl
  obtain ⟨W0, hW⟩ : ∃ W0, W0 = w.alloc (.cells #[vS, .slice aH nH cH, .slice aQ nQ cQ] 29) := ⟨_, rfl⟩
  have hbw : Below w.heap.size w W0 := hW ▸ one_new _ _
  have p0 : Blk W0 w.heap.size #[vS, .slice aH nH cH, .slice aQ nQ cQ] 29 := hW ▸ Blk.new w _ _
  have HH : Hid (∀ W, Below W0.heap.size W0 W → LiesH W W.heap.size aH nH ho) := fun W h => lH.below (below_then hbw h)
  have HQ : Hid (∀ W, Below W0.heap.size W0 W → LiesH W W.heap.size aQ nQ qu) := fun W h => lQ.below (below_then hbw h)
  have HS : Hid (∀ W VV, Below W0.heap.size W0 VV → Below VV.heap.size VV W → (W.cell? ⟨w.heap.size, 0, none⟩ = some (vS) ∧ W.cell? ⟨w.heap.size, 1, none⟩ = some (.slice aH nH cH) ∧ W.cell? ⟨w.heap.size, 2, none⟩ = some (.slice aQ nQ cQ)) ∧ Below VV.heap.size VV W) := fun W VV h1 h2 => ⟨tab_cells (p0.below (below_then h1 h2) p0.lt), h2⟩
  obtain ⟨i0, hi0, hz0, hz1, hz2⟩ := info_parts tinfoHold
  clear lH lQ hH3
  have HQ3 := Lib.hid hQ3
  clear hQ3
  go_enter Try.func24, Try.ntmps24
  go_upto_region 2 with fail
  rw [← hW]
  clear hW
  obtain ⟨V0, zV0⟩ : ∃ V, V = (W0).drew := ⟨_, rfl⟩
  have up0 : Below (W0).heap.size (W0) V0 := zV0 ▸ (Below.refl _ _).drew
  have hS2 : Hid (∀ W, Below V0.heap.size V0 W → (W.cell? ⟨w.heap.size, 0, none⟩ = some (vS) ∧ W.cell? ⟨w.heap.size, 1, none⟩ = some (.slice aH nH cH) ∧ W.cell? ⟨w.heap.size, 2, none⟩ = some (.slice aQ nQ cQ)) ∧ Below V0.heap.size V0 W) := fun W h => HS.out W V0 up0 h
  have bV0 := Below.refl V0.heap.size V0
  refine wp_region_held_drew (S := (fun W => (W.cell? ⟨w.heap.size, 0, none⟩ = some (vS) ∧ W.cell? ⟨w.heap.size, 1, none⟩ = some (.slice aH nH cH) ∧ W.cell? ⟨w.heap.size, 2, none⟩ = some (.slice aQ nQ cQ)) ∧ Below V0.heap.size V0 W)) (by kernel_rfl) ?_ (fun hHeld => ?_)
  focus (rw [← zV0]; exact hS2.out _ (Below.refl _ _))
  rw [← zV0] at hHeld ⊢
  clear zV0
  refine wpAnyH_take (i := 1) (oi := ⟨some 9, _, _, _, _, _⟩) (v := ?_) rfl (by kernel_rfl) (by kernel_rfl) (by kernel_rfl) (fun _ _ _ h => h) (Or.inl ⟨by rfl, ?_⟩) (by assumption) ?_
  rotate_left
  focus (intro wq hSq; (try dsimp only at hSq); go_simp; try with_reducible rfl)
  try simp only [Act.put, List.setIfInBounds_toArray, List.set_cons_zero, List.set_cons_succ]
  refine wpAnyH_take (i := 2) (oi := ⟨some 10, _, _, _, _, _⟩) (v := ?_) rfl (by kernel_rfl) (by kernel_rfl) (by kernel_rfl) (fun _ _ _ h => h) (Or.inl ⟨by rfl, ?_⟩) (by assumption) ?_
  rotate_left
  focus (intro wq hSq; (try dsimp only at hSq); go_simp; try with_reducible rfl)
  try simp only [Act.put, List.setIfInBounds_toArray, List.set_cons_zero, List.set_cons_succ]
  refine wpAnyH_take (i := 4) (oi := ⟨some 12, _, _, _, _, _⟩) (v := ?_) rfl (by kernel_rfl) (by kernel_rfl) (by kernel_rfl) (fun _ _ _ h => h) (Or.inl ⟨by rfl, ?_⟩) (by assumption) ?_
  rotate_left
  focus (intro wq hSq; (try dsimp only at hSq); go_simp; try with_reducible rfl)
  try simp only [Act.put, List.setIfInBounds_toArray, List.set_cons_zero, List.set_cons_succ]
  refine wpAnyH_take (i := 5) (oi := ⟨some 13, _, _, _, _, _⟩) (v := ?_) rfl (by kernel_rfl) (by kernel_rfl) (by kernel_rfl) (fun _ _ _ h => h) (Or.inl ⟨by rfl, ?_⟩) (by assumption) ?_
  rotate_left
  focus (intro wq hSq; (try dsimp only at hSq); go_simp; try with_reducible rfl)
  try simp only [Act.put, List.setIfInBounds_toArray, List.set_cons_zero, List.set_cons_succ]
  refine wpAnyH_ready (rs := [0]) (by kernel_rfl) (by simp) ?_
  refine AllReadyH.cons (o := ⟨some 8, _, _, _, _, _⟩) rfl (fun K hK => ?_) AllReadyH.nil
  have bV1 : Below V0.heap.size V0 (V0.alloc (.cells #[] 43)) := bV0.alloc bV0.size _
  have litV1 : (V0.alloc (.cells #[] 43)).ownsRow V0.heap.size 43 4 (.slice (some ⟨V0.heap.size, 0, none⟩) 0 0) 0 [] := World.ownsRow_lit V0 #[] 0 bV0.size (Nat.zero_le _) rfl
  go_simp
  refine hK.out _ _ ?_ (fun hHeld => ?_)
  focus (exact hS2.out _ bV1)
  clear hK K
  try simp only [Act.put, List.setIfInBounds_toArray, List.set_cons_zero, List.set_cons_succ]
  obtain ⟨V1, zV1⟩ : ∃ W, W = (V0.alloc (.cells #[] 43)) := ⟨_, rfl⟩
  rw [← zV1] at bV1 litV1 ⊢
  clear zV1 hHeld
  refine wpAnyH_ready (rs := [3]) (by kernel_rfl) (by simp) ?_
  refine AllReadyH.cons (o := ⟨some 11, _, _, _, _, _⟩) rfl (fun K hK => ?_) AllReadyH.nil
  obtain ⟨A1, c1, V2, hrun, accV2, upV2⟩ := append_first (P := Try.prog) V1 V1.heap.size V0.heap.size 27 27 43 i0 _ 4 32 Try.underlying27 hi0 hz0 hz1 hz2 rfl (by omega) V0.heap.size litV1 bV1.size aH nH cH (holV ho) ((HH.out _ (below_then up0 bV1)).2) (by unfold maxLen; omega) (by omega)
  have bV2 : Below V0.heap.size V0 V2 := below_then bV1 upV2
  refine step_append rfl (.tmp 8) (.tmp 10) 27 rfl (by simp [Act.eval, Act.put]) (by simp [Act.eval, Act.put]) hrun ?_
  refine hK.out _ _ ?_ (fun hHeld => ?_)
  focus (exact hS2.out _ bV2)
  clear hK K hrun hHeld
  try simp only [Act.put, List.setIfInBounds_toArray, List.set_cons_zero, List.set_cons_succ]
  refine wpAnyH_ready (rs := [6]) (by kernel_rfl) (by simp) ?_
  refine AllReadyH.cons (o := ⟨some 14, _, _, _, _, _⟩) rfl (fun K hK => ?_) AllReadyH.nil
  obtain ⟨A2, c2, V3, hrun, accV3, upV3⟩ := append_behind (P := Try.prog) V2 V2.heap.size V0.heap.size 27 27 43 i0 _ 4 32 Try.underlying27 hi0 hz0 hz1 hz2 rfl (by omega) (.slice A1 nH c1) nH (holV ho) accV2 bV2.size aQ nQ cQ (holV qu) ((HQ.out _ (below_then up0 bV2)).2) (holV_one _) (by unfold maxLen; omega) (by omega) HQ3.out
  have bV3 : Below V0.heap.size V0 V3 := bV2.trans upV3
  refine step_append rfl (.tmp 11) (.tmp 13) 27 rfl (by simp [Act.eval, Act.put]) (by simp [Act.eval, Act.put]) hrun ?_
  refine hK.out _ _ ?_ (fun hHeld => ?_)
  focus (exact hS2.out _ bV3)
  clear hK K hrun hHeld
  try simp only [Act.put, List.setIfInBounds_toArray, List.set_cons_zero, List.set_cons_succ]
  have hHeld := hS2.out _ bV3
  refine wpAnyH_take (i := 7) (oi := ⟨some 6, _, _, _, _, _⟩) (v := ?_) rfl (by kernel_rfl) (by kernel_rfl) (by kernel_rfl) (fun _ _ _ h => h) (Or.inl ⟨by rfl, ?_⟩) (by assumption) ?_
  rotate_left
  focus (intro wq hSq; (try dsimp only at hSq); go_simp; try with_reducible rfl)
  try simp only [Act.put, List.setIfInBounds_toArray, List.set_cons_zero, List.set_cons_succ]
  refine wpAnyH_done (by kernel_rfl) ?_ _
  have upV3 : Below w.heap.size w V3 := below_then hbw (below_then up0 bV3)
  have P3 := p0.below (below_then up0 bV3) p0.lt
  rw [← holV_append, HE.out] at accV3
  have HR : Hid (HolAt V3 (.slice A2 (nH + nQ) c2) l) := HolAt.own accV3 HLen.out
  have hn : nH + nQ ≤ 2199023255552 := by omega
  generalize nH + nQ = n at *
  obtain ⟨A3, c3, e3, l3, _, _, _⟩ := HR.out
  rw [HLen.out] at e3 l3
  injection e3 with e3 e4 e5
  subst e3 e5
  have HA : Hid (∀ W, Below V3.heap.size V3 W → LiesH W W.heap.size A2 n l) := fun W h => l3.below h
  clear accV3 HR l3 HS HH HQ hHeld hS2 bV0 bV1 bV2 bV3 up0 litV1 accV2 upV2 HQ3 e4
  go_wp2_with fail
  go_loopw [5, 7] (fun u i wr => ∃ k m : Nat, k ≤ n ∧ m ≤ k ∧ i = .int .i64 k ∧ wr.ownsRow V3.heap.size 43 4 u m (holV (ofKey (l.take k) key)) ∧ Hid ((ofKey (l.take k) key).length = m) ∧ Below V3.heap.size V3 wr) (fun _ i _ => n - (intOf i).toNat)
  case atStart => exact ⟨0, 0, Nat.zero_le _, Nat.le_refl _, rfl, World.ownsRow_nil _ _ _ _, rfl, Below.refl _ _⟩
  case round =>
    obtain ⟨k, m, hk, hmk, rfl, own, HM, hb⟩ := hrel
    by_cases hlt : k < n
    · have hkl : k < l.length := by rw [HLen.out]; exact hlt
      obtain ⟨ad, e1, had, c0, c1', c2', c3'⟩ := hol_cells (HA.out _ hb) hlt hkl
      subst e1
      obtain ⟨kx, lx, hx, mx, hxx⟩ : ∃ kx lx hx' mx, l[k] = (⟨kx, ⟨lx, hx'⟩, mx⟩ : HoldM) := ⟨_, _, _, _, rfl⟩
      have HX : Hid (∃ h : k < l.length, l[k] = (⟨kx, ⟨lx, hx⟩, mx⟩ : HoldM)) := ⟨hkl, hxx⟩
      rw [hxx] at c0 c1' c2' c3'
      clear hxx hkl
      cases he : kx == key with
      | false =>
        have HF := Lib.hid (ofKey_no HX.out.1 HX.out.2 he)
        go_wp2_with fail
        go_roundw
        case rel => exact ⟨k + 1, m, by omega, by omega, by go_num, by rw [HF.out]; exact own, by rw [HF.out]; exact HM.out, hb⟩
        case measure => simp [intOf]; omega
      | true =>
        have HF := Lib.hid (ofKey_yes HX.out.1 HX.out.2 he)
        have hsz := hb.size
        have lone := LiesH.just (Blk.new wr #[.int .i64 kx, .int .i64 lx, .int .i64 hx, .int .i8 mx] 43)
        have bone := one_new wr (.cells #[.int .i64 kx, .int .i64 lx, .int .i64 hx, .int .i8 mx] 43)
        obtain ⟨pz, ez, _, hcz⟩ := lone.2.2 (by omega)
        injection ez with ez
        subst ez
        go_wp2_with (at_builtin; refine wpList_append_own _ rfl _ _ 27 rfl V3.heap.size 43 i0 _ 4 32 Try.underlying27 hi0 hz0 hz1 hz2 rfl (by omega) _ _ _ rfl (ow_up own bone) ⟨wr.heap.size, 0, none⟩ 1 1 (holV [⟨kx, ⟨lx, hx⟩, mx⟩]) rfl rfl hcz (holV_one _) ?d1 ?d2 ?d3 ?_)
        case d1 => unfold maxLen; omega
        case d2 => omega
        case d3 => first | omega | (simp; omega)
        intro v4 w4 hown4 hgrow _
        have hown4 : w4.ownsRow V3.heap.size 43 4 v4 (m + 1) (holV (ofKey (l.take (k + 1)) key)) := by rw [HF.out, holV_append]; exact hown4
        have b4 : Below V3.heap.size V3 w4 := (hb.alloc hb.size _).grown hgrow (by simp; omega) (fun j hj => ((ow_up own bone).lt j hj).1)
        clear own hgrow c0 c1' c2' c3' hcz lone
        go_wp2_with fail
        go_roundw
        case rel => exact ⟨k + 1, m + 1, by omega, by omega, by go_num, hown4, by show _ = _; rw [HF.out, List.length_append, HM.out]; rfl, b4⟩
        case measure => simp [intOf]; omega
    · have HO : Hid (l.take k = l) := by show _ = _; rw [List.take_of_length_le (by rw [HLen.out]; omega)]
      rw [HO.out] at own HM
      have hkn : k = n := by omega
      have HR : Hid (HolAt wr _ (ofKey l key)) := HolAt.own own HM.out
      clear hlt own
      go_wp2_with fail
      go_ret
      exact ⟨_, rfl, HR.out, below_then upV3 hb⟩

end Go.Proofs.Ytjknloaolennoaa
