/-
  table: may the holds be, is it settled, may it be (tables that may be): by contract.
-/
import Derived.Test.YtjknloaolennoaaTabCat
import Derived.Test.YtjknloaolennoaaJoinTabActs
import Derived.Test.YtjknloaolennoaaTabGrantP
import Derived.Test.YtjknloaolennoaaTabSMay
import Derived.Test.YtjknloaolennoaaTabMayB
import Derived.Deep.RegionHeld3
namespace Go.Proofs.Ytjknloaolennoaa
open Go.RowKit
set_option linter.unusedVariables false
set_option linter.unusedSimpArgs false

theorem takes_may {B : Int} {n : Nat} {t : TabM} (h : MayT B n t) {l : List HoldM} (hl : t.ho ++ t.qu = l) {k : Nat} (hk : k < l.length) {x : HoldM} (e : l[k] = x) : takesB B t.sl (l.take k) [] x = true := by
  subst hl
  subst e
  have hm := List.getElem_mem hk
  unfold takesB
  rw [h.hol _ hm, slotO_iff.2 (h.mem _ hm)]
  have h1 : sTou ((t.ho ++ t.qu).take k) ((t.ho ++ t.qu)[k]).key ((t.ho ++ t.qu)[k]).s = false := by
    rcases hr : sTou ((t.ho ++ t.qu).take k) ((t.ho ++ t.qu)[k]).key ((t.ho ++ t.qu)[k]).s with _ | _
    · rfl
    · exfalso
      obtain ⟨y, hy, hky, ho⟩ := tou_iff.1 hr
      rw [List.mem_take_iff_getElem] at hy
      obtain ⟨i, hi, rfl⟩ := hy
      have := h.ap
      unfold Apart at this
      rw [List.pairwise_iff_getElem] at this
      exact this i k (by omega) hk (by omega) ⟨hky, ho⟩
  have h2 : countK ((t.ho ++ t.qu).take k) ((t.ho ++ t.qu)[k]).key + 1 ≤ 64 := by
    refine Nat.le_trans ?_ (h.cnt ((t.ho ++ t.qu)[k]).key)
    have h3 : countK ((t.ho ++ t.qu).take (k + 1)) ((t.ho ++ t.qu)[k]).key = countK ((t.ho ++ t.qu).take k) ((t.ho ++ t.qu)[k]).key + 1 := by
      unfold countK
      rw [List.take_succ_eq_append_getElem hk, List.filter_append, List.length_append]
      simp
    rw [← h3]
    exact ((List.take_sublist _ _).filter _).length_le
  rw [h1]
  have h3 : countK ([] : List HoldM) ((t.ho ++ t.qu)[k]).key = 0 := rfl
  rw [h3]
  simp [sTou]
  omega

set_option maxRecDepth 100000 in
set_option maxHeartbeats 4000000 in
theorem tholdsMay_any (N S B P J L E T : Int) (nM : Nat) (aS : Option Addr) (nS cS : Nat) (aH : Option Addr) (nH cH : Nat) (aQ : Option Addr) (nQ cQ : Nat) (t : TabM) (w : World) (lS : LiesS w w.heap.size aS nS t.sl) (lH : LiesH w w.heap.size aH nH t.ho) (lQ : LiesH w w.heap.size aQ nQ t.qu)
    (hcH : aH = none → cH = 0) (hcQ : aQ = none → cQ = 0) (hnS : nS ≤ 1000000) (hn : nH + nQ ≤ 1000000) (hM : MayT B nM t) :
    Calls Try.prog 40 #[.agg #[.slice aS nS cS, .slice aH nH cH, .slice aQ nQ cQ], .agg #[.int .i64 N, .int .i64 S, .int .i64 B, .int .i64 P, .int .i64 J, .int .i64 L, .int .i64 E, .int .i64 T]] w fun e w' => e = .returned (.bool true) ∧ Below w.heap.size w w' := by
  obtain ⟨W1, hW1⟩ : ∃ W, W = (w.alloc (.cells #[.slice aS nS cS, .slice aH nH cH, .slice aQ nQ cQ] 56)).alloc (.cells #[.int .i64 N, .int .i64 S, .int .i64 B, .int .i64 P, .int .i64 J, .int .i64 L, .int .i64 E, .int .i64 T] 23) := ⟨_, rfl⟩
  have b1 : Below w.heap.size w W1 := hW1 ▸ two_new _ _ _
  obtain ⟨pt1, pg1⟩ : Blk W1 w.heap.size #[.slice aS nS cS, .slice aH nH cH, .slice aQ nQ cQ] 56 ∧ Blk W1 (w.heap.size + 1) #[.int .i64 N, .int .i64 S, .int .i64 B, .int .i64 P, .int .i64 J, .int .i64 L, .int .i64 E, .int .i64 T] 23 := hW1 ▸ blk2 w _ _ _ _
  have hsz : W1.heap.size = w.heap.size + 1 + 1 := by rw [hW1]; simp
  obtain ⟨b, hbe⟩ : ∃ b, W1.heap.size = b := ⟨_, rfl⟩
  have pb1 := Blk.new W1 #[.slice aS nS cS, .slice none 0 0, .slice none 0 0] 56
  have bb1 := one_new W1 (.cells #[.slice aS nS cS, .slice none 0 0, .slice none 0 0] 56)
  obtain ⟨W2, hW2⟩ : ∃ W, W = W1.alloc (.cells #[.slice aS nS cS, .slice none 0 0, .slice none 0 0] 56) := ⟨_, rfl⟩
  have pt2 := pt1.below bb1 pt1.lt
  have pg2 := pg1.below bb1 pg1.lt
  rw [← hW2] at pb1 bb1 pt2 pg2
  rw [hbe] at pb1 hsz
  have bq := one_new W2 (.cells #[.slice aH nH cH, .slice aQ nQ cQ] 27)
  have pq := Blk.new W2 #[.slice aH nH cH, .slice aQ nQ cQ] 27
  have hsz2 : W2.heap.size = b + 1 := by rw [hW2, ← hbe]; simp
  rw [hsz2] at pq
  have b2 := below_then b1 bb1
  obtain ⟨W3, hW3⟩ : ∃ W, W = W2.alloc (.cells #[.slice aH nH cH, .slice aQ nQ cQ] 27) := ⟨_, rfl⟩
  rw [← hW3] at bq pq
  have b3 := below_then b2 bq
  have HK := Lib.hid (tconcat_any (b + 1) aH nH cH t.ho aQ nQ cQ t.qu W3 pq (lH.below b3) (lQ.below b3) hcH hcQ hn)
  have HSL : Hid (∀ W, Below w.heap.size w W → LiesS W W.heap.size aS nS t.sl) := fun W h => lS.below h
  have HMT := Lib.hid hM
  obtain ⟨l, hl⟩ : ∃ l, t.ho ++ t.qu = l := ⟨_, rfl⟩
  obtain ⟨n, hne⟩ : ∃ n, nH + nQ = n := ⟨_, rfl⟩
  have hlen : l.length = n := by rw [← hl, List.length_append, lH.1, lQ.1, hne]
  rw [hl, hne] at HK
  have HL := Lib.hid hl
  have HLN := Lib.hid hlen
  have pb3 := pb1.below bq pb1.lt
  have pg3 := pg2.below bq pg2.lt
  obtain ⟨q0, q1, q2⟩ := tab_cells pt1
  obtain ⟨u0, u1, u2⟩ := tab_cells pt2
  have hl1 := pt1.lt
  have hl2 := pt2.lt
  clear lS lH lQ hcH hcQ hM hl hlen bb1 b1 pt1 pg1 pt2 pg2 pb1 b2 bq
  go_enter Try.func40, Try.ntmps40
  go_upto_region 1 with fail
  rw [← hW1]
  clear hW1
  go_upto_region 2 with fail
  rw [← hW2]
  first | rw [hbe] | skip
  have hwb : w.heap.size + 1 < b := by omega
  have HLE := Lib.hid hne
  have HS2 := Lib.hid hsz2
  have HW3 := Lib.hid hW3
  have HSZ := Lib.hid hsz
  clear hW2 q0 q1 q2 hl1 hbe hsz hne hsz2 hW3
  go_wp2_with fail
  rw [← HW3.out]
  first | rw [HS2.out] | skip
  try rw [← HSZ.out]
  refine HK.out.mono ?_
  rintro e w4 ⟨AC, cC, rfl, hOC, hb4⟩
  have pb4 := pb3.below hb4 pb3.lt
  have pg4 := pg3.below hb4 pg3.lt
  have hb04 := below_then b3 hb4
  have hB4 := hb4.size
  have hbB := pb3.lt
  have hgB := pg3.lt
  obtain ⟨B3, hB3⟩ : ∃ B, W3.heap.size = B := ⟨_, rfl⟩
  rw [hB3] at hOC hB4 hbB hgB
  obtain ⟨i0, hi0, hz0, hz1, hz2⟩ := info_parts tinfoHold
  clear hB3 HK hb4 pb3 pg3 b3 pq u0 u1 u2 hl2 HW3 HS2 HSZ
  go_wp2_with fail
  go_loopw [22] (fun i wr => ∃ (k : Nat) (A : Option Addr) (c : Nat), k ≤ n ∧ i = .int .i64 k ∧ Blk wr b #[.slice aS nS cS, .slice A k c, .slice none 0 0] 56 ∧ Blk wr (w.heap.size + 1) #[.int .i64 N, .int .i64 S, .int .i64 B, .int .i64 P, .int .i64 J, .int .i64 L, .int .i64 E, .int .i64 T] 23 ∧ wr.ownsRow B3 43 4 (.slice A k c) k (holV (l.take k)) ∧ wr.ownsRow B3 43 4 (.slice AC n cC) n (holV l) ∧ ApV (.slice A k c) (.slice AC n cC) ∧ Below w.heap.size w wr ∧ B3 ≤ wr.heap.size) (fun i _ => n - (intOf i).toNat)
  case atStart => exact ⟨0, none, 0, Nat.zero_le _, rfl, pb4, pg4, World.ownsRow_nil _ _ _ _, hOC, ApV.nil _, hb04, hB4⟩
  case round =>
    clear pb4 pg4 hOC hb04 hB4
    obtain ⟨k, A, c, hk, rfl, pb, pg, oA, oC, ap, hb, hBs⟩ := hrel
    obtain ⟨o0, o1, o2⟩ := tab_cells pb
    obtain ⟨g0, g1, g2, g3, g4, g5, g6, g7⟩ := tgeo_cells pg
    have hlb := pb.lt
    have hlg := pg.lt
    by_cases hlt : k < n
    · have hkl : k < l.length := by rw [HLN.out]; exact hlt
      obtain ⟨ad, e1, had, c0, c1, c2, c3⟩ := hol_cells (⟨HLN.out, ow_lies oC⟩ : LiesH wr wr.heap.size AC n l) hlt hkl
      subst e1
      obtain ⟨kx, lx, hx, mx, hxx⟩ : ∃ kx lx hx' mx, l[k] = (⟨kx, ⟨lx, hx'⟩, mx⟩ : HoldM) := ⟨_, _, _, _, rfl⟩
      have HX : Hid (∃ h : k < l.length, l[k] = (⟨kx, ⟨lx, hx⟩, mx⟩ : HoldM)) := ⟨hkl, hxx⟩
      have HTK := Lib.hid (takes_may HMT.out HL.out hkl hxx)
      rw [hxx] at c0 c1 c2 c3
      have hlk : (l.take k).length = k := by rw [List.length_take]; omega
      clear hxx hkl
      have bx := new_alloc wr (.cells #[.int .i64 kx, .int .i64 lx, .int .i64 hx, .int .i8 mx] 43)
      have px := Blk.new wr #[.int .i64 kx, .int .i64 lx, .int .i64 hx, .int .i8 mx] 43
      have hbA := below_then hb bx
      have oA1 := ow_up oA bx
      have oC1 := ow_up oC bx
      have pb1 := pb.below bx hlb
      have pg1 := pg.below bx hlg
      have hB1 := Nat.le_trans hBs bx.size
      have HTA := Lib.hid (ttakes_any N S B P J L E T aS nS cS t.sl A k c (l.take k) none 0 0 [] kx lx hx mx _ (HSL.out _ hbA) (by omega) ⟨hlk, ow_lies oA1⟩ (by have := HLE.out; omega) LiesH.nothing (by omega))
      rw [HTK.out] at HTA
      clear HTK
      go_wp2_with fail
      refine HTA.out.mono ?_
      rintro e w5 ⟨rfl, hb5⟩
      clear HTA o0 o1 o2 g0 g1 g2 g3 g4 g5 g6 g7 hlb hlg c0 c1 c2 c3 had pb pg oA oC hb hBs
      have px5 := px.below hb5 px.lt
      have pb5 := pb1.below hb5 pb1.lt
      have pg5 := pg1.below hb5 pg1.lt
      have oA5 := ow_up oA1 hb5
      have oC5 := ow_up oC1 hb5
      have hbe := below_then hbA hb5
      have hB5 := Nat.le_trans hB1 hb5.size
      clear px pb1 pg1 oA1 oC1 hbA hb5 hB1 bx
      obtain ⟨x0, x1, x2, x3⟩ := hold_cells px5
      obtain ⟨o0, o1, o2⟩ := tab_cells pb5
      have hlx := px5.lt
      have hlb := pb5.lt
      have bone := new_alloc w5 (.cells #[.int .i64 kx, .int .i64 lx, .int .i64 hx, .int .i8 mx] 43)
      have lone := LiesH.just (Blk.new w5 #[.int .i64 kx, .int .i64 lx, .int .i64 hx, .int .i8 mx] 43)
      obtain ⟨pz, ez, _, hcz⟩ := lone.2.2 (by omega)
      injection ez with ez
      subst ez
      have oA6 := ow_up oA5 bone
      have oC6 := ow_up oC5 bone
      have pb6 := pb5.below bone pb5.lt
      have pg6 := pg5.below bone pg5.lt
      have hbf := below_then hbe bone
      have hB6 := Nat.le_trans hB5 bone.size
      have HOwn := Lib.hid oA6
      have hLE := HLE.out
      clear lone oA5 oC5 px5 pb5 pg5 hbe
      go_wp2_with (at_builtin; refine wpList_append_own_at _ rfl _ _ 27 rfl B3 43 i0 _ 4 32 Try.underlying27 hi0 hz0 hz1 hz2 rfl (by omega) _ _ _ rfl (HOwn.out) ⟨w5.heap.size, 0, none⟩ 1 1 (holV [⟨kx, ⟨lx, hx⟩, mx⟩]) rfl rfl hcz (holV_one _) (by unfold maxLen; omega) (by omega) hB6 ?_; intro v5 w8 hown5 hg5 _ hat; have f1 := (blk_grown pb6 hg5 (ow_blk HOwn.out pb6 (by decide))).free 1; have z1 := (blk_grown pb6 hg5 (ow_blk HOwn.out pb6 (by decide))).cell 1 _ rfl; have lz := (blk_grown pb6 hg5 (ow_blk HOwn.out pb6 (by decide))).lt; obtain ⟨A5, c5, e5, _, _⟩ := ow_shape hown5; subst e5)
      have hg : (w5.alloc (.cells #[.int .i64 kx, .int .i64 lx, .int .i64 hx, .int .i8 mx] 43)).grownBy w8 (Value.slice A k c).ownBlock := hg5
      have hat2 : (Value.slice A5 (k + 1) c5).ownBlock = (Value.slice A k c).ownBlock ∨ (Value.slice A5 (k + 1) c5).ownBlock = some (w5.alloc (.cells #[.int .i64 kx, .int .i64 lx, .int .i64 hx, .int .i8 mx] 43)).heap.size := hat
      have htk : holV (l.take (k + 1)) = holV (l.take k) ++ holV [⟨kx, ⟨lx, hx⟩, mx⟩] := by
        obtain ⟨hkl, hxx⟩ := HX.out
        rw [List.take_succ_eq_append_getElem hkl, holV_append, hxx]
      rw [← htk] at hown5
      have hneb := ow_blk HOwn.out pb6 (by decide)
      have pb8 := blk_grown pb6 hg hneb
      have pg8 := blk_grown pg6 hg (ow_blk HOwn.out pg6 (by decide))
      have oC8 : w8.ownsRow B3 43 4 (.slice (some ad) n cC) n (holV l) := oC6.kept hg (by
        cases e1 : (Value.slice (some ad) n cC).ownBlock with
        | none => exact .inl rfl
        | some g => exact .inr fun e2 => ap g e2.symm e1)
      have hb8 := hbf.grown hg hbf.size (fun j hj => by have := (HOwn.out.lt j hj).1; omega)
      have hB8 := Nat.le_trans hB6 hg.size
      have ap8 : ApV (.slice A5 (k + 1) c5) (.slice (some ad) n cC) := fun j hj1 hj2 => by
        rcases hat2 with e1 | e1
        · exact ap j (e1 ▸ hj1) hj2
        · have h1 := (oC6.lt j hj2).2
          rw [e1] at hj1
          injection hj1 with hj1
          omega
      have oA9 := ownsRow_setCell_other (a := ⟨b, 1, none⟩) hown5 (ow_blk hown5 pb8 (by decide)) (.slice A5 (k + 1) c5)
      have oC9 := ownsRow_setCell_other (a := ⟨b, 1, none⟩) oC8 (ow_blk oC8 pb8 (by decide)) (.slice A5 (k + 1) c5)
      have pb9 := pb8.set 1 (.slice A5 (k + 1) c5)
      have pg9 := pg8.other (c := b) (by omega) 1 (.slice A5 (k + 1) c5)
      have hb9 := hb8.setCell (p := ⟨b, 1, none⟩) (by show w.heap.size ≤ b; omega) (.slice A5 (k + 1) c5)
      clear hg5 hat hg hat2 hown5 oC8 pb8 pg8 hb8 oA6 oC6 pb6 pg6 hbf HOwn hcz x0 x1 x2 x3 o0 o1 o2 f1 z1 lz
      go_roundw
      case rel => exact ⟨k + 1, A5, c5, by omega, by go_num, pb9, pg9, oA9, oC9, ap8, hb9, by simpa [World.setCell] using hB8⟩
      case measure => simp [intOf]; omega
    · have hkn : k = n := by omega
      clear hlt pb pg oA oC ap o0 o1 o2 g0 g1 g2 g3 g4 g5 g6 g7 hlb hlg
      go_wp2_with fail
      go_ret
      exact ⟨rfl, hb⟩

end Go.Proofs.Ytjknloaolennoaa
