/-
  The document's Lasts of a row of commands: by contract.
-/
import Derived.Test.YtjdacpnfgpdjhaaDoorJoinSealTurn
import Derived.Test.YtjdacpnfgpdjhaaDoorCmdRow
import Derived.Test.YtjdacpnfgpdjhaaDoorCmdRefOf
import Derived.Test.YtjdacpnfgpdjhaaDoorOwnRows
import Derived.Test.YtjdacpnfgpdjhaaDoorHeldTo
import Derived.BigQuiet
import Derived.Deep.DeepCutAuto
import Derived.Deep.CutBlock
namespace Go.Proofs.YtjdacpnfgpdjhaaDoor
open Go.RowKit
set_option linter.unusedVariables false
set_option linter.unusedSimpArgs false

theorem dinfoInt : (Tryd.prog.info? 3).map (fun i => (i.zero, i.size, i.bytes)) = some (some (.int .i64 0), 1, 8) := by kernel_rfl
theorem dnot_yet {b : Bool} {p : Prop} (e : b = true) (h : b = false) : p := by rw [e] at h; cases h
def intsA (l : List Int) : Array Value := (l.map (Value.int .i64)).toArray
theorem intsA_at {l : List Int} {q : Nat} (h : q < l.length) : (intsA l)[q]? = some (.int .i64 (l.getD q 0)) := by
  unfold intsA
  rw [List.getD_eq_getElem?_getD, List.getElem?_eq_getElem h]
  simp [h]
theorem intsA_set (l : List Int) (q : Nat) (x : Int) : (intsA l).setIfInBounds q (.int .i64 x) = intsA (l.set q x) := by
  unfold intsA
  simp [List.map_set]
/-- A row that is full is a block that is known whole. -/
theorem blk_of_full {w : World} {B n g : Nat} {e : TypeId} {xs : List Value} (h : w.ownsRow B e 1 (.slice (some ⟨g, 0, none⟩) n n) n xs) : Blk w g xs.toArray e ∧ B ≤ g := by
  rcases h.2 with ⟨h0, _⟩ | ⟨g', cap, cur, hv, hB, hh, h1, h2, h3, h4⟩
  · cases h0
  · injection hv with hg _ hc
    injection hg with hg
    injection hg with hg
    subst hg hc
    refine ⟨?_, hB⟩
    have : cur = xs.toArray := by
      rw [List.take_of_length_le (by rw [Array.length_toList, h3]; exact Nat.le_refl _)] at h4
      rw [← h4]
    rw [← this]
    exact hh
theorem full_of_blk {w : World} {B n g : Nat} {e : TypeId} {xs : List Value} (h : Blk w g xs.toArray e) (hB : B ≤ g) (hn : xs.length = n) (hm : n ≤ maxLen) : w.ownsRow B e 1 (.slice (some ⟨g, 0, none⟩) n n) n xs := by
  refine ⟨by omega, .inr ⟨g, n, xs.toArray, rfl, hB, h, Nat.le_refl _, hm, by simp [hn], by rw [Nat.mul_one, ← hn]; simp⟩⟩

set_option maxRecDepth 100000 in
set_option maxHeartbeats 2000000 in
theorem refDLasts_any (A : Option Addr) (n c : Nat) (l : List CmdM) (w : World) (hA : LiesC w w.heap.size A n l) (hn : n ≤ maxLen) :
    Calls Tryd.prog 17 #[.slice A n c] w fun e w' => ∃ v, e = .returned v ∧ w'.ownsRow w.heap.size 3 1 v 16 ((lastsV l).map (Value.int .i64)) ∧ Below w.heap.size w w' := by
  have HL : Hid (l.length = n) := hA.1
  unfold maxLen at hn
  have HA : Hid (∀ W, Below w.heap.size w W → LiesC W W.heap.size A n l) := fun W h => hA.below h
  obtain ⟨i0, hi0, hz0, hz1, hz2⟩ := info_parts dinfoInt
  clear hA
  go_enter Tryd.func17, Tryd.ntmps17
  go_wp2_with (at_make; refine wpList_make_full _ rfl _ _ 39 rfl w.heap.size 3 i0 (.int .i64 0) 1 Tryd.underlying39 hi0 hz0 hz1 .i64 .i64 _ _ 16 rfl rfl rfl rfl (by rw [hz2]; omega) (by unfold maxLen; omega) (Nat.le_refl _) ?_; intro w1 hown1 hg1)
  obtain ⟨pb, hgB⟩ := blk_of_full hown1
  have b1 : Below w.heap.size w w1 := (Below.refl _ _).grown hg1 (Nat.le_refl _) (by intro k hk; cases hk)
  have e0 : ((madeCells (Value.int .i64 0).cells (16 * 1)).toList.toArray : Array Value) = intsA (lastsV (l.take 0)) := by kernel_rfl
  rw [e0] at pb
  obtain ⟨g, hg⟩ : ∃ g, w.heap.size = g := ⟨_, rfl⟩
  rw [hg] at pb
  clear hown1 hg1 e0 hgB
  go_wp2_with fail
  rw [hg]
  have hgw : w.heap.size ≤ g := by omega
  clear hg
  go_loopw [4] (fun v wr => ∃ i : Nat, i ≤ n ∧ v = .int .i64 i ∧ Blk wr g (intsA (lastsV (l.take i))) 3 ∧ Below w.heap.size w wr) (fun v _ => n - (intOf v).toNat)
  case atStart => exact ⟨0, Nat.zero_le _, rfl, pb, b1⟩
  case round =>
    clear pb b1
    obtain ⟨i, hi, rfl, pb, hb⟩ := hrel
    have hsz := hb.size
    have hlg := pb.lt
    by_cases hlt : i < n
    · have hil : i < l.length := by rw [HL.out]; exact hlt
      obtain ⟨⟨ka, kb, kc, kd, ke, kf, kg, kh⟩, hx⟩ : ∃ x, l[i] = x := ⟨_, rfl⟩
      obtain ⟨ad, e1, had, c0, c1, c2, c3, c4, c5, c6, c7⟩ := cmd_at (HA.out _ hb) hlt hil hx
      subst e1
      have HX : Hid (∃ h : i < l.length, l[i] = ⟨ka, kb, kc, kd, ke, kf, kg, kh⟩) := ⟨hil, hx⟩
      clear hx hil
      have HT : Hid (lastsV (l.take (i + 1)) = lastOne (lastsV (l.take i)) kb) := by
        obtain ⟨h1, h2⟩ := HX.out
        show _ = _
        rw [lasts_take h1, h2]
      go_wp2_with fail
      refine (refCOf_any kb _).mono ?_
      rintro e w2 ⟨rfl, rfl⟩
      cases hk : cKey kb with
      | false =>
        have HV : Hid (lastsV (l.take (i + 1)) = lastsV (l.take i)) := by
          show _ = _
          rw [HT.out]
          unfold lastOne
          rw [if_neg (by rw [hk]; simp)]
        rw [cOf_no hk]
        clear hk c0 c1 c2 c3 c4 c5 c6 c7
        go_wp2_with fail
        go_roundw
        case rel => exact ⟨i + 1, by omega, by go_num, by rw [HV.out]; exact pb, hb⟩
        case measure => simp [intOf]; omega
      | true =>
        obtain ⟨q, hq, hqe, hqm⟩ := cOf_yes hk
        obtain ⟨o, ho⟩ : ∃ o, (lastsV (l.take i)).getD q 0 = o := ⟨_, rfl⟩
        have HV : Hid (lastsV (l.take (i + 1)) = (lastsV (l.take i)).set q (max o kb)) := by
          show _ = _
          rw [HT.out]
          unfold lastOne
          rw [if_pos hk, hqm, ho]
        rw [hqe]
        have cq : wr.cell? ⟨g, q, none⟩ = some (.int .i64 o) := by
          rw [← ho]
          exact pb.cell q _ (intsA_at (by rw [lasts_length]; exact hq))
        have fq := pb.free q
        have hHeld : wr.drew.cell? ⟨g, q, none⟩ = some (.int .i64 o) ∧ wr.drew.cell? ⟨(ad.add (i * 8)).block, (ad.add (i * 8)).off + 1, none⟩ = some (.int .i64 kb) := ⟨cq, c1⟩
        have HP : Hid (∀ x : Int, Blk (wr.drew.setCell ⟨g, q, none⟩ (.int .i64 x)) g (intsA ((lastsV (l.take i)).set q x)) 3 ∧ Below w.heap.size w (wr.drew.setCell ⟨g, q, none⟩ (.int .i64 x))) := fun x => by
          rw [← intsA_set]
          exact ⟨Blk.set (w := wr.drew) pb q _, (hb.drew).setCell hgw _⟩
        have hq0 : (0 : Int) ≤ (q : Int) := by omega
        have hq1 : (q : Int) < 16 := by omega
        have hi1 : (i : Int) < (n : Int) := by omega
        clear hk ho hqe hqm pb hb cq c0 c1 c2 c3 c4 c5 c6 c7
        go_upto_region 7 with fail
        refine wp_region_to (S := (fun W => W.cell? ⟨g, q, none⟩ = some (.int .i64 o) ∧ W.cell? ⟨(ad.add (i * 8)).block, (ad.add (i * 8)).off + 1, none⟩ = some (.int .i64 kb))) 13 (by kernel_rfl) hHeld (fun _ => ?_)
        refine wpAnyM_take (i := 0) (oi := ⟨some 21, _, _, _, _, _⟩) (v := ?_) rfl (by kernel_rfl) (by kernel_rfl) (by kernel_rfl) (fun _ _ _ h => h) (by decide) (by kernel_rfl) (by kernel_rfl) (Or.inl ⟨by rfl, ?_⟩) (fun _ => hHeld) ?_
        rotate_left
        focus (intro wq hSq; (try dsimp only at hSq); go_simp; (try rw [if_pos hq1]); (try rw [if_pos hi1]); try with_reducible rfl)
        try simp only [Act.put, List.setIfInBounds_toArray, List.set_cons_zero, List.set_cons_succ]
        refine wpAnyM_take (i := 1) (oi := ⟨some 22, _, _, _, _, _⟩) (v := ?_) rfl (by kernel_rfl) (by kernel_rfl) (by kernel_rfl) (fun _ _ _ h => h) (by decide) (by kernel_rfl) (by kernel_rfl) (Or.inl ⟨by rfl, ?_⟩) (fun _ => hHeld) ?_
        rotate_left
        focus (intro wq hSq; (try dsimp only at hSq); go_simp; (try rw [if_pos hq1]); (try rw [if_pos hi1]); try with_reducible rfl)
        try simp only [Act.put, List.setIfInBounds_toArray, List.set_cons_zero, List.set_cons_succ]
        refine wpAnyM_take (i := 2) (oi := ⟨some 23, _, _, _, _, _⟩) (v := ?_) rfl (by kernel_rfl) (by kernel_rfl) (by kernel_rfl) (fun _ _ _ h => h) (by decide) (by kernel_rfl) (by kernel_rfl) (Or.inl ⟨by rfl, ?_⟩) (fun _ => hHeld) ?_
        rotate_left
        focus (intro wq hSq; (try dsimp only at hSq); go_simp; (try rw [if_pos hq1]); (try rw [if_pos hi1]); try with_reducible rfl)
        try simp only [Act.put, List.setIfInBounds_toArray, List.set_cons_zero, List.set_cons_succ]
        refine wpAnyM_take (i := 3) (oi := ⟨some 24, _, _, _, _, _⟩) (v := ?_) rfl (by kernel_rfl) (by kernel_rfl) (by kernel_rfl) (fun _ _ _ h => h) (by decide) (by kernel_rfl) (by kernel_rfl) (Or.inl ⟨by rfl, ?_⟩) (fun _ => hHeld) ?_
        rotate_left
        focus (intro wq hSq; (try dsimp only at hSq); go_simp; (try rw [if_pos hq1]); (try rw [if_pos hi1]); try with_reducible rfl)
        try simp only [Act.put, List.setIfInBounds_toArray, List.set_cons_zero, List.set_cons_succ]
        refine wpAnyM_take (i := 4) (oi := ⟨some 25, _, _, _, _, _⟩) (v := ?_) rfl (by kernel_rfl) (by kernel_rfl) (by kernel_rfl) (fun _ _ _ h => h) (by decide) (by kernel_rfl) (by kernel_rfl) (Or.inl ⟨by rfl, ?_⟩) (fun _ => hHeld) ?_
        rotate_left
        focus (intro wq hSq; (try dsimp only at hSq); go_simp; (try rw [if_pos hq1]); (try rw [if_pos hi1]); try with_reducible rfl)
        try simp only [Act.put, List.setIfInBounds_toArray, List.set_cons_zero, List.set_cons_succ]
        refine wpAnyM_take (i := 5) (oi := ⟨some 26, _, _, _, _, _⟩) (v := ?_) rfl (by kernel_rfl) (by kernel_rfl) (by kernel_rfl) (fun _ _ _ h => h) (by decide) (by kernel_rfl) (by kernel_rfl) (Or.inl ⟨by rfl, ?_⟩) (fun _ => hHeld) ?_
        rotate_left
        focus (intro wq hSq; (try dsimp only at hSq); go_simp; (try rw [if_pos hq1]); (try rw [if_pos hi1]); try with_reducible rfl)
        try simp only [Act.put, List.setIfInBounds_toArray, List.set_cons_zero, List.set_cons_succ]
        refine wpAnyM_take (i := 6) (oi := ⟨some 27, _, _, _, _, _⟩) (v := ?_) rfl (by kernel_rfl) (by kernel_rfl) (by kernel_rfl) (fun _ _ _ h => h) (by decide) (by kernel_rfl) (by kernel_rfl) (Or.inl ⟨by rfl, ?_⟩) (fun _ => hHeld) ?_
        rotate_left
        focus (intro wq hSq; (try dsimp only at hSq); go_simp; (try rw [if_pos hq1]); (try rw [if_pos hi1]); try with_reducible rfl)
        try simp only [Act.put, List.setIfInBounds_toArray, List.set_cons_zero, List.set_cons_succ]
        refine wpAnyM_take (i := 7) (oi := ⟨some 28, _, _, _, _, _⟩) (v := ?_) rfl (by kernel_rfl) (by kernel_rfl) (by kernel_rfl) (fun _ _ _ h => h) (by decide) (by kernel_rfl) (by kernel_rfl) (Or.inl ⟨by rfl, ?_⟩) (fun _ => hHeld) ?_
        rotate_left
        focus (intro wq hSq; (try dsimp only at hSq); go_simp; (try rw [if_pos hq1]); (try rw [if_pos hi1]); try with_reducible rfl)
        try simp only [Act.put, List.setIfInBounds_toArray, List.set_cons_zero, List.set_cons_succ]
        refine wpAnyM_take (i := 8) (oi := ⟨some 29, _, _, _, _, _⟩) (v := ?_) rfl (by kernel_rfl) (by kernel_rfl) (by kernel_rfl) (fun _ _ _ h => h) (by decide) (by kernel_rfl) (by kernel_rfl) (Or.inl ⟨by rfl, ?_⟩) (fun _ => hHeld) ?_
        rotate_left
        focus (intro wq hSq; (try dsimp only at hSq); go_simp; (try rw [if_pos hq1]); (try rw [if_pos hi1]); try with_reducible rfl)
        try simp only [Act.put, List.setIfInBounds_toArray, List.set_cons_zero, List.set_cons_succ]
        refine wpAnyM_take (i := 9) (oi := ⟨some 30, _, _, _, _, _⟩) (v := ?_) rfl (by kernel_rfl) (by kernel_rfl) (by kernel_rfl) (fun _ _ _ h => h) (by decide) (by kernel_rfl) (by kernel_rfl) (Or.inl ⟨by rfl, ?_⟩) (fun _ => hHeld) ?_
        rotate_left
        focus (intro wq hSq; (try dsimp only at hSq); go_simp; (try rw [if_pos hq1]); (try rw [if_pos hi1]); try with_reducible rfl)
        try simp only [Act.put, List.setIfInBounds_toArray, List.set_cons_zero, List.set_cons_succ]
        refine wpAnyM_take (i := 10) (oi := ⟨some 31, _, _, _, _, _⟩) (v := ?_) rfl (by kernel_rfl) (by kernel_rfl) (by kernel_rfl) (fun _ _ _ h => h) (by decide) (by kernel_rfl) (by kernel_rfl) (Or.inl ⟨by rfl, ?_⟩) (fun _ => hHeld) ?_
        rotate_left
        focus (intro wq hSq; (try dsimp only at hSq); go_simp; (try rw [if_pos hq1]); (try rw [if_pos hi1]); try with_reducible rfl)
        try simp only [Act.put, List.setIfInBounds_toArray, List.set_cons_zero, List.set_cons_succ]
        refine wpAnyM_take (i := 11) (oi := ⟨some 32, _, _, _, _, _⟩) (v := ?_) rfl (by kernel_rfl) (by kernel_rfl) (by kernel_rfl) (fun _ _ _ h => h) (by decide) (by kernel_rfl) (by kernel_rfl) (Or.inl ⟨by rfl, ?_⟩) (fun _ => hHeld) ?_
        rotate_left
        focus (intro wq hSq; (try dsimp only at hSq); go_simp; (try rw [if_pos hq1]); (try rw [if_pos hi1]); try with_reducible rfl)
        try simp only [Act.put, List.setIfInBounds_toArray, List.set_cons_zero, List.set_cons_succ]
        refine wpAnyM_take (i := 12) (oi := ⟨some 33, _, _, _, _, _⟩) (v := ?_) rfl (by kernel_rfl) (by kernel_rfl) (by kernel_rfl) (fun _ _ _ h => h) (by decide) (by kernel_rfl) (by kernel_rfl) (Or.inl ⟨by rfl, ?_⟩) (fun _ => hHeld) ?_
        rotate_left
        focus (intro wq hSq; (try dsimp only at hSq); go_simp; (try rw [if_pos hq1]); (try rw [if_pos hi1]); try with_reducible rfl)
        try simp only [Act.put, List.setIfInBounds_toArray, List.set_cons_zero, List.set_cons_succ]
        refine wpAnyM_ready (rs := [13]) (by kernel_rfl) (by simp) ?_
        refine AllReadyM.cons (o := ⟨none, _, _, _, _, _⟩) rfl (fun K hK => ?_) AllReadyM.nil
        go_simp
        refine hK.out _ _ (fun h => dnot_yet (by kernel_rfl) h) (fun _ => ?_)
        clear hK K
        try simp only [Act.put, List.setIfInBounds_toArray, List.set_cons_zero, List.set_cons_succ]
        refine wpAnyM_done (by kernel_rfl) ?_ _
        have HM : Hid ((if o < kb then kb else o) = max o kb) := by
          show _ = _
          split <;> omega
        obtain ⟨mx, hmx⟩ : ∃ m, (if o < kb then kb else o) = m := ⟨_, rfl⟩
        rw [hmx] at HM ⊢
        have hp1 := (HP.out mx).1
        have hp2 := (HP.out mx).2
        change Exit.inBlock 1 _ _ _ (wr.drew.setCell ⟨g, q, none⟩ (.int .i64 mx))
        obtain ⟨W9, hW9⟩ : ∃ W, W = wr.drew.setCell ⟨g, q, none⟩ (.int .i64 mx) := ⟨_, rfl⟩
        rw [← hW9] at hp1 hp2 ⊢
        clear hmx hW9 HP hHeld fq hlg had
        go_wp2_with fail
        go_roundw
        case rel => exact ⟨i + 1, by omega, by go_num, by rw [HV.out, ← HM.out]; exact hp1, hp2⟩
        case measure => simp [intOf]; omega
    · have HV : Hid (lastsV (l.take i) = lastsV l) := by show _ = _; rw [List.take_of_length_le (by rw [HL.out]; omega)]
      have hin : i = n := by omega
      have HO : Hid (wr.ownsRow w.heap.size 3 1 (.slice (some ⟨g, 0, none⟩) 16 16) 16 ((lastsV l).map (Value.int .i64))) := full_of_blk (by rw [← HV.out]; exact pb) hgw (by rw [List.length_map, lasts_length]) (by unfold maxLen; omega)
      clear hlt pb
      go_wp2_with fail
      go_ret
      exact ⟨_, rfl, HO.out, hb⟩

end Go.Proofs.YtjdacpnfgpdjhaaDoor
