/-
  beat: lease sectors, looking: by contract.
-/
import Derived.Test.YtneioippiionjaaDoorBeatLeaf
import Derived.Test.YtneioippiionjaaDoorSealWakes
namespace Go.Proofs.YtneioippiionjaaDoor
open Go.RowKit
set_option linter.unusedVariables false
set_option linter.unusedSimpArgs false

theorem not_empty {R : ByteArray} (h : ¬ R = ⟨#[]⟩) : R.toList.isEmpty = false := by
  have h1 := str_diff h
  rw [show (⟨#[]⟩ : ByteArray).toList = [] from by kernel_rfl] at h1
  cases hl : R.toList with
  | nil => rw [hl] at h1; simp at h1
  | cons a l => rfl

set_option maxRecDepth 100000 in
set_option maxHeartbeats 1000000 in
theorem beatBytes_any (k c : Int) (w : World) (ht : TabOk w) :
    Calls Tryd.prog 6 #[.int .i64 k, .int .i64 c] w fun e w' => e = .returned (.tuple #[.string (beatV k c), .int .i64 (beatE k c)]) ∧ Below w.heap.size w w' := by
  go_enter Tryd.func6, Tryd.ntmps6
  by_cases h1 : 1 ≤ k
  · by_cases h2 : 1 ≤ c
    · have HO := Lib.hid (beat_make h1 h2)
      have h0 : (⟨#[]⟩ : ByteArray).size ≤ 1099511627776 := by decide
      have hA : Lies (w.alloc (.cells #[.int .i64 6, .int .i64 6] 3 (0, 0))) (w.alloc (.cells #[.int .i64 6, .int .i64 6] 3 (0, 0))).heap.size (some ⟨w.heap.size, 0, none⟩) 2 (beatW.map (Value.int .i64)) := lies_new w #[.int .i64 6, .int .i64 6] 3 (0, 0)
      have hb0 : Below w.heap.size w (w.alloc (.cells #[.int .i64 6, .int .i64 6] 3 (0, 0))) := (Below.refl _ _).alloc (Nat.le_refl _) _
      have ht0 := ht.below hb0
      go_wp2_with fail
      have hA1 := hA.alloc (.cells #[.int .i64 k, .int .i64 c] 3 (0, 0))
      have ht1 := ht0.alloc (.cells #[.int .i64 k, .int .i64 c] 3 (0, 0))
      generalize hw0 : w.alloc (.cells #[.int .i64 6, .int .i64 6] 3 (0, 0)) = w0 at *
      have hB : Lies (w0.alloc (.cells #[.int .i64 k, .int .i64 c] 3 (0, 0))) (w0.alloc (.cells #[.int .i64 k, .int .i64 c] 3 (0, 0))).heap.size (some ⟨w.heap.size + 1, 0, none⟩) 2 ([k, c].map (Value.int .i64)) := by
        have h := lies_new w0 #[.int .i64 k, .int .i64 c] 3 (0, 0)
        have hz : w0.heap.size = w.heap.size + 1 := by rw [← hw0]; simp
        rw [hz] at h
        exact h
      clear hw0
      refine (Make_any 3 ⟨#[]⟩ _ _ 2 2 2 2 beatW [k, c] _ (by omega) h0 hA1 hB (by omega) (by omega) ht1).mono ?_
      rintro e w1 ⟨rfl, hb⟩
      rw [HO.out]
      have hb1 := below_then hb0 (boxed hb)
      clear hb hA hB
      go_wp2_with fail
      go_ret2
      exact ⟨rfl, hb1⟩
    · have HO := Lib.hid (beat_no (k := k) (c := c) (by omega))
      have h3 : c < 1 := by omega
      clear h2
      go_wp2_with fail
      go_ret2
      exact ⟨by rw [HO.out.1, HO.out.2]; rfl, Below.refl _ _⟩
  · have HO := Lib.hid (beat_no (k := k) (c := c) (by omega))
    have h3 : k < 1 := by omega
    clear h1
    go_wp2_with fail
    go_ret2
    exact ⟨by rw [HO.out.1, HO.out.2]; rfl, Below.refl _ _⟩

set_option maxRecDepth 100000 in
set_option maxHeartbeats 1000000 in
theorem seen_any (s : ByteArray) (w : World) (hs : s.size ≤ maxLen) (ht : TabOk w) :
    Calls Tryd.prog 18 #[.string s] w fun e w' => e = .returned (.tuple #[.int .i64 (seenK s), .int .i64 (seenN s)]) ∧ Below w.heap.size w w' := by
  have hA := lies_new w #[.int .i64 6, .int .i64 6] 3 (0, 0)
  have hb0 : Below w.heap.size w (w.alloc (.cells #[.int .i64 6, .int .i64 6] 3 (0, 0))) := (Below.refl _ _).alloc (Nat.le_refl _) _
  have ht0 := ht.below hb0
  go_enter Tryd.func18, Tryd.ntmps18
  go_wp2_with fail
  refine (Fields_any 3 s _ 2 2 beatW _ hs hA (by omega) ht0).mono ?_
  rintro e w1 ⟨hb, A1, n1, c1, rfl, HN, hl⟩
  have hb1 := below_then hb0 hb
  clear hb hA ht0 hb0
  rcases hf : fldB 3 s beatW with _ | _
  · have he : fldErr 3 s beatW = 30 := by simp [fldErr, hf]
    have HB := Lib.hid (seen_no (s := s) (by simp [seenB, hf]))
    rw [he]
    clear hf he hl HN
    generalize fldRest 3 s beatW = R
    go_wp2_with fail
    go_ret2
    exact ⟨by rw [HB.out.1, HB.out.2]; rfl, hb1⟩
  · have he : fldErr 3 s beatW = 0 := by simp [fldErr, hf]
    rw [he]
    by_cases hr : fldRest 3 s beatW = ⟨#[]⟩
    · have HB := Lib.hid (seen_yes (s := s) (by simp [seenB, hf, hr]))
      have HL : Hid ((fldVal 3 s beatW).length = 2) := (make_fields hf hr).2.2.1
      rw [hr]
      clear hf he hr
      generalize fldVal 3 s beatW = V at *
      have hn : n1 = 2 := by have := HN.out; have := HL.out; omega
      subst hn
      obtain ⟨V0, V1, rfl⟩ : ∃ a b, V = [a, b] := by
        have := HL.out
        match V, this with
        | [a, b], _ => exact ⟨a, b, rfl⟩
      obtain ⟨ad, rfl, had, hc⟩ := hl.2 (by decide)
      have hc0 := hc 0 (.int .i64 V0) rfl
      have hc1 := hc 1 (.int .i64 V1) rfl
      rw [show ad.add 0 = ad from by simp [Addr.add]] at hc0
      have hc2 : w1.cell? ⟨ad.block, ad.off + 1, none⟩ = some (.int .i64 V1) := by rw [← hc1]; simp [Addr.add]
      clear hc HN HL hl
      go_wp2_with fail
      go_region
      all_goals
        go_wp2_with fail
        go_ret2
        exact ⟨by rw [HB.out.1, HB.out.2]; rfl, hb1.drew⟩
    · have HB := Lib.hid (seen_no (s := s) (by simp [seenB, hr]))
      have hd := not_empty hr
      clear hf he hr hl HN
      generalize fldRest 3 s beatW = R at hd ⊢
      go_wp2_with fail
      go_ret2
      exact ⟨by rw [HB.out.1, HB.out.2]; rfl, hb1⟩

set_option maxRecDepth 100000 in
set_option maxHeartbeats 1000000 in
theorem wlook_any (b : Nat) (k c s n : Int) (lk : Bool) (t : ByteArray) (w : World) (hp : Blk w b #[.int .i64 k, .int .i64 c, .int .i64 s, .bool lk] 43) (hs : t.size ≤ maxLen) (ht : TabOk w) :
    Calls Tryd.prog 12 #[.pointer (some ⟨b, 0, none⟩), .string t, .int .i64 n] w fun e w' => e = .returned (.tuple #[]) ∧ Only b w w' ∧ Blk w' b (lookV k c s lk t n) 43 := by
  go_enter Tryd.func12, Tryd.ntmps12
  go_wp2_with fail
  refine (seen_any t w hs ht).mono ?_
  rintro e w1 ⟨rfl, hb⟩
  have p1 := hp.below hb hp.lt
  have ho1 := Only.of_below hb b
  have c0 : w1.cell? ⟨b, 0, none⟩ = some (.int .i64 k) := p1.cell 0 _ rfl
  have c1 : w1.cell? ⟨b, 1, none⟩ = some (.int .i64 c) := p1.cell 1 _ rfl
  have c2 : w1.cell? ⟨b, 2, none⟩ = some (.int .i64 s) := p1.cell 2 _ rfl
  have c3 : w1.cell? ⟨b, 3, none⟩ = some (.bool lk) := p1.cell 3 _ rfl
  have f0 := p1.free 0
  have f1 := p1.free 1
  have f2 := p1.free 2
  have f3 := p1.free 3
  clear hb hp
  rcases hB : lookB k c lk t with _ | _
  · have HV : Hid (lookV k c s lk t n = #[.int .i64 (seenK t), .int .i64 (seenN t), .int .i64 n, .bool true]) := look_no hB
    unfold lookB at hB
    rcases lk with _ | _
    · clear hB
      go_wp2_with fail
      go_end0
      exact ⟨rfl, (((ho1.setAt 0 _).setAt 1 _).setAt 2 _).setAt 3 _, by rw [HV.out]; exact (((p1.set 0 _).set 1 _).set 2 _).set 3 _⟩
    · rcases hk : (k == seenK t) with _ | _
      · clear hB
        go_wp2_with fail
        go_end0
        exact ⟨rfl, (((ho1.setAt 0 _).setAt 1 _).setAt 2 _).setAt 3 _, by rw [HV.out]; exact (((p1.set 0 _).set 1 _).set 2 _).set 3 _⟩
      · have hc : (c == seenN t) = false := by simpa [hk] using hB
        clear hB
        go_wp2_with fail
        go_end0
        exact ⟨rfl, (((ho1.setAt 0 _).setAt 1 _).setAt 2 _).setAt 3 _, by rw [HV.out]; exact (((p1.set 0 _).set 1 _).set 2 _).set 3 _⟩
  · have HV : Hid (lookV k c s lk t n = #[.int .i64 k, .int .i64 c, .int .i64 s, .bool lk]) := look_yes hB
    unfold lookB at hB
    rw [Bool.and_eq_true, Bool.and_eq_true] at hB
    obtain ⟨⟨rfl, hk⟩, hc⟩ := hB
    go_wp2_with fail
    refine bodyPost_ret (results_none rfl _ _ _) rfl ?_
    exact ⟨rfl, ho1, by rw [HV.out]; exact p1⟩

set_option maxRecDepth 100000 in
set_option maxHeartbeats 1000000 in
theorem Look_any (k c s n : Int) (lk : Bool) (t : ByteArray) (w : World) (hs : t.size ≤ maxLen) (ht : TabOk w) :
    Calls Tryd.prog 7 #[.agg #[.int .i64 k, .int .i64 c, .int .i64 s, .bool lk], .string t, .int .i64 n] w fun e w' => e = .returned (.agg (lookV k c s lk t n)) ∧ Below w.heap.size w w' := by
  obtain ⟨W2, hW2⟩ : ∃ W, W = (w.alloc (.cells #[.int .i64 k, .int .i64 c, .int .i64 s, .bool lk] 27)).alloc (.cells #[.int .i64 0, .int .i64 0, .int .i64 0, .bool false] 27) := ⟨_, rfl⟩
  have hsz : W2.heap.size = w.heap.size + 1 + 1 := by rw [hW2]; simp
  have q2 : Blk W2 (w.heap.size + 1) #[.int .i64 0, .int .i64 0, .int .i64 0, .bool false] 27 := by
    have h := Blk.new (w.alloc (.cells #[.int .i64 k, .int .i64 c, .int .i64 s, .bool lk] 27)) #[.int .i64 0, .int .i64 0, .int .i64 0, .bool false] 27
    rw [← hW2, show (w.alloc (.cells #[.int .i64 k, .int .i64 c, .int .i64 s, .bool lk] 27)).heap.size = w.heap.size + 1 by simp] at h
    exact h
  have b2 : Below w.heap.size w W2 := by rw [hW2]; exact ((Below.refl _ _).alloc (Nat.le_refl _) _).alloc (by simp) _
  go_enter Tryd.func7, Tryd.ntmps7
  go_wp2_with fail
  rw [← hW2]
  have p3 : Blk (W2.alloc (.cells #[.int .i64 k, .int .i64 c, .int .i64 s, .bool lk] 43)) (w.heap.size + 1 + 1) #[.int .i64 k, .int .i64 c, .int .i64 s, .bool lk] 43 := by
    have h := Blk.new W2 #[.int .i64 k, .int .i64 c, .int .i64 s, .bool lk] 43
    rw [hsz] at h
    exact h
  have b3 := b2.alloc (by omega) (.cells #[.int .i64 k, .int .i64 c, .int .i64 s, .bool lk] 43)
  have q3 := q2.alloc (.cells #[.int .i64 k, .int .i64 c, .int .i64 s, .bool lk] 43)
  refine (wlook_any (w.heap.size + 1 + 1) k c s n lk t _ p3 hs (ht.below b3)).mono ?_
  rintro e w4 ⟨rfl, ho, p4⟩
  have q4 : Blk w4 (w.heap.size + 1) #[.int .i64 0, .int .i64 0, .int .i64 0, .bool false] 27 := (ho.block _ q3.lt (by intro e; injection e with e; omega)).trans q3
  have b4 := b3.trans (ho.below (by simp [hsz]; omega) (by omega : w.heap.size ≤ w.heap.size + 1 + 1))
  have HV : Hid (lookV k c s lk t n = #[.int .i64 (seenK t), .int .i64 (seenN t), .int .i64 (sinceV k c s lk t n), .bool true]) := rfl
  rw [HV.out] at p4
  generalize seenK t = a0 at *
  generalize seenN t = a1 at *
  generalize sinceV k c s lk t n = a2 at *
  have c0 : w4.cell? ⟨w.heap.size + 1 + 1, 0, none⟩ = some (.int .i64 a0) := p4.cell 0 _ rfl
  have c1 : w4.cell? ⟨w.heap.size + 1 + 1, 1, none⟩ = some (.int .i64 a1) := p4.cell 1 _ rfl
  have c2 : w4.cell? ⟨w.heap.size + 1 + 1, 2, none⟩ = some (.int .i64 a2) := p4.cell 2 _ rfl
  have c3 : w4.cell? ⟨w.heap.size + 1 + 1, 3, none⟩ = some (.bool true) := p4.cell 3 _ rfl
  have d0 : w4.cell? ⟨w.heap.size + 1, 0, none⟩ = some (.int .i64 0) := q4.cell 0 _ rfl
  have d1 : w4.cell? ⟨w.heap.size + 1, 1, none⟩ = some (.int .i64 0) := q4.cell 1 _ rfl
  have d2 : w4.cell? ⟨w.heap.size + 1, 2, none⟩ = some (.int .i64 0) := q4.cell 2 _ rfl
  have d3 : w4.cell? ⟨w.heap.size + 1, 3, none⟩ = some (.bool false) := q4.cell 3 _ rfl
  have f0 := q4.free 0
  have f1 := q4.free 1
  have f2 := q4.free 2
  have f3 := q4.free 3
  clear ho p3 p4 q3 q2 b3 b2 ht hW2 hsz
  go_wp2_with fail
  have q8 : Blk ((((w4.setCell ⟨w.heap.size + 1, 0, none⟩ (.int .i64 a0)).setCell ⟨w.heap.size + 1, 1, none⟩ (.int .i64 a1)).setCell ⟨w.heap.size + 1, 2, none⟩ (.int .i64 a2)).setCell ⟨w.heap.size + 1, 3, none⟩ (.bool true)) (w.heap.size + 1) #[.int .i64 a0, .int .i64 a1, .int .i64 a2, .bool true] 27 := (((q4.set 0 _).set 1 _).set 2 _).set 3 _
  refine bodyPost_ret (results_cell (cs := [.int .i64 a0, .int .i64 a1, .int .i64 a2, .bool true]) Tryd.results7 (by rfl) q8.range Tryd.underlying27 rfl (by kernel_rfl)) rfl ?_
  exact ⟨by rw [HV.out], (((b4.setCell (Nat.le_succ _) _).setCell (Nat.le_succ _) _).setCell (Nat.le_succ _) _).setCell (Nat.le_succ _) _⟩

end Go.Proofs.YtneioippiionjaaDoor
