/-
  ballot: the document's own May and Read, by contract.
-/
import Derived.Test.YtgllamjgagbblaaDoorBallotRead
namespace Go.Proofs.YtgllamjgagbblaaDoor
open Go.RowKit
set_option linter.unusedVariables false
set_option linter.unusedSimpArgs false

theorem recMay_no {i m b : Int} {s : ByteArray} (h : i < 0 ∨ 512 < i ∨ m < 0 ∨ 1099511627776 < m ∨ b < 0 ∨ m < b ∨ 64 < s.size) : recMay i m b s = false := by
  rcases hh : recMay i m b s with _ | _
  · rfl
  · have := of_recMay hh
    omega
theorem recMay_end {i m b : Int} {s : ByteArray} (h1 : 0 ≤ i) (h2 : i ≤ 512) (h3 : 0 ≤ m) (h4 : m ≤ 1099511627776) (h5 : 0 ≤ b) (h6 : b ≤ m) (h7 : s.size ≤ 64) :
    recMay i m b s = (decide (0 < b) == !s.toList.isEmpty) := by
  rw [recMay_parts]
  have hn : numB i m b = true := by simp [numB, h1, h2, h3, h4, h5, h6]
  rw [hn, Bool.true_and]
  unfold valB
  by_cases hz : s = ⟨#[]⟩
  · subst hz
    have he : (⟨#[]⟩ : ByteArray).toList.isEmpty = true := by kernel_rfl
    rw [he]
    by_cases hb : 0 < b
    · rw [if_pos hb, decide_eq_true hb]
      rfl
    · rw [if_neg hb, decide_eq_false hb]
      rfl
  · rw [ne_empty hz]
    have hs : 1 ≤ s.size := by
      rcases Nat.eq_zero_or_pos s.size with h | h
      · exact absurd (size_zero h) hz
      · exact h
    by_cases hb : 0 < b
    · rw [if_pos hb, decide_eq_true hb, decide_eq_true hs, decide_eq_true h7]
      rfl
    · rw [if_neg hb, decide_eq_false hb, decide_eq_false (by omega)]
      rfl

set_option maxRecDepth 100000 in
set_option maxHeartbeats 1000000 in
theorem refbMay_any (i m b : Int) (s : ByteArray) (w : World) (hs : s.size ≤ maxLen) :
    Calls Tryd.prog 15 #[.agg #[.int .i64 i, .int .i64 m, .int .i64 b, .string s]] w fun e w' => e = .returned (.bool (recMay i m b s)) ∧ Below w.heap.size w w' := by
  have hb : Below w.heap.size w (w.alloc (.cells #[.int .i64 i, .int .i64 m, .int .i64 b, .string s] 24)) := (Below.refl _ _).alloc (Nat.le_refl _) _
  unfold maxLen at hs
  have HN := Lib.hid (recMay_no (i := i) (m := m) (b := b) (s := s))
  go_enter Tryd.func15, Tryd.ntmps15
  by_cases h1 : i < 0
  · have HZ := Lib.hid (HN.out (.inl h1))
    go_wp2_with fail
    go_ret
    exact ⟨by rw [HZ.out] <;> rfl, hb⟩
  by_cases h2 : 512 < i
  · have HZ := Lib.hid (HN.out (.inr (.inl h2)))
    have g1 : 0 ≤ i := by omega
    clear h1
    go_wp2_with fail
    go_ret
    exact ⟨by rw [HZ.out] <;> rfl, hb⟩
  have g1 : 0 ≤ i := by omega
  have g2 : i ≤ 512 := by omega
  clear h1 h2
  by_cases h3 : m < 0
  · have HZ := Lib.hid (HN.out (.inr (.inr (.inl h3))))
    go_wp2_with fail
    go_ret
    exact ⟨by rw [HZ.out] <;> rfl, hb⟩
  by_cases h4 : 1099511627776 < m
  · have HZ := Lib.hid (HN.out (.inr (.inr (.inr (.inl h4)))))
    have g3 : 0 ≤ m := by omega
    clear h3
    go_wp2_with fail
    go_ret
    exact ⟨by rw [HZ.out] <;> rfl, hb⟩
  have g3 : 0 ≤ m := by omega
  have g4 : m ≤ 1099511627776 := by omega
  clear h3 h4
  by_cases h5 : b < 0
  · have HZ := Lib.hid (HN.out (.inr (.inr (.inr (.inr (.inl h5))))))
    go_wp2_with fail
    go_ret
    exact ⟨by rw [HZ.out] <;> rfl, hb⟩
  have g5 : 0 ≤ b := by omega
  clear h5
  by_cases h6 : m < b
  · have HZ := Lib.hid (HN.out (.inr (.inr (.inr (.inr (.inr (.inl h6)))))))
    go_wp2_with fail
    go_ret
    exact ⟨by rw [HZ.out] <;> rfl, hb⟩
  have g6 : b ≤ m := by omega
  clear h6
  by_cases h7 : 64 < s.size
  · have HZ := Lib.hid (HN.out (.inr (.inr (.inr (.inr (.inr (.inr h7)))))))
    go_wp2_with fail
    go_ret
    exact ⟨by rw [HZ.out] <;> rfl, hb⟩
  have g7 : s.size ≤ 64 := by omega
  have HZ := Lib.hid (recMay_end g1 g2 g3 g4 g5 g6 g7)
  clear HN h7
  go_wp2_with fail
  go_ret
  exact ⟨by rw [HZ.out] <;> rfl, hb⟩

set_option maxRecDepth 100000 in
set_option maxHeartbeats 1000000 in
theorem refbRead_any (t : ByteArray) (w : World) (hs : t.size ≤ maxLen) :
    Calls Tryd.prog 8 #[.string t] w fun e w' => e = .returned (readV t) ∧ Below w.heap.size w w' := by
  have b1 : Below w.heap.size w (w.alloc (.cells #[.int .i64 0, .int .i64 0, .int .i64 0, .string ⟨#[]⟩] 24)) := (Below.refl _ _).alloc (Nat.le_refl _) _
  have q1 := Blk.new w #[.int .i64 0, .int .i64 0, .int .i64 0, .string ⟨#[]⟩] 24
  go_enter Tryd.func8, Tryd.ntmps8
  by_cases hz : t = ⟨#[]⟩
  · subst hz
    have HV : Hid (readV ⟨#[]⟩ = .tuple #[.agg #[.int .i64 0, .int .i64 0, .int .i64 0, .string ⟨#[]⟩], .int .i64 0]) := by
      show _ = _
      unfold readV
      rw [rd_empty.1, rd_empty.2.1, rd_empty.2.2.1, rd_empty.2.2.2.1, rd_empty.2.2.2.2]
    go_wp2_with fail
    refine bodyPost_ret (results_two (cs := [.int .i64 0, .int .i64 0, .int .i64 0, .string ⟨#[]⟩]) Tryd.results8 (by rfl) (by rfl) q1.range Tryd.underlying24 rfl (by kernel_rfl)) rfl ?_
    exact ⟨by rw [HV.out] <;> rfl, b1⟩
  · have hd := ne_empty hz
    have hsz : (w.alloc (.cells #[.int .i64 0, .int .i64 0, .int .i64 0, .string ⟨#[]⟩] 24)).heap.size = w.heap.size + 1 := by simp
    have HB := Lib.hid (fun h => rd_bad (s := t) h hz)
    have HY0 := Lib.hid (fun h => rd_yes (s := t) h)
    have q2 := q1.alloc (.cells #[.int .i64 2, .int .i64 6, .int .i64 6] 3 (0, 0))
    have b2 := b1.alloc b1.size (.cells #[.int .i64 2, .int .i64 6, .int .i64 6] 3 (0, 0))
    have hA := lies_new (w.alloc (.cells #[.int .i64 0, .int .i64 0, .int .i64 0, .string ⟨#[]⟩] 24)) #[.int .i64 2, .int .i64 6, .int .i64 6] 3 (0, 0)
    rw [hsz] at hA
    clear hz hsz q1 b1
    go_wp2_with fail
    refine (refFields_any 4 t _ 3 3 recW _ hs hA (by omega)).mono ?_
    rintro e w3 ⟨hb, A1, n1, c1, rfl, HN, hl⟩
    have q3 := q2.below hb q2.lt
    have b3 := below_then b2 hb
    obtain ⟨z0, z1, z2, z3⟩ := rec_cells q3
    have f0 := q3.free 0
    have f1 := q3.free 1
    have f2 := q3.free 2
    have f3 := q3.free 3
    have HBAD : Hid (rdB t = false → readV t = .tuple #[.agg #[.int .i64 0, .int .i64 0, .int .i64 0, .string ⟨#[]⟩], .int .i64 50]) := fun hr => by
      obtain ⟨g1, g2, g3, g4, g5⟩ := HB.out hr
      unfold readV
      rw [g1, g2, g3, g4, g5]
    clear hb q2 b2 hA HB
    rcases hf : fldB 4 t recW with _ | _
    · have he : fldErr 4 t recW = 30 := by simp [fldErr, hf]
      have hV := Lib.hid (HBAD.out (by simp [rdB, hf]))
      rw [he]
      clear hf he hl HN HBAD HY0
      generalize fldRest 4 t recW = R
      go_wp2_with fail
      have q8 : Blk ((((w3.setCell ⟨w.heap.size, 0, none⟩ (.int .i64 0)).setCell ⟨w.heap.size, 1, none⟩ (.int .i64 0)).setCell ⟨w.heap.size, 2, none⟩ (.int .i64 0)).setCell ⟨w.heap.size, 3, none⟩ (.string ⟨#[]⟩)) w.heap.size #[.int .i64 0, .int .i64 0, .int .i64 0, .string ⟨#[]⟩] 24 := (((q3.set 0 _).set 1 _).set 2 _).set 3 _
      refine bodyPost_ret (results_two (cs := [.int .i64 0, .int .i64 0, .int .i64 0, .string ⟨#[]⟩]) Tryd.results8 (by rfl) (by rfl) q8.range Tryd.underlying24 rfl (by kernel_rfl)) rfl ?_
      exact ⟨by rw [hV.out] <;> rfl, (((b3.setCell (Nat.le_refl _) _).setCell (Nat.le_refl _) _).setCell (Nat.le_refl _) _).setCell (Nat.le_refl _) _⟩
    · have he : fldErr 4 t recW = 0 := by simp [fldErr, hf]
      have HL : Hid ((fldVal 4 t recW).length = 3) := (make_fields_any hf).2.2.1
      have HB : Hid (rdB t = recMay ((fldVal 4 t recW).getD 0 0) ((fldVal 4 t recW).getD 1 0) ((fldVal 4 t recW).getD 2 0) (fldRest 4 t recW)) := by
        show _ = _
        unfold rdB valN
        rw [hf, Bool.true_and]
      have HY : Hid (rdB t = true → readV t = .tuple #[.agg #[.int .i64 ((fldVal 4 t recW).getD 0 0), .int .i64 ((fldVal 4 t recW).getD 1 0), .int .i64 ((fldVal 4 t recW).getD 2 0), .string (fldRest 4 t recW)], .int .i64 0]) := fun h => by
        obtain ⟨g1, g2, g3, g4, g5⟩ := HY0.out h
        unfold readV
        rw [g1, g2, g3, g4, g5]
        rfl
      have hR : (fldRest 4 t recW).size ≤ maxLen := by
        unfold fldRest
        rw [if_pos hf, ByteArray.size_extract]
        have h1 : isS t = true := by
          unfold fldB ofS at hf
          rw [Bool.and_eq_true, Bool.and_eq_true] at hf
          exact hf.1.1
        obtain ⟨h7, h5, _⟩ := isI_parts h1
        rw [bytesI_length] at h7 h5
        rw [loadS_size h7]
        unfold maxLen
        omega
      rw [he]
      clear hf he HY0
      generalize fldVal 4 t recW = V at *
      generalize fldRest 4 t recW = R at *
      have hn : n1 = 3 := by have := HN.out; have := HL.out; omega
      subst hn
      obtain ⟨V0, V1, V2, rfl⟩ : ∃ a b c, V = [a, b, c] := by
        have := HL.out
        match V, this with
        | [a, b, c], _ => exact ⟨a, b, c, rfl⟩
      have HB : Hid (rdB t = recMay V0 V1 V2 R) := HB
      have HY : Hid (rdB t = true → readV t = .tuple #[.agg #[.int .i64 V0, .int .i64 V1, .int .i64 V2, .string R], .int .i64 0]) := HY
      obtain ⟨ad, rfl, had, hc⟩ := hl.2 (by decide)
      have hc0 := hc 0 (.int .i64 V0) rfl
      have hc1 := hc 1 (.int .i64 V1) rfl
      have hc2 := hc 2 (.int .i64 V2) rfl
      rw [show ad.add 0 = ad from by simp [Addr.add]] at hc0
      have hd1 : w3.cell? ⟨ad.block, ad.off + 1, none⟩ = some (.int .i64 V1) := by rw [← hc1]; simp [Addr.add]
      have hd2 : w3.cell? ⟨ad.block, ad.off + 2, none⟩ = some (.int .i64 V2) := by rw [← hc2]; simp [Addr.add]
      have hlt := q3.lt
      clear hc HN HL hl hc1 hc2
      go_wp2_with fail
      go_region
      have b5 : Below w.heap.size w (w3.alloc (.cells #[.int .i64 V0, .int .i64 V1, .int .i64 V2, .string R] 24)).drew := (b3.alloc b3.size _).drew
      have p5 := (Blk.new w3 #[.int .i64 V0, .int .i64 V1, .int .i64 V2, .string R] 24).drew
      have q5 := (q3.alloc (.cells #[.int .i64 V0, .int .i64 V1, .int .i64 V2, .string R] 24)).drew
      generalize (w3.alloc (.cells #[.int .i64 V0, .int .i64 V1, .int .i64 V2, .string R] 24)).drew = w5 at *
      obtain ⟨qx, hqx⟩ : ∃ q, Hid (w3.heap.size = q) := ⟨_, rfl⟩
      rw [hqx.out] at p5 hlt
      rw [hqx.out]
      obtain ⟨y0, y1, y2, y3⟩ := rec_cells p5
      clear hc0 hd1 hd2 z0 z1 z2 z3 f0 f1 f2 f3 q3 b3 had
      go_wp2_with fail
      refine (refbMay_any V0 V1 V2 R w5 hR).mono ?_
      rintro e w6 ⟨rfl, hb6⟩
      have q6 := q5.below hb6 q5.lt
      have p6 := p5.below hb6 p5.lt
      have b6 := below_then b5 hb6
      rw [← HB.out]
      obtain ⟨p, hp⟩ : ∃ p, Hid (rdB t = p) := ⟨_, rfl⟩
      rw [hp.out]
      clear q5 p5 b5 hb6 y0 y1 y2 y3 HB hqx
      obtain ⟨y0, y1, y2, y3⟩ := rec_cells p6
      obtain ⟨z0, z1, z2, z3⟩ := rec_cells q6
      have f0 := q6.free 0
      have f1 := q6.free 1
      have f2 := q6.free 2
      have f3 := q6.free 3
      cases p
      · have hV := Lib.hid (HBAD.out hp.out)
        clear HY HBAD hp p6
        go_wp2_with fail
        have q8 : Blk ((((w6.setCell ⟨w.heap.size, 0, none⟩ (.int .i64 0)).setCell ⟨w.heap.size, 1, none⟩ (.int .i64 0)).setCell ⟨w.heap.size, 2, none⟩ (.int .i64 0)).setCell ⟨w.heap.size, 3, none⟩ (.string ⟨#[]⟩)) w.heap.size #[.int .i64 0, .int .i64 0, .int .i64 0, .string ⟨#[]⟩] 24 := (((q6.set 0 _).set 1 _).set 2 _).set 3 _
        refine bodyPost_ret (results_two (cs := [.int .i64 0, .int .i64 0, .int .i64 0, .string ⟨#[]⟩]) Tryd.results8 (by rfl) (by rfl) q8.range Tryd.underlying24 rfl (by kernel_rfl)) rfl ?_
        exact ⟨by rw [hV.out] <;> rfl, (((b6.setCell (Nat.le_refl _) _).setCell (Nat.le_refl _) _).setCell (Nat.le_refl _) _).setCell (Nat.le_refl _) _⟩
      · have hV := Lib.hid (HY.out hp.out)
        clear HY HBAD hp p6
        go_wp2_with fail
        have q8 : Blk ((((w6.setCell ⟨w.heap.size, 0, none⟩ (.int .i64 V0)).setCell ⟨w.heap.size, 1, none⟩ (.int .i64 V1)).setCell ⟨w.heap.size, 2, none⟩ (.int .i64 V2)).setCell ⟨w.heap.size, 3, none⟩ (.string R)) w.heap.size #[.int .i64 V0, .int .i64 V1, .int .i64 V2, .string R] 24 := (((q6.set 0 _).set 1 _).set 2 _).set 3 _
        refine bodyPost_ret (results_two (cs := [.int .i64 V0, .int .i64 V1, .int .i64 V2, .string R]) Tryd.results8 (by rfl) (by rfl) q8.range Tryd.underlying24 rfl (by kernel_rfl)) rfl ?_
        exact ⟨by rw [hV.out] <;> rfl, (((b6.setCell (Nat.le_refl _) _).setCell (Nat.le_refl _) _).setCell (Nat.le_refl _) _).setCell (Nat.le_refl _) _⟩

end Go.Proofs.YtgllamjgagbblaaDoor
