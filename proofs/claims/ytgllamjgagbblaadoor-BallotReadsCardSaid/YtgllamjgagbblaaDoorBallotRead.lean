/-
  ballot: a record's sector, and reading one: by contract.
-/
import Derived.Test.YtgllamjgagbblaaDoorBallotLeaf
namespace Go.Proofs.YtgllamjgagbblaaDoor
open Go.RowKit
set_option linter.unusedVariables false
set_option linter.unusedSimpArgs false

set_option maxRecDepth 100000 in
set_option maxHeartbeats 1000000 in
theorem bsector_any (i m b : Int) (s : ByteArray) (w : World) (hs : s.size ≤ maxLen) (ht : TabOk w) :
    Calls Tryd.prog 16 #[.agg #[.int .i64 i, .int .i64 m, .int .i64 b, .string s]] w fun e w' => e = .returned (.tuple #[.string (recV i m b s), .int .i64 (recE i m b s)]) ∧ Below w.heap.size w w' := by
  have hb : Below w.heap.size w (w.alloc (.cells #[.int .i64 i, .int .i64 m, .int .i64 b, .string s] 42)) := (Below.refl _ _).alloc (Nat.le_refl _) _
  have p0 := Blk.new w #[.int .i64 i, .int .i64 m, .int .i64 b, .string s] 42
  go_enter Tryd.func16, Tryd.ntmps16
  go_wp2_with fail
  refine (rmay_any i m b s _ hs).mono ?_
  rintro e w1 ⟨rfl, hb1⟩
  have p1 := p0.below hb1 p0.lt
  have b1 := below_then hb hb1
  obtain ⟨p, hp⟩ : ∃ p, recMay i m b s = p := ⟨_, rfl⟩
  rw [hp]
  clear hb hb1 p0
  cases p
  · have HV := Lib.hid (rec_no hp)
    clear hp
    go_wp2_with fail
    go_ret2
    exact ⟨by rw [HV.out.1, HV.out.2] <;> rfl, b1⟩
  · have HM := Lib.hid (rec_make hp)
    have hsz : s.size ≤ 1099511627776 := by have := of_recMay hp; omega
    obtain ⟨c0, c1, c2, c3⟩ := rec_cells p1
    have hlt := p1.lt
    have hA : Lies (w1.alloc (.cells #[.int .i64 2, .int .i64 6, .int .i64 6] 3 (0, 0))) (w1.alloc (.cells #[.int .i64 2, .int .i64 6, .int .i64 6] 3 (0, 0))).heap.size (some ⟨w1.heap.size, 0, none⟩) 3 (recW.map (Value.int .i64)) := lies_new w1 #[.int .i64 2, .int .i64 6, .int .i64 6] 3 (0, 0)
    have hb0 : Below w.heap.size w (w1.alloc (.cells #[.int .i64 2, .int .i64 6, .int .i64 6] 3 (0, 0))) := b1.alloc b1.size _
    have ht0 := ht.below hb0
    clear hp p1
    go_wp2_with fail
    have hA1 := hA.alloc (.cells #[.int .i64 i, .int .i64 m, .int .i64 b] 3 (0, 0))
    have ht1 := ht0.alloc (.cells #[.int .i64 i, .int .i64 m, .int .i64 b] 3 (0, 0))
    generalize hw0 : w1.alloc (.cells #[.int .i64 2, .int .i64 6, .int .i64 6] 3 (0, 0)) = w0 at *
    have hB : Lies (w0.alloc (.cells #[.int .i64 i, .int .i64 m, .int .i64 b] 3 (0, 0))) (w0.alloc (.cells #[.int .i64 i, .int .i64 m, .int .i64 b] 3 (0, 0))).heap.size (some ⟨w1.heap.size + 1, 0, none⟩) 3 ([i, m, b].map (Value.int .i64)) := by
      have h := lies_new w0 #[.int .i64 i, .int .i64 m, .int .i64 b] 3 (0, 0)
      have hz : w0.heap.size = w1.heap.size + 1 := by rw [← hw0]; simp
      rw [hz] at h
      exact h
    have hb3 : Below w.heap.size w (w0.alloc (.cells #[.int .i64 i, .int .i64 m, .int .i64 b] 3 (0, 0))) := hb0.alloc hb0.size _
    clear hw0
    refine (Make_any 4 s _ _ 3 3 3 3 recW [i, m, b] _ (by omega) hsz hA1 hB (by omega) (by omega) ht1).mono ?_
    rintro e w2 ⟨rfl, hb2⟩
    rw [HM.out]
    have b2 := below_then hb3 hb2
    clear hb2 hA hB hb3
    go_wp2_with fail
    go_ret2
    exact ⟨rfl, b2⟩

set_option maxRecDepth 100000 in
set_option maxHeartbeats 1000000 in
theorem bBytes_any (i m b : Int) (s : ByteArray) (w : World) (hs : s.size ≤ maxLen) (ht : TabOk w) :
    Calls Tryd.prog 9 #[.agg #[.int .i64 i, .int .i64 m, .int .i64 b, .string s]] w fun e w' => e = .returned (.tuple #[.string (recV i m b s), .int .i64 (recE i m b s)]) ∧ Below w.heap.size w w' := by
  have hb : Below w.heap.size w (w.alloc (.cells #[.int .i64 i, .int .i64 m, .int .i64 b, .string s] 24)) := (Below.refl _ _).alloc (Nat.le_refl _) _
  have ht0 := ht.below hb
  go_enter Tryd.func9, Tryd.ntmps9
  go_wp2_with fail
  refine (bsector_any i m b s _ hs ht0).mono ?_
  rintro e w1 ⟨rfl, hb1⟩
  have b1 := below_then hb hb1
  clear hb hb1
  go_wp2_with fail
  go_ret2
  exact ⟨rfl, b1⟩

/-- What reading comes to, at the sheet: whatever stands there is behind a 'true' the record that was read. -/
def ReadAt (q : Nat) (t : ByteArray) (w : World) (e : Ending) (w' : World) : Prop :=
  Only q w w' ∧ ((rdB t = true ∧ e = .returned (.bool true) ∧ Blk w' q #[.int .i64 (rdI t), .int .i64 (rdM t), .int .i64 (rdL t), .string (rdV t)] 42) ∨ (rdB t = false ∧ e = .returned (.bool false)))
theorem readAt_no {q : Nat} {t : ByteArray} {w w' : World} (h : rdB t = false) (ho : Only q w w') : ReadAt q t w (.returned (.bool false)) w' := ⟨ho, .inr ⟨h, rfl⟩⟩
theorem readAt_yes {q : Nat} {t : ByteArray} {w w' : World} (h : rdB t = true) (ho : Only q w w') (hq : Blk w' q #[.int .i64 (rdI t), .int .i64 (rdM t), .int .i64 (rdL t), .string (rdV t)] 42) : ReadAt q t w (.returned (.bool true)) w' := ⟨ho, .inl ⟨h, rfl, hq⟩⟩

set_option maxRecDepth 100000 in
set_option maxHeartbeats 1000000 in
theorem bread_any (q : Nat) (i m b : Int) (s t : ByteArray) (w : World) (hq : Blk w q #[.int .i64 i, .int .i64 m, .int .i64 b, .string s] 42) (hs : t.size ≤ maxLen) (ht : TabOk w) :
    Calls Tryd.prog 13 #[.pointer (some ⟨q, 0, none⟩), .string t] w (ReadAt q t w) := by
  have hA := lies_new w #[.int .i64 2, .int .i64 6, .int .i64 6] 3 (0, 0)
  have hb0 : Below w.heap.size w (w.alloc (.cells #[.int .i64 2, .int .i64 6, .int .i64 6] 3 (0, 0))) := (Below.refl _ _).alloc (Nat.le_refl _) _
  have ht0 := ht.below hb0
  go_enter Tryd.func13, Tryd.ntmps13
  go_wp2_with fail
  refine (Fields_any 4 t _ 3 3 recW _ hs hA (by omega) ht0).mono ?_
  rintro e w1 ⟨hb, A1, n1, c1, rfl, HN, hl⟩
  have hb1 := below_then hb0 hb
  have q1 := hq.below hb1 hq.lt
  have ho1 := Only.of_below hb1 q
  clear hb hA ht0 hb0
  rcases hf : fldB 4 t recW with _ | _
  · have he : fldErr 4 t recW = 30 := by simp [fldErr, hf]
    have HB : Hid (rdB t = false) := by show _ = _; simp [rdB, hf]
    rw [he]
    clear hf he hl HN
    generalize fldRest 4 t recW = R
    go_wp2_with fail
    go_ret
    exact readAt_no HB.out ho1
  · have he : fldErr 4 t recW = 0 := by simp [fldErr, hf]
    have HL : Hid ((fldVal 4 t recW).length = 3) := (make_fields_any hf).2.2.1
    have HB : Hid (rdB t = recMay ((fldVal 4 t recW).getD 0 0) ((fldVal 4 t recW).getD 1 0) ((fldVal 4 t recW).getD 2 0) (fldRest 4 t recW)) := by
      show _ = _
      unfold rdB valN
      rw [hf, Bool.true_and]
    have HY : Hid (rdB t = true → rdI t = (fldVal 4 t recW).getD 0 0 ∧ rdM t = (fldVal 4 t recW).getD 1 0 ∧ rdL t = (fldVal 4 t recW).getD 2 0 ∧ rdV t = fldRest 4 t recW) := fun h => by
      obtain ⟨g1, g2, g3, g4, _⟩ := rd_yes h
      exact ⟨g1, g2, g3, g4⟩
    have hR : (fldRest 4 t recW).size ≤ maxLen := by
      unfold fldRest
      rw [if_pos hf, ByteArray.size_extract]
      have h1 : isS t = true := by
        unfold fldB ofS at hf
        rw [Bool.and_eq_true, Bool.and_eq_true] at hf
        exact hf.1.1
      obtain ⟨h7, h5, _⟩ := isI_parts h1
      rw [bytesI_length] at h7 h5
      rw [loadS_size h7]
      unfold maxLen
      omega
    rw [he]
    clear hf he
    generalize fldVal 4 t recW = V at *
    generalize fldRest 4 t recW = R at *
    have hn : n1 = 3 := by have := HN.out; have := HL.out; omega
    subst hn
    obtain ⟨V0, V1, V2, rfl⟩ : ∃ a b c, V = [a, b, c] := by
      have := HL.out
      match V, this with
      | [a, b, c], _ => exact ⟨a, b, c, rfl⟩
    have HB : Hid (rdB t = recMay V0 V1 V2 R) := HB
    have HY : Hid (rdB t = true → rdI t = V0 ∧ rdM t = V1 ∧ rdL t = V2 ∧ rdV t = R) := HY
    obtain ⟨ad, rfl, had, hc⟩ := hl.2 (by decide)
    have hc0 := hc 0 (.int .i64 V0) rfl
    have hc1 := hc 1 (.int .i64 V1) rfl
    have hc2 := hc 2 (.int .i64 V2) rfl
    rw [show ad.add 0 = ad from by simp [Addr.add]] at hc0
    have hd1 : w1.cell? ⟨ad.block, ad.off + 1, none⟩ = some (.int .i64 V1) := by rw [← hc1]; simp [Addr.add]
    have hd2 : w1.cell? ⟨ad.block, ad.off + 2, none⟩ = some (.int .i64 V2) := by rw [← hc2]; simp [Addr.add]
    obtain ⟨z0, z1, z2, z3⟩ := rec_cells q1
    have f0 := q1.free 0
    have f1 := q1.free 1
    have f2 := q1.free 2
    have f3 := q1.free 3
    have hlt := q1.lt
    clear hc HN HL hl hc1 hc2
    go_wp2_with fail
    go_region
    all_goals
      have q5 : Blk ((((w1.setCell ⟨q, 0, none⟩ (.int .i64 V0)).setCell ⟨q, 1, none⟩ (.int .i64 V1)).setCell ⟨q, 2, none⟩ (.int .i64 V2)).setCell ⟨q, 3, none⟩ (.string R)).drew q #[.int .i64 V0, .int .i64 V1, .int .i64 V2, .string R] 42 := ((((q1.set 0 _).set 1 _).set 2 _).set 3 _).drew
      have ho5 : Only q w ((((w1.setCell ⟨q, 0, none⟩ (.int .i64 V0)).setCell ⟨q, 1, none⟩ (.int .i64 V1)).setCell ⟨q, 2, none⟩ (.int .i64 V2)).setCell ⟨q, 3, none⟩ (.string R)).drew := ((((ho1.setAt 0 _).setAt 1 _).setAt 2 _).setAt 3 _).drew'
      generalize ((((w1.setCell ⟨q, 0, none⟩ (.int .i64 V0)).setCell ⟨q, 1, none⟩ (.int .i64 V1)).setCell ⟨q, 2, none⟩ (.int .i64 V2)).setCell ⟨q, 3, none⟩ (.string R)).drew = w5 at *
      obtain ⟨y0, y1, y2, y3⟩ := rec_cells q5
      clear hc0 hd1 hd2 z0 z1 z2 z3 f0 f1 f2 f3 hlt q1 ho1 hb1 hq had
      go_wp2_with fail
      refine (rmay_any V0 V1 V2 R w5 hR).mono ?_
      rintro e w6 ⟨rfl, hb6⟩
      have q6 := q5.below hb6 q5.lt
      have ho6 : Only q w w6 := ho5.trans (Only.of_below hb6 q)
      rw [← HB.out]
      obtain ⟨p, hp⟩ : ∃ p, Hid (rdB t = p) := ⟨_, rfl⟩
      rw [hp.out]
      clear q5 ho5 hb6 y0 y1 y2 y3 HB
      cases p
      · go_wp2_with fail
        go_ret
        exact readAt_no hp.out ho6
      · obtain ⟨r0, r1, r2, r3⟩ := HY.out hp.out
        rw [← r0, ← r1, ← r2, ← r3] at q6
        have q7 := Lib.hid q6
        clear r0 r1 r2 r3 q6 HY
        go_wp2_with fail
        go_ret
        exact readAt_yes hp.out ho6 q7.out

/-- Two results, the first in a block of the call's own. -/
theorem results_two {P : Program} {fn : Func} {t u : Tmp} {ty : TypeId} (h : fn.results = #[.cell t ty, .tmp u]) {tmps : Array Value} {w : World} {b : Nat} {cs : List Value} {d : TypeDesc} {v : Value}
    (hp : tmps.getD t undef = .pointer (some ⟨b, 0, none⟩)) (hv : tmps.getD u undef = v) (hr : w.rangeAt b 0 cs) (hu : P.underlying ty = some d) (hd : d.isRow = true) (hi : (P.info? ty).map (·.size) = some cs.length) :
    (results fn tmps).run P w = .ok (.tuple #[.agg cs.toArray, v]) w := by
  have hp' : tmps[t]?.getD undef = .pointer (some ⟨b, 0, none⟩) := by simpa using hp
  have hv' : tmps[u]?.getD undef = v := by simpa using hv
  simp [results, h, hp', hv', asAddr, run_loadVar_mid w b 0 ty cs d hr hu hd hi]

/-- What Read answers. -/
def readV (t : ByteArray) : Value := .tuple #[.agg #[.int .i64 (rdI t), .int .i64 (rdM t), .int .i64 (rdL t), .string (rdV t)], .int .i64 (rdE t)]

set_option maxRecDepth 100000 in
set_option maxHeartbeats 1000000 in
theorem bRead_any (t : ByteArray) (w : World) (hs : t.size ≤ maxLen) (ht : TabOk w) :
    Calls Tryd.prog 7 #[.string t] w fun e w' => e = .returned (readV t) ∧ Below w.heap.size w w' := by
  have b1 : Below w.heap.size w (w.alloc (.cells #[.int .i64 0, .int .i64 0, .int .i64 0, .string ⟨#[]⟩] 24)) := (Below.refl _ _).alloc (Nat.le_refl _) _
  have q1 := Blk.new w #[.int .i64 0, .int .i64 0, .int .i64 0, .string ⟨#[]⟩] 24
  go_enter Tryd.func7, Tryd.ntmps7
  by_cases hz : t = ⟨#[]⟩
  · subst hz
    have HV : Hid (readV ⟨#[]⟩ = .tuple #[.agg #[.int .i64 0, .int .i64 0, .int .i64 0, .string ⟨#[]⟩], .int .i64 0]) := by
      show _ = _
      unfold readV
      rw [rd_empty.1, rd_empty.2.1, rd_empty.2.2.1, rd_empty.2.2.2.1, rd_empty.2.2.2.2]
    go_wp2_with fail
    refine bodyPost_ret (results_two (cs := [.int .i64 0, .int .i64 0, .int .i64 0, .string ⟨#[]⟩]) Tryd.results7 (by rfl) (by rfl) q1.range Tryd.underlying24 rfl (by kernel_rfl)) rfl ?_
    exact ⟨by rw [HV.out] <;> rfl, b1⟩
  · have hd := ne_empty hz
    have HB := Lib.hid (fun h => rd_bad (s := t) h hz)
    have HY := Lib.hid (fun h => rd_yes (s := t) h)
    have hsz : (w.alloc (.cells #[.int .i64 0, .int .i64 0, .int .i64 0, .string ⟨#[]⟩] 24)).heap.size = w.heap.size + 1 := by simp
    have q2 := q1.alloc (.cells #[.int .i64 0, .int .i64 0, .int .i64 0, .string ⟨#[]⟩] 42)
    have s2 := Blk.new (w.alloc (.cells #[.int .i64 0, .int .i64 0, .int .i64 0, .string ⟨#[]⟩] 24)) #[.int .i64 0, .int .i64 0, .int .i64 0, .string ⟨#[]⟩] 42
    have b2 := b1.alloc b1.size (.cells #[.int .i64 0, .int .i64 0, .int .i64 0, .string ⟨#[]⟩] 42)
    rw [hsz] at s2
    have ht2 := ht.below b2
    have hlt2 := s2.lt
    clear hz hsz b1 q1
    go_wp2_with fail
    refine (bread_any (w.heap.size + 1) 0 0 0 ⟨#[]⟩ t _ s2 hs ht2).mono ?_
    rintro e w3 ⟨ho, h⟩
    have q3 : Blk w3 w.heap.size #[.int .i64 0, .int .i64 0, .int .i64 0, .string ⟨#[]⟩] 24 := (ho.block _ q2.lt (by intro e; injection e with e; omega)).trans q2
    have b3 : Below w.heap.size w w3 := b2.trans (ho.below (by simp; omega) (by omega))
    obtain ⟨c0, c1, c2, c3⟩ := rec_cells q3
    have f0 := q3.free 0
    have f1 := q3.free 1
    have f2 := q3.free 2
    have f3 := q3.free 3
    clear ho q2 b2 s2 ht2 hlt2
    rcases h with ⟨hr, rfl, s3⟩ | ⟨hr, rfl⟩
    · have HE := Lib.hid (HY.out hr)
      obtain ⟨d0, d1, d2, d3⟩ := rec_cells s3
      have hV : Hid (readV t = .tuple #[.agg #[.int .i64 (rdI t), .int .i64 (rdM t), .int .i64 (rdL t), .string (rdV t)], .int .i64 0]) := by
        show _ = _
        unfold readV
        rw [HE.out.2.2.2.2]
      clear hr HY HB HE
      generalize rdI t = x0 at *
      generalize rdM t = x1 at *
      generalize rdL t = x2 at *
      generalize rdV t = x3 at *
      clear s3
      go_wp2_with fail
      have q8 : Blk ((((w3.setCell ⟨w.heap.size, 0, none⟩ (.int .i64 x0)).setCell ⟨w.heap.size, 1, none⟩ (.int .i64 x1)).setCell ⟨w.heap.size, 2, none⟩ (.int .i64 x2)).setCell ⟨w.heap.size, 3, none⟩ (.string x3)) w.heap.size #[.int .i64 x0, .int .i64 x1, .int .i64 x2, .string x3] 24 := (((q3.set 0 _).set 1 _).set 2 _).set 3 _
      refine bodyPost_ret (results_two (cs := [.int .i64 x0, .int .i64 x1, .int .i64 x2, .string x3]) Tryd.results7 (by rfl) (by rfl) q8.range Tryd.underlying24 rfl (by kernel_rfl)) rfl ?_
      exact ⟨by rw [hV.out] <;> rfl, (((b3.setCell (Nat.le_refl _) _).setCell (Nat.le_refl _) _).setCell (Nat.le_refl _) _).setCell (Nat.le_refl _) _⟩
    · have hV : Hid (readV t = .tuple #[.agg #[.int .i64 0, .int .i64 0, .int .i64 0, .string ⟨#[]⟩], .int .i64 50]) := by
        obtain ⟨g1, g2, g3, g4, g5⟩ := HB.out hr
        show _ = _
        unfold readV
        rw [g1, g2, g3, g4, g5]
      clear hr HY HB
      go_wp2_with fail
      have q8 : Blk ((((w3.setCell ⟨w.heap.size, 0, none⟩ (.int .i64 0)).setCell ⟨w.heap.size, 1, none⟩ (.int .i64 0)).setCell ⟨w.heap.size, 2, none⟩ (.int .i64 0)).setCell ⟨w.heap.size, 3, none⟩ (.string ⟨#[]⟩)) w.heap.size #[.int .i64 0, .int .i64 0, .int .i64 0, .string ⟨#[]⟩] 24 := (((q3.set 0 _).set 1 _).set 2 _).set 3 _
      refine bodyPost_ret (results_two (cs := [.int .i64 0, .int .i64 0, .int .i64 0, .string ⟨#[]⟩]) Tryd.results7 (by rfl) (by rfl) q8.range Tryd.underlying24 rfl (by kernel_rfl)) rfl ?_
      exact ⟨by rw [hV.out] <;> rfl, (((b3.setCell (Nat.le_refl _) _).setCell (Nat.le_refl _) _).setCell (Nat.le_refl _) _).setCell (Nat.le_refl _) _⟩

end Go.Proofs.YtgllamjgagbblaaDoor
