/-
  The document's own Make, by contract.
-/
import Derived.Test.YtaegkpfjopajpaaDoorSealTake
import Derived.Deep.RegionWith
namespace Go.Proofs.YtaegkpfjopajpaaDoor
open Go.RowKit
set_option linter.unusedVariables false
set_option linter.unusedSimpArgs false

theorem okP_one (x n : Int) : okP x [n] = fitsB x n := by
  unfold okP
  simp only [List.all_cons, List.all_nil, Bool.and_true]
  rcases hm : mayB x with _ | _
  · rw [fitsB_no_width hm]; rfl
  · rfl
/-- One number, put behind bytes: one outcome, whether it fits or not. -/
theorem put_one_named {x n : Int} {zb : List Int} {w : World} {e : Ending} {w' : World} (h : PutPost x zb [n] w e w') :
    Below w.heap.size w w' ∧ ∃ (A : Option Addr) (q c : Nat) (err : Int) (zs : List Int), e = .returned (.tuple #[.slice A q c, .int .i64 err]) ∧ Hid (zs.length = q) ∧ Lies w' w'.heap.size A q (zs.map (Value.int .u8)) ∧
      Hid ((fitsB x n = true ∧ err = 0 ∧ zs = zb ++ enc x.toNat n) ∨ (fitsB x n = false ∧ err = 2)) := by
  obtain ⟨hb, A, q, c, err, zs, he, HE, HZ, HN, hl⟩ := put_named h
  refine ⟨hb, A, q, c, err, zs, he, HN, hl, ?_⟩
  have h1 := HE.out
  have h2 := HZ.out
  by_cases hf : fitsB x n = true
  · have ho : okP x [n] = true := by rw [okP_one]; exact hf
    rw [errP_yes ho] at h1
    rw [bytesP_yes ho] at h2
    exact .inl ⟨hf, h1, by simpa [encs] using h2⟩
  · have hf' : fitsB x n = false := by simpa using hf
    have ho : okP x [n] = false := by rw [okP_one]; exact hf'
    rw [errP_no ho] at h1
    exact .inr ⟨hf', h1⟩

theorem encZ_take (zz : List (Int × Int)) (i : Nat) : (encZ (zz.take i)).length ≤ (encZ zz).length := by
  have e : encZ zz = encZ (zz.take i) ++ encZ (zz.drop i) := by
    have h2 : ∀ a b : List (Int × Int), encZ (a ++ b) = encZ a ++ encZ b := fun a b => by simp [encZ]
    have := h2 (zz.take i) (zz.drop i)
    rwa [List.take_append_drop] at this
  rw [e, List.length_append]
  omega
theorem makeB_too_long {k : Int} {s : ByteArray} {zw zl : List Int} (i : Nat) (h : 505 < (encZ ((zw.zip zl).take i)).length) : makeB k s zw zl = false := by
  rcases hh : makeB k s zw zl with _ | _
  · rfl
  · have h3 := (of_mayS (makeB_iff.1 hh).2.2).2
    rw [makeS_size] at h3
    have := encZ_take (zw.zip zl) i
    omega
theorem makeB_bad {k : Int} {s : ByteArray} {zw zl : List Int} (h : okZ (zw.zip zl) = false) : makeB k s zw zl = false := by
  unfold makeB
  rw [h, Bool.and_false, Bool.false_and]
theorem makeOut_seal {k : Int} {s : ByteArray} {zw zl : List Int} (h1 : zw.length = zl.length) (h2 : okZ (zw.zip zl) = true) : makeOut k s zw zl = sealOut k (makeS s zw zl) := by
  have hB : makeB k s zw zl = mayS k (makeS s zw zl) := by
    unfold makeB
    rw [decide_eq_true h1, h2]
    rfl
  by_cases hm : mayS k (makeS s zw zl) = true
  · rw [makeOut_yes (hB.trans hm), sealOut_yes hm]
  · have hm' : mayS k (makeS s zw zl) = false := by simpa using hm
    rw [makeOut_no (hB.trans hm'), sealOut_no hm']

set_option maxRecDepth 100000 in
set_option maxHeartbeats 1000000 in
theorem refMake_any (k : Int) (s : ByteArray) (A B : Option Addr) (n m c d : Nat) (zw zl : List Int) (w : World) (h1 : k ≤ 127) (hs : s.size ≤ 1099511627776) (hA : Lies w w.heap.size A n (zw.map (Value.int .i64))) (hB : Lies w w.heap.size B m (zl.map (Value.int .i64)))
    (hn : n ≤ 1099511627776) (hm : m ≤ 1099511627776) :
    Calls Tryd.prog 27 #[.int .i8 k, .string s, .slice A n c, .slice B m d] w fun e w' => e = makeOut k s zw zl ∧ Below w.heap.size w w' := by
  have HLN : Hid (zw.length = n) := by show _ = _; simpa using hA.1
  have HLM : Hid (zl.length = m) := by show _ = _; simpa using hB.1
  by_cases hnm : n = m
  · subst hnm
    have hne : ((n : Int) != (n : Int)) = false := by simp
    go_enter Tryd.func27, Tryd.ntmps27
    go_wp2_with fail
    go_loopw [10, 11] (fun v i wr => ∃ (j q cc : Nat) (AA : Option Addr), j ≤ n ∧ q ≤ 505 ∧ i = .int .i64 j ∧ v = .slice AA q cc ∧ Lies wr wr.heap.size AA q ((encZ ((zw.zip zl).take j)).map (Value.int .u8)) ∧ Hid (okZ ((zw.zip zl).take j) = true) ∧ Below w.heap.size w wr) (fun _ i _ => n - (intOf i).toNat)
    case atStart => exact ⟨0, 0, 0, none, Nat.zero_le _, by omega, rfl, rfl, Lies.nothing, (by rfl : okZ ((zw.zip zl).take 0) = true), Below.refl _ _⟩
    case round =>
      obtain ⟨j, q, cc, AA, hj, hq, rfl, rfl, hl, hok, hb⟩ := hrel
      by_cases hlt : j < n
      · obtain ⟨ad, u, rfl, had, hu, hcell⟩ := (hA.below hb).at_ hlt
        obtain ⟨bd, v2, rfl, hbd, hv, hcellb⟩ := (hB.below hb).at_ hlt
        have hja : j < zw.length := by rw [HLN.out]; exact hlt
        have hjb : j < zl.length := by rw [HLM.out]; exact hlt
        obtain rfl : u = .int .i64 zw[j] := by
          rw [List.getElem?_map, List.getElem?_eq_getElem hja] at hu
          simpa using hu.symm
        obtain rfl : v2 = .int .i64 zl[j] := by
          rw [List.getElem?_map, List.getElem?_eq_getElem hjb] at hv
          simpa using hv.symm
        have HZ := Lib.hid (zip_take_succ hja hjb)
        have hsz := hb.size
        have had2 : ad.block < wr.heap.size := Nat.lt_of_lt_of_le had hsz
        have hbd2 : bd.block < wr.heap.size := Nat.lt_of_lt_of_le hbd hsz
        have hl2 : Lies (wr.drew.alloc (.cells #[.int .i64 zl[j]] 3)) (wr.drew.alloc (.cells #[.int .i64 zl[j]] 3)).heap.size AA q ((encZ ((zw.zip zl).take j)).map (Value.int .u8)) := Lies.alloc (w := wr.drew) hl _
        have hcell3 : (wr.alloc (.cells #[.int .i64 zl[j]] 3)).cell? (ad.add j) = some (.int .i64 zw[j]) := by
          rw [((Below.refl wr.heap.size wr).alloc (Nat.le_refl _) _).cell (by rw [add_block]; exact had2)]
          exact hcell
        have hcell4 : (wr.alloc (.cells #[.int .i64 zl[j]] 3)).drew.cell? (ad.add j) = some (.int .i64 zw[j]) := hcell3
        clear hu hv
        go_wp2_with fail
        go_region_with (go_at_call 45; refine (refPut_any zw[j] AA (some ⟨wr.heap.size, 0, none⟩) q 1 cc 1 (encZ ((zw.zip zl).take j)) [zl[j]] (wr.drew.alloc (.cells #[.int .i64 zl[j]] 3)) hl2 (lies_int wr.drew 3 zl[j] rfl) (by omega) (by omega)).mono ?_; intro e w1 hpost; obtain ⟨hb1, A1, q1, c1, e1, zs1, rfl, HN1, hl1, HOR⟩ := put_one_named hpost; clear hpost)
        all_goals
          have hb01 : Below w.heap.size w w1 := ((hb.drew.alloc hsz _).trans (hb1.mono (by simp; omega)))
          rcases HOR.out with ⟨hf, rfl, hz⟩ | ⟨hf, rfl⟩
          · have HOK : Hid (okZ ((zw.zip zl).take (j + 1)) = true) := by
              show _ = _
              rw [HZ.out, okZ_snoc, hok.out, hf]
              rfl
            have HE : Hid (zs1 = encZ ((zw.zip zl).take (j + 1))) := by
              show _ = _
              rw [HZ.out, encZ_snoc]
              exact hz
            clear hf hz HOR hb1 hl2 hcell3 hcell4
            by_cases hq1 : q1 ≤ 505
            · rw [HE.out] at hl1
              go_wp2_with fail
              go_roundw
              case rel => exact ⟨j + 1, q1, c1, A1, by omega, hq1, by go_num, rfl, hl1, HOK, hb01⟩
              case measure => simp [intOf]; omega
            · have hq1' : 505 < q1 := by omega
              have HN : Hid (makeOut k s zw zl = _) := makeOut_no (makeB_too_long (j + 1) (by rw [← HE.out, HN1.out]; exact hq1'))
              clear hq1
              go_wp2_with fail
              go_ret2
              exact ⟨HN.out.symm, hb01⟩
          · have HN : Hid (makeOut k s zw zl = _) := makeOut_no (makeB_bad (okZ_bad HZ.out hf))
            clear hf HOR hb1 hl2 hcell3 hcell4
            go_wp2_with fail
            go_ret2
            exact ⟨HN.out.symm, hb01⟩
      · have hall : (zw.zip zl).take j = zw.zip zl := List.take_of_length_le (by rw [List.length_zip, HLN.out, HLM.out]; omega)
        rw [hall] at hl hok
        have hconv := conv_lies (P := Tryd.prog) (c := cc) 66 9 5 Tryd.underlying66 Tryd.underlying5 Tryd.underlying9 hl
        have HM : Hid (makeOut k s zw zl = sealOut k (strOfNums (encZ (zw.zip zl)) ++ s)) := makeOut_seal (by rw [HLN.out, HLM.out]) hok.out
        have hzs : (strOfNums (encZ (zw.zip zl))).size = q := by
          rw [strOfNums_size]
          simpa using hl.1
        generalize strOfNums (encZ (zw.zip zl)) = Z at *
        have hzs2 : (Z ++ s).size ≤ maxLen := by
          rw [ByteArray.size_append]
          unfold maxLen
          omega
        clear hl hok hall
        go_wp2_with fail
        refine (refSeal_any k (Z ++ s) wr h1 hzs2).mono ?_
        rintro e w5 ⟨rfl, hb5⟩
        have hb05 := hb.trans (hb5.mono hb.size)
        have ES : Hid (sealOut k (Z ++ s) = .returned (.tuple #[.string (sealVal k (Z ++ s)), .int .i64 (sealErr k (Z ++ s))])) := rfl
        generalize sealVal k (Z ++ s) = sv at *
        generalize sealErr k (Z ++ s) = se at *
        rw [ES.out]
        clear hconv hb hb5
        go_wp2_with fail
        go_ret2
        exact ⟨(HM.out.trans ES.out).symm, hb05⟩
  · have HN : Hid (makeOut k s zw zl = _) := makeOut_no (by
      rcases hh : makeB k s zw zl with _ | _
      · rfl
      · have := (makeB_iff.1 hh).1
        rw [HLN.out, HLM.out] at this
        exact absurd this hnm)
    have hne : ((n : Int) != (m : Int)) = true := by simp; omega
    clear hnm
    go_enter Tryd.func27, Tryd.ntmps27
    go_wp2_with fail
    go_ret2
    exact ⟨HN.out.symm, Below.refl _ _⟩

end Go.Proofs.YtaegkpfjopajpaaDoor
