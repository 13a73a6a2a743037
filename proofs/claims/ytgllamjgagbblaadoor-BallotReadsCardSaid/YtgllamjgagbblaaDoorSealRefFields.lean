/-
  The document's own Fields, by contract.
-/
import Derived.Test.YtgllamjgagbblaaDoorSealTake
namespace Go.Proofs.YtgllamjgagbblaaDoor
open Go.RowKit
set_option linter.unusedVariables false
set_option linter.unusedSimpArgs false

set_option maxRecDepth 100000 in
set_option maxHeartbeats 1000000 in
theorem refFields_any (k : Int) (t : ByteArray) (A : Option Addr) (n c : Nat) (zw : List Int) (w : World) (hm : t.size ≤ maxLen) (hA : Lies w w.heap.size A n (zw.map (Value.int .i64))) (hn : n ≤ 1099511627776) :
    Calls Tryd.prog 14 #[.int .i8 k, .string t, .slice A n c] w (FieldsPost k t zw w) := by
  have HLN : Hid (zw.length = n) := by show _ = _; simpa using hA.1
  go_enter Tryd.func14, Tryd.ntmps14
  go_wp2_with fail
  refine (refOf_any k t w hm).mono ?_
  rintro e w1 ⟨rfl, hb1⟩
  by_cases hs : ofS k t = true
  · have h505 : (loadS t).size ≤ 505 := by
      have h1 : isS t = true := by
        unfold ofS at hs
        rw [Bool.and_eq_true] at hs
        exact hs.1
      obtain ⟨h7, h5, _⟩ := isI_parts h1
      rw [bytesI_length] at h7 h5
      rw [loadS_size h7]
      omega
    have HOF := Lib.hid hs
    have HBL := Lib.hid (bytesI_loadS t)
    have hM : (loadS t).size ≤ maxLen := by unfold maxLen; omega
    obtain ⟨i0, hi, hz0, hz1, hz2⟩ := info_parts infoInt
    rw [ofOut_yes hs]
    clear hs hm
    have HFY : Hid (okK (bytesI (loadS t)) zw zw.length = true → fldB k t zw = true) := fun h => by
      unfold fldB
      rw [HOF.out, ← bytesI_loadS, h]
      rfl
    have HFN : Hid (okK (bytesI (loadS t)) zw zw.length = false → fldB k t zw = false) := fun h => by
      unfold fldB
      rw [← bytesI_loadS, h, Bool.and_false]
    have HLO : Hid (loadI (bytesI t) = bytesI (loadS t)) := (bytesI_loadS t).symm
    have HRest : Hid (∀ x, (loadS t).extract x (loadS t).size = (loadS t).extract x (loadS t).size) := fun _ => rfl
    have HEND : Hid (∀ (w' : World) (AA : Option Addr) (cc : Nat), okK (bytesI (loadS t)) zw zw.length = true → Below w.heap.size w w' → Lies w' w'.heap.size AA n ((valK (bytesI (loadS t)) zw n).map (Value.int .i64)) →
        FieldsPost k t zw w (.returned (.tuple #[.slice AA n cc, .string ((loadS t).extract (atK zw n) (loadS t).size), .int .i64 0])) w') := fun w' AA cc h hb hl => by
      have hlen := HLN.out
      subst hlen
      exact fieldsPost_yes (HFY.out h) hb (by rw [HLO.out]; exact hl)
    generalize loadS t = L at *
    clear HLO HRest HBL HFY
    go_wp2_with fail
    go_loopw [11, 12, 13] (fun v u i wr => ∃ j : Nat, j ≤ n ∧ i = .int .i64 j ∧ u = .int .i64 (atK zw j : Nat) ∧ wr.ownsRow w.heap.size 3 1 v j ((valK (bytesI L) zw j).map (Value.int .i64)) ∧ Hid (okK (bytesI L) zw j = true) ∧ Below w.heap.size w wr) (fun _ _ i _ => n - (intOf i).toNat)
    case atStart => exact ⟨0, Nat.zero_le _, rfl, rfl, World.ownsRow_nil _ _ _ _, (by rfl : okK (bytesI L) zw 0 = true), hb1⟩
    case round =>
      clear hb1
      obtain ⟨j, hj, rfl, rfl, hown, hok, hb⟩ := hrel
      have hat := okK_at (by rw [HLN.out]; exact hj) hok.out
      rw [bytesI_length] at hat
      by_cases hlt : j < n
      · obtain ⟨ad, u, rfl, had, hu, hcell⟩ := (hA.below hb).at_ hlt
        have hja : j < zw.length := by rw [HLN.out]; exact hlt
        obtain rfl : u = .int .i64 zw[j] := by
          rw [List.getElem?_map, List.getElem?_eq_getElem hja] at hu
          simpa using hu.symm
        have HVS := Lib.hid (valK_succ (l := bytesI L) hja)
        have HOS := Lib.hid (okK_succ (l := bytesI L) hja)
        have HBD := Lib.hid (fun h => HFN.out (okK_bad (l := bytesI L) hja h))
        have HAS := Lib.hid (atK_succ hja)
        have hsz := hb.size
        clear hu
        go_wp2_with fail
        refine (refGet_any L (atK zw j : Nat) zw[j] _ hM (by omega) (by omega)).mono ?_
        rintro e w2 ⟨rfl, rfl⟩
        rw [show getOut (bytesI L) (atK zw j : Nat) zw[j] = .returned (.tuple #[.int .i64 (getVal (bytesI L) (atK zw j : Nat) zw[j]), .int .i64 (getErr (bytesI L) (atK zw j : Nat) zw[j])]) from rfl]
        by_cases he : getErr (bytesI L) (atK zw j : Nat) zw[j] = 0
        · obtain ⟨e1, e2, e3⟩ := err_zero he
          rw [bytesI_length] at e3
          have HOK : Hid (okK (bytesI L) zw (j + 1) = true) := by
            show _ = _
            rw [HOS.out, hok.out, he]
            rfl
          rw [he]
          have hAN : (atK zw j : Int) + zw[j] = ((atK zw (j + 1) : Nat) : Int) := by rw [HAS.out]; omega
          generalize getVal (bytesI L) (atK zw j : Nat) zw[j] = V at *
          clear he HBD HOS
          go_wp2_with (at_builtin; refine wpList_append_own _ rfl _ _ 35 rfl w.heap.size 3 i0 (.int .i64 0) 1 8 Tryd.underlying35 hi hz0 hz1 hz2 rfl (by decide) _ _ _ rfl (hown.alloc _) ⟨wr.heap.size, 0, none⟩ 1 1 [_] rfl rfl (cell_new _ _ _) (one_int _ _) ?d1 ?d2 ?d3 ?_)
          case d1 => unfold maxLen; omega
          case d2 => omega
          case d3 => simp; omega
          intro v' w3 hown' hgrow _
          have hown2 : w3.ownsRow w.heap.size 3 1 v' (j + 1) ((valK (bytesI L) zw (j + 1)).map (Value.int .i64)) := by
            rw [HVS.out, List.map_append]
            exact hown'
          have hb2 : Below w.heap.size w w3 := (hb.alloc (by omega) _).grown hgrow (by simp; omega) (fun j hj => (hown.lt j hj).1)
          have hcell2 : w3.cell? (ad.add j) = some (.int .i64 zw[j]) := by
            obtain ⟨ad', u', e', _, hu', hc'⟩ := (hA.below hb2).at_ hlt
            obtain rfl : ad = ad' := Option.some.inj e'
            rw [hc', ← hu', List.getElem?_map, List.getElem?_eq_getElem hja]
            rfl
          clear hown' hgrow hown hb HVS
          go_wp2_with fail
          go_roundw
          case rel => exact ⟨j + 1, by omega, by go_num, rfl, hown2, HOK, hb2⟩
          case measure => simp [intOf]; omega
        · have HN := Lib.hid (HBD.out he)
          have heb : (getErr (bytesI L) (atK zw j : Nat) zw[j] != 0) = true := by simpa using he
          generalize getErr (bytesI L) (atK zw j : Nat) zw[j] = E at *
          generalize getVal (bytesI L) (atK zw j : Nat) zw[j] = V at *
          clear HOS he HBD
          go_wp2_with fail
          go_ret3
          exact fieldsPost_no HN.out hb
      · obtain rfl : j = n := by omega
        obtain ⟨AA, cc, hv⟩ := own_shape hown
        subst hv
        have hlies := Lies.of_own hown
        have hok2 : okK (bytesI L) zw zw.length = true := by rw [HLN.out]; exact hok.out
        have HE := Lib.hid (fun (w' : World) hb hl => HEND.out w' AA cc hok2 hb hl)
        clear hown HEND hok hok2
        have hat2 : (atK zw j : Int) ≤ (L.size : Int) := by omega
        go_wp2_with fail
        go_quiet (fail)
        go_wp2
        go_ret3
        exact HE.out _ (hb.trans (drewN_below _ _ _)) (lies_drewN hlies)
  · have hs' : ofS k t = false := by simpa using hs
    have HB : Hid (fldB k t zw = false) := by
      show _ = _
      unfold fldB
      rw [hs', Bool.false_and]
    rw [ofOut_no hs']
    clear hs hs'
    go_wp2_with fail
    go_ret3
    exact fieldsPost_no HB.out hb1

end Go.Proofs.YtgllamjgagbblaaDoor
