/-
  seal: numbers of many widths, one behind the other: laid ahead of a load, through a pointer; Make: by contract.
-/
import Derived.Test.YtgllamjgagbblaaDoorSealWakes
import Derived.Test.YtgllamjgagbblaaDoorFresh
import Derived.RegionTactic
namespace Go.Proofs.YtgllamjgagbblaaDoor
open Go.RowKit
set_option linter.unusedVariables false
set_option linter.unusedSimpArgs false

/-- Does each number fit its width? -/
def okZ (zz : List (Int × Int)) : Bool := zz.all fun p => fitsB p.1 p.2
/-- Their bytes. -/
def encZ (zz : List (Int × Int)) : List Int := zz.flatMap fun p => enc p.1.toNat p.2
theorem encZ_snoc (zz : List (Int × Int)) (p : Int × Int) : encZ (zz ++ [p]) = encZ zz ++ enc p.1.toNat p.2 := by simp [encZ]
theorem encZ_bytes (zz : List (Int × Int)) : IsBytes (encZ zz) := by
  intro b hb
  simp only [encZ, List.mem_flatMap] at hb
  obtain ⟨x, _, hx⟩ := hb
  exact enc_bytes _ _ b hx
theorem okZ_snoc (zz : List (Int × Int)) (p : Int × Int) : okZ (zz ++ [p]) = (okZ zz && fitsB p.1 p.2) := by simp [okZ]
theorem encZ_le {zz : List (Int × Int)} (h : okZ zz = true) : zz.length ≤ (encZ zz).length ∧ (encZ zz).length ≤ 6 * zz.length := by
  induction zz with
  | nil => simp [encZ]
  | cons p zz ih =>
    have h' : fitsB p.1 p.2 = true ∧ okZ zz = true := by simpa [okZ] using h
    obtain ⟨⟨h1, h2⟩, _⟩ := of_fitsB h'.1
    have := ih h'.2
    have e : encZ (p :: zz) = enc p.1.toNat p.2 ++ encZ zz := by simp [encZ]
    rw [e, List.length_append, enc_length, List.length_cons]
    omega
theorem zip_take_succ {l m : List Int} {k : Nat} (h1 : k < l.length) (h2 : k < m.length) : (l.zip m).take (k + 1) = (l.zip m).take k ++ [(l[k], m[k])] := by
  have h : k < (l.zip m).length := by rw [List.length_zip]; omega
  rw [List.take_succ_eq_append_getElem h, List.getElem_zip]
theorem okZ_bad {zz : List (Int × Int)} {k : Nat} {p : Int × Int} (h : zz.take (k + 1) = zz.take k ++ [p]) (hf : fitsB p.1 p.2 = false) : okZ zz = false := by
  have e : zz = zz.take (k + 1) ++ zz.drop (k + 1) := (List.take_append_drop _ _).symm
  have e2 : okZ zz = (okZ (zz.take (k + 1)) && okZ (zz.drop (k + 1))) := by
    have : okZ (zz.take (k + 1) ++ zz.drop (k + 1)) = (okZ (zz.take (k + 1)) && okZ (zz.drop (k + 1))) := by unfold okZ; rw [List.all_append]
    rwa [← e] at this
  rw [e2, h, okZ_snoc, hf]
  simp

/-- One number, put by itself, whether it fits or not. -/
theorem put_either {x n : Int} {w w' : World} {e : Ending} (h : PutPost x [] [n] w e w') : Below w.heap.size w w' ∧
    ((fitsB x n = true ∧ ∃ A c, e = .returned (.tuple #[.slice A x.toNat c, .int .i64 0]) ∧ Lies w' w'.heap.size A x.toNat ((enc x.toNat n).map (Value.int .u8))) ∨ (fitsB x n = false ∧ e = .returned (.tuple #[.slice none 0 0, .int .i64 2]))) := by
  obtain ⟨hb, h⟩ := h
  refine ⟨hb, ?_⟩
  have ef : (mayB x && [n].all (fitsB x)) = fitsB x n := by
    simp only [List.all_cons, List.all_nil, Bool.and_true]
    rcases hm : mayB x with _ | _
    · rw [fitsB_no_width hm]; rfl
    · rfl
  rw [ef] at h
  rcases h with ⟨h, rfl⟩ | ⟨h, v, rfl, hown⟩
  · exact .inr ⟨h, rfl⟩
  · have e1 : encs x.toNat [n] = enc x.toNat n := by simp [encs]
    rw [e1] at hown
    simp only [List.length_nil, List.length_singleton, Nat.mul_one, Nat.zero_add, List.nil_append] at hown
    obtain ⟨A, c, rfl⟩ := own_shape hown
    exact .inl ⟨h, A, c, rfl, Lies.of_own hown⟩

theorem Only.drew' {b : Nat} {w w' : World} (h : Only b w w') : Only b w w'.drew := ⟨h.os, h.tape, h.output, h.size, h.block⟩

theorem ParAt.drew' {w : World} {b : Nat} {T : TypeId} {k : Int} {s : ByteArray} (h : ParAt w b T k s) : ParAt w.drew b T k s := h

/-- What laying comes to. -/
def layB (s : ByteArray) (zw zl : List Int) : Bool := decide (zw.length = zl.length ∧ s.size + zl.length ≤ 505) && okZ (zw.zip zl)
def LayPost (b : Nat) (T : TypeId) (k : Int) (s : ByteArray) (zw zl : List Int) (w : World) (e : Ending) (w' : World) : Prop :=
  Only b w w' ∧ ((layB s zw zl = true ∧ e = .returned (.bool true) ∧ ParAt w' b T k (strOfNums (encZ (zw.zip zl)) ++ s)) ∨ (layB s zw zl = false ∧ e = .returned (.bool false)))
theorem layPost_no {b : Nat} {T : TypeId} {k : Int} {s : ByteArray} {zw zl : List Int} {w w' : World} (h : layB s zw zl = false) (ho : Only b w w') : LayPost b T k s zw zl w (.returned (.bool false)) w' := ⟨ho, .inr ⟨h, rfl⟩⟩
theorem layB_no {s : ByteArray} {zw zl : List Int} (h : ¬ (zw.length = zl.length ∧ s.size + zl.length ≤ 505)) : layB s zw zl = false := by
  unfold layB
  rw [decide_eq_false h, Bool.false_and]
theorem layB_bad {s : ByteArray} {zw zl : List Int} (h : okZ (zw.zip zl) = false) : layB s zw zl = false := by
  unfold layB
  rw [h, Bool.and_false]
theorem layB_yes {s : ByteArray} {zw zl : List Int} (h1 : zw.length = zl.length) (h2 : s.size + zl.length ≤ 505) (h : okZ (zw.zip zl) = true) : layB s zw zl = true := by
  unfold layB
  rw [h, decide_eq_true ⟨h1, h2⟩]
  rfl

set_option maxRecDepth 100000 in
set_option maxHeartbeats 1000000 in
theorem slay_any (b : Nat) (T : TypeId) (k : Int) (s : ByteArray) (A B : Option Addr) (n m c d : Nat) (zw zl : List Int) (w : World) (hp : ParAt w b T k s) (hs : s.size ≤ maxLen) (hA : Lies w w.heap.size A n (zw.map (Value.int .i64))) (hB : Lies w w.heap.size B m (zl.map (Value.int .i64)))
    (hn : n ≤ 1099511627776) (hm : m ≤ 1099511627776) :
    Calls Tryd.prog 32 #[.pointer (some ⟨b, 0, none⟩), .slice A n c, .slice B m d] w (LayPost b T k s zw zl w) := by
  have HLN : Hid (zw.length = n) := by show _ = _; simpa using hA.1
  have HLM : Hid (zl.length = m) := by show _ = _; simpa using hB.1
  have cl := hp.load
  unfold maxLen at hs
  by_cases hnm : n = m
  · subst hnm
    by_cases hroom : s.size + n ≤ 505
    · have hne : ((n : Int) != (n : Int)) = false := by simp
      obtain ⟨i0, hi, hz0, hz1, hz2⟩ := info_parts infoByte
      have HP := Lib.hid hp
      clear hp
      go_enter Tryd.func32, Tryd.ntmps32
      go_wp2_with fail
      go_loopw [8, 33] (fun v i wr => ∃ j q : Nat, j ≤ n ∧ q ≤ 6 * j ∧ i = .int .i64 j ∧ wr.ownsRow w.heap.size 5 1 v q ((encZ ((zw.zip zl).take j)).map (Value.int .u8)) ∧ Hid (okZ ((zw.zip zl).take j) = true) ∧ Below w.heap.size w wr) (fun _ i _ => n - (intOf i).toNat)
      case atStart => exact ⟨0, 0, Nat.zero_le _, Nat.le_refl _, rfl, World.ownsRow_nil _ _ _ _, (by rfl : okZ ((zw.zip zl).take 0) = true), Below.refl _ _⟩
      case round =>
        clear cl
        obtain ⟨j, q, hj, hq, rfl, hown, hok, hb⟩ := hrel
        by_cases hlt : j < n
        · obtain ⟨ad, u, rfl, had, hu, hcell⟩ := (hA.below hb).at_ hlt
          obtain ⟨bd, v2, rfl, hbd, hv, hcellb⟩ := (hB.below hb).at_ hlt
          have hja : j < zw.length := by rw [HLN.out]; exact hlt
          have hjb : j < zl.length := by rw [HLM.out]; exact hlt
          obtain rfl : u = .int .i64 zw[j] := by
            rw [List.getElem?_map, List.getElem?_eq_getElem hja] at hu
            simpa using hu.symm
          obtain rfl : v2 = .int .i64 zl[j] := by
            rw [List.getElem?_map, List.getElem?_eq_getElem hjb] at hv
            simpa using hv.symm
          have HZ := Lib.hid (zip_take_succ hja hjb)
          have hsz := hb.size
          clear hu hv
          go_wp2_with fail
          refine (numPut_any zw[j] none (some ⟨wr.heap.size, 0, none⟩) 0 1 0 1 [] [zl[j]] _ Lies.nothing (lies_int wr 3 zl[j] rfl) (by omega) (by omega)).mono ?_
          intro e w1 hpost
          obtain ⟨hb1, hor⟩ := put_either hpost
          have hb01 : Below w.heap.size w w1 := (hb.alloc hsz _).trans (hb1.mono (by simp; omega))
          clear hpost
          rcases hor with ⟨hf, A1, c1, rfl, hl1⟩ | ⟨hf, rfl⟩
          · have hown1 := own_below (hown.alloc (.cells #[.int .i64 zl[j]] 3)) hb1
            have hw6 := (of_fitsB hf).1
            have HOK : Hid (okZ ((zw.zip zl).take (j + 1)) = true) := by
              show _ = _
              rw [HZ.out, okZ_snoc, hok.out, hf]
              rfl
            have HE : Hid (encZ ((zw.zip zl).take (j + 1)) = encZ ((zw.zip zl).take j) ++ enc zw[j].toNat zl[j]) := by
              show _ = _
              rw [HZ.out, encZ_snoc]
            have hlen : zw[j].toNat ≤ 6 := by omega
            generalize zw[j].toNat = X at *
            clear hb1 hown hb hf
            go_wp2_with (at_builtin; refine wpList_append_lies rfl _ _ 31 rfl w.heap.size 5 i0 (.int .u8 0) 1 Tryd.underlying31 hi hz0 hz1 hz2 rfl _ _ _ rfl hown1 w1.heap.size A1 X c1 _ rfl hl1 (ints_oneCell _ _) ?c1 ?c2 hb01.size ?_)
            case c1 => unfold maxLen; omega
            case c2 => omega
            intro v3 w3 hown3 hg3
            have hb03 : Below w.heap.size w w3 := hb01.grown hg3 hb01.size (fun i hi => (hown1.lt i hi).1)
            have hown4 : w3.ownsRow w.heap.size 5 1 v3 (q + X) ((encZ ((zw.zip zl).take (j + 1))).map (Value.int .u8)) := by
              rw [HE.out, List.map_append]
              exact hown3
            clear hown3 hg3 hown1 hb01 hl1
            go_wp2_with fail
            go_roundw
            case rel => exact ⟨j + 1, q + X, by omega, by omega, by go_num, hown4, HOK, hb03⟩
            case measure => simp [intOf]; omega
          · have HF := Lib.hid (layB_bad (s := s) (okZ_bad HZ.out hf))
            clear hf
            go_wp2_with fail
            go_ret
            exact layPost_no HF.out (Only.of_below hb01 b)
        · have hjn : j = n := by omega
          have hall : (zw.zip zl).take j = zw.zip zl := List.take_of_length_le (by rw [List.length_zip, HLN.out, HLM.out]; omega)
          rw [hall] at hown hok
          have hown' : wr.drew.ownsRow w.heap.size 5 1 _ q ((encZ (zw.zip zl)).map (Value.int .u8)) := hown
          have hconv := conv_own (P := Tryd.prog) 31 9 5 Tryd.underlying31 Tryd.underlying5 Tryd.underlying9 hown'
          have hpr : ParAt wr.drew b T k s := HP.out.below hb.drew HP.out.lt
          have cl := hpr.load
          have f1 := hpr.free 1
          have HY := Lib.hid (layB_yes (s := s) (by rw [HLN.out, HLM.out]) (by rw [HLM.out]; exact hroom) hok.out)
          have hsz := strOfNums_size (encZ (zw.zip zl))
          have hel := encZ_le hok.out
          have hzl : (zw.zip zl).length = n := by rw [List.length_zip, HLN.out, HLM.out]; omega
          have hadd : (strOfNums (encZ (zw.zip zl))).size + s.size ≤ 9223372036854775807 := by omega
          clear hown hown' hall hel hzl hjn
          generalize hZ : strOfNums (encZ (zw.zip zl)) = Z at *
          have HZ := Lib.hid hZ
          clear hZ
          go_wp2_with fail
          go_region
          go_wp2_with fail
          go_ret
          exact ⟨((Only.of_below hb b).setAt 1 _).drew', .inl ⟨HY.out, rfl, by
            rw [HZ.out]
            exact ParAt.drew' ((HP.out.below hb HP.out.lt).setLoad (Z ++ s))⟩⟩
    · have HN : Hid (layB s zw zl = false) := layB_no (by rw [HLM.out]; omega)
      have hroom' : 505 < s.size + n := by omega
      have hne : ((n : Int) != (n : Int)) = false := by simp
      clear hroom
      go_enter Tryd.func32, Tryd.ntmps32
      go_wp2_with fail
      go_ret
      exact layPost_no HN.out (Only.refl _ _)
  · have HN : Hid (layB s zw zl = false) := layB_no (by rw [HLN.out, HLM.out]; omega)
    have hne : ((n : Int) != (m : Int)) = true := by simp; omega
    clear hnm
    go_enter Tryd.func32, Tryd.ntmps32
    go_wp2_with fail
    go_ret
    exact layPost_no HN.out (Only.refl _ _)

/-- What Make answers. -/
def makeS (s : ByteArray) (zw zl : List Int) : ByteArray := strOfNums (encZ (zw.zip zl)) ++ s
def makeB (k : Int) (s : ByteArray) (zw zl : List Int) : Bool := decide (zw.length = zl.length) && okZ (zw.zip zl) && mayS k (makeS s zw zl)
def makeOut (k : Int) (s : ByteArray) (zw zl : List Int) : Ending := if makeB k s zw zl = true then .returned (.tuple #[.string (sealS k (makeS s zw zl)), .int .i64 0]) else .returned (.tuple #[.string ⟨#[]⟩, .int .i64 2])
theorem makeOut_yes {k : Int} {s : ByteArray} {zw zl : List Int} (h : makeB k s zw zl = true) : makeOut k s zw zl = .returned (.tuple #[.string (sealS k (makeS s zw zl)), .int .i64 0]) := if_pos h
theorem makeOut_no {k : Int} {s : ByteArray} {zw zl : List Int} (h : makeB k s zw zl = false) : makeOut k s zw zl = .returned (.tuple #[.string ⟨#[]⟩, .int .i64 2]) := if_neg (by rw [h]; simp)
theorem makeS_size (s : ByteArray) (zw zl : List Int) : (makeS s zw zl).size = (encZ (zw.zip zl)).length + s.size := by unfold makeS; rw [ByteArray.size_append, strOfNums_size]
theorem of_layB {s : ByteArray} {zw zl : List Int} (h : layB s zw zl = true) : zw.length = zl.length ∧ s.size + zl.length ≤ 505 ∧ okZ (zw.zip zl) = true := by
  unfold layB at h
  rw [Bool.and_eq_true, decide_eq_true_iff] at h
  exact ⟨h.1.1, h.1.2, h.2⟩
theorem makeB_iff {k : Int} {s : ByteArray} {zw zl : List Int} : makeB k s zw zl = true ↔ zw.length = zl.length ∧ okZ (zw.zip zl) = true ∧ mayS k (makeS s zw zl) = true := by
  unfold makeB
  rw [Bool.and_eq_true, Bool.and_eq_true, decide_eq_true_iff, and_assoc]
theorem makeB_lay {k : Int} {s : ByteArray} {zw zl : List Int} (h : makeB k s zw zl = true) : layB s zw zl = true := by
  obtain ⟨h1, h2, h3⟩ := makeB_iff.1 h
  have := (encZ_le h2).1
  have h4 := (of_mayS h3).2
  rw [makeS_size] at h4
  rw [List.length_zip] at this
  exact layB_yes h1 (by omega) h2
theorem makeB_no_lay {k : Int} {s : ByteArray} {zw zl : List Int} (h : layB s zw zl = false) : makeB k s zw zl = false := by
  rcases hh : makeB k s zw zl with _ | _
  · rfl
  · rw [makeB_lay hh] at h; cases h
theorem makeB_of_lay {k : Int} {s : ByteArray} {zw zl : List Int} (h : layB s zw zl = true) : makeB k s zw zl = mayS k (makeS s zw zl) := by
  obtain ⟨h1, h2, h3⟩ := of_layB h
  unfold makeB
  rw [decide_eq_true h1, h3]
  rfl

set_option maxRecDepth 100000 in
set_option maxHeartbeats 1000000 in
theorem Make_any (k : Int) (s : ByteArray) (A B : Option Addr) (n m c d : Nat) (zw zl : List Int) (w : World) (h1 : k ≤ 127) (hs : s.size ≤ 1099511627776) (hA : Lies w w.heap.size A n (zw.map (Value.int .i64))) (hB : Lies w w.heap.size B m (zl.map (Value.int .i64)))
    (hn : n ≤ 1099511627776) (hm : m ≤ 1099511627776) (ht : TabOk w) :
    Calls Tryd.prog 25 #[.int .i8 k, .string s, .slice A n c, .slice B m d] w fun e w' => e = makeOut k s zw zl ∧ Below w.heap.size w w' := by
  have p0 := ParAt.new w 58 k s
  have b0 : Below w.heap.size w (w.alloc (.cells #[.int .i8 k, .string s] 58)) := (Below.refl _ _).alloc (Nat.le_refl _) _
  have hM : s.size ≤ maxLen := by unfold maxLen; omega
  have hA0 := hA.alloc (.cells #[.int .i8 k, .string s] 58)
  have hB0 := hB.alloc (.cells #[.int .i8 k, .string s] 58)
  go_enter Tryd.func25, Tryd.ntmps25
  go_wp2_with fail
  refine (slay_any w.heap.size 58 k s A B n m c d zw zl _ p0 hM hA0 hB0 hn hm).mono ?_
  rintro e w1 ⟨ho, h⟩
  have hb1 := b0.trans (ho.below (by simp) (Nat.le_refl _))
  have ht1 := ht.below hb1
  clear ho p0 b0 hA0 hB0
  rcases h with ⟨hl, rfl, hp1⟩ | ⟨hl, rfl⟩
  · have ck := hp1.kind
    have cl := hp1.load
    have hsz : (strOfNums (encZ (zw.zip zl)) ++ s).size ≤ maxLen := by
      have := (encZ_le (of_layB hl).2.2).2
      have h2 := makeS_size s zw zl
      have h3 := (of_layB hl).2.1
      rw [List.length_zip] at this
      show (makeS s zw zl).size ≤ maxLen
      unfold maxLen
      omega
    have HMB := Lib.hid (makeB_of_lay (k := k) hl)
    have HZ : Hid (strOfNums (encZ (zw.zip zl)) ++ s = makeS s zw zl) := rfl
    clear hl
    rw [HZ.out] at cl hsz
    rw [HZ.out] at hp1
    go_wp2_with fail
    refine (pmay_any k (makeS s zw zl) w1 hsz).mono ?_
    rintro e w2 ⟨rfl, hb2⟩
    have hp2 := hp1.below hb2 hp1.lt
    have hb02 := hb1.trans (hb2.mono hb1.size)
    have ht2 := ht.below hb02
    have ck2 := hp2.kind
    have cl2 := hp2.load
    clear hb1 hb2 ht1 ck cl hp1 hp2
    by_cases hmay : mayS k (makeS s zw zl) = true
    · have HO := Lib.hid (makeOut_yes (HMB.out.trans hmay))
      have hm2 := of_mayS hmay
      rw [hmay]
      clear hmay
      go_wp2_with fail
      refine (sector_any k (makeS s zw zl) w2 hm2.1 h1 hm2.2 ht2).mono ?_
      rintro e w3 ⟨rfl, hb3⟩
      have hb03 := hb02.trans (hb3.mono hb02.size)
      clear hb02 hb3 ht2 ck2 cl2
      go_wp2_with fail
      go_ret2
      exact ⟨HO.out.symm, hb03⟩
    · have hmay' : mayS k (makeS s zw zl) = false := by simpa using hmay
      have HO := Lib.hid (makeOut_no (HMB.out.trans hmay'))
      rw [hmay']
      clear hmay hmay'
      go_wp2_with fail
      go_ret2
      exact ⟨HO.out.symm, hb02⟩
  · have HO := Lib.hid (makeOut_no (k := k) (makeB_no_lay hl))
    clear hl
    go_wp2_with fail
    go_ret2
    exact ⟨HO.out.symm, hb1⟩

end Go.Proofs.YtgllamjgagbblaaDoor
