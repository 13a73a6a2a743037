/-
  num and its reference: reading numbers, by contract.
-/
import Derived.Test.YtjdacpnfgpdjhaaDoorNumLeaf
import Derived.Lib.IndexBytes
namespace Go.Proofs.YtjdacpnfgpdjhaaDoor
open Go.RowKit
set_option linter.unusedVariables false
set_option linter.unusedSimpArgs false

/-- A string's bytes as numbers. -/
def bytesI (s : ByteArray) : List Int := s.data.toList.map fun b => (b.toNat : Int)
theorem bytesI_length (s : ByteArray) : (bytesI s).length = s.size := by simp [bytesI]
theorem bytesI_bytes (s : ByteArray) : IsBytes (bytesI s) := by
  intro b hb
  simp only [bytesI, List.mem_map] at hb
  obtain ⟨u, _, rfl⟩ := hb
  have := u.toNat_lt
  omega
theorem isBytes_take {l : List Int} (h : IsBytes l) (k : Nat) : IsBytes (l.take k) := fun b hb => h b (List.mem_of_mem_take hb)
theorem isBytes_drop {l : List Int} (h : IsBytes l) (k : Nat) : IsBytes (l.drop k) := fun b hb => h b (List.mem_of_mem_drop hb)

theorem or_i64_nat (a b : Nat) (ha : a < 9223372036854775808) (hb : b < 9223372036854775808) :
    bits .or .i64 (a : Int) (b : Int) = ((a ||| b : Nat) : Int) := by
  have hx : a ||| b < 2 ^ 63 := Nat.or_lt_two_pow (by omega) (by omega)
  have h1 : (BitVec.ofInt 64 (a : Int)).toNat = a := by
    rw [BitVec.ofInt_natCast, BitVec.toNat_ofNat]; exact Nat.mod_eq_of_lt (by omega)
  have h2 : (BitVec.ofInt 64 (b : Int)).toNat = b := by
    rw [BitVec.ofInt_natCast, BitVec.toNat_ofNat]; exact Nat.mod_eq_of_lt (by omega)
  show IntKind.i64.wrap ((BitVec.ofInt 64 (a : Int) ||| BitVec.ofInt 64 (b : Int)).toNat : Int) = _
  rw [BitVec.toNat_or, h1, h2, IntKind.wrap_i64]
  omega

theorem pw_two (k : Nat) : (2 : Int) ^ (8 * k) = pw k := by
  rw [Int.pow_mul]; rfl
theorem pw_nat (k : Nat) : pw k = ((256 ^ k : Nat) : Int) := by simp [pw]

/-- A byte laid at place k over a number of k bytes. -/
theorem or_place (k : Nat) (d b : Int) (hk : k ≤ 5) (hd0 : 0 ≤ d) (hd : d < pw k) (hb0 : 0 ≤ b) (hb : b < 256) :
    bits BinOp.or IntKind.i64 d (wrap64 (wrap64 b * 2 ^ (8 * k))) = d + b * pw k := by
  have hp := pw_pos k
  have hl := pw_le (k := k + 1) (by omega)
  rw [pw_succ] at hl
  have h0 : 0 ≤ b * pw k := Int.mul_nonneg hb0 (by omega)
  have h1 : b * pw k ≤ 255 * pw k := Int.mul_le_mul_of_nonneg_right (by omega) (by omega)
  rw [IntWalk.wrap64_in b (by omega), pw_two, IntWalk.wrap64_in (b * pw k) (by omega)]
  obtain ⟨D, rfl⟩ := Int.eq_ofNat_of_zero_le hd0
  obtain ⟨E, rfl⟩ := Int.eq_ofNat_of_zero_le hb0
  have e : ((E : Int) * pw k) = ((E * 256 ^ k : Nat) : Int) := by rw [pw_nat, Int.natCast_mul]
  rw [e] at h1 ⊢
  rw [or_i64_nat D (E * 256 ^ k) (by omega) (by omega), Nat.or_comm]
  have hj := nat_join (8 * k) (E * 256 ^ k) D (by rw [Nat.pow_mul]; exact Nat.mul_mod_left _ _) (by
    rw [Nat.pow_mul]
    have := pw_nat k
    show D < 256 ^ k
    omega)
  rw [hj]
  omega

theorem dec_take_succ (s : ByteArray) (k : Nat) (hk : k < s.size) : dec ((bytesI s).take (k + 1)) = dec ((bytesI s).take k) + (s[k].toNat : Int) * pw k := by
  have hl : k < (bytesI s).length := by rw [bytesI_length]; exact hk
  rw [List.take_succ_eq_append_getElem hl, dec_snoc, List.length_take, Nat.min_eq_left (by omega)]
  have e : (bytesI s)[k] = (s[k].toNat : Int) := by simp [bytesI]; rfl
  rw [e]; rfl

theorem dec_take_bd (s : ByteArray) (k : Nat) (hk : k ≤ s.size) : 0 ≤ dec ((bytesI s).take k) ∧ dec ((bytesI s).take k) < pw k := by
  have h := dec_bd (isBytes_take (bytesI_bytes s) k)
  rw [List.length_take, bytesI_length, Nat.min_eq_left hk] at h
  exact h

set_option maxRecDepth 100000 in
theorem get_any (X : Nat) (s : ByteArray) (w : World) (hX : X ≤ 6) (hs : X ≤ s.size) (hm : s.size ≤ maxLen) :
    Calls Tryd.prog 91 #[.int .i64 X, .string s] w fun e w' =>
      e = .returned (.tuple #[.int .i64 (dec ((bytesI s).take X)), .bool (fitsB X (dec ((bytesI s).take X)))]) ∧ w = w' := by
  unfold maxLen at hm
  go_enter Tryd.func91, Tryd.ntmps91
  go_wp2
  go_loop [4, 8] (fun n i => ∃ k : Nat, k ≤ X ∧ i = .int .i64 k ∧ n = .int .i64 (dec ((bytesI s).take k))) (fun _ i => X - (intOf i).toNat)
  case atStart => exact ⟨0, Nat.zero_le _, rfl, rfl⟩
  case round =>
    obtain ⟨k, hk, rfl, rfl⟩ := hrel
    by_cases hlt : k < X
    · have hks : k < s.size := by omega
      have hbd := dec_take_bd s k (by omega)
      have hby := s[k].toNat_lt
      have HS : Hid (bits BinOp.or IntKind.i64 (dec ((bytesI s).take k)) (wrap64 (wrap64 (s[k].toNat : Int) * 2 ^ (8 * k))) = dec ((bytesI s).take (k + 1))) := by
        show _ = _
        rw [dec_take_succ s k hks]
        exact or_place k _ _ (by omega) hbd.1 hbd.2 (by omega) (by omega)
      clear hbd hby
      go_wp2
      refine ⟨⟨k + 1, by omega, by go_num, by rw [HS.out]⟩, ?_⟩
      simp [intOf]; omega
    · obtain rfl : k = X := by omega
      go_wp2_with fail
      refine (fits_any _ _ _).mono ?_
      rintro e w1 ⟨rfl, rfl⟩
      go_wp2_with fail
      go_ret2
      exact ⟨rfl, rfl⟩

/-- What Get answers: the number and the error. -/
def getVal (s : List Int) (a x : Int) : Int := if mayB x = true ∧ 0 ≤ a ∧ a + x ≤ s.length ∧ fitsB x (dec ((s.drop a.toNat).take x.toNat)) = true then dec ((s.drop a.toNat).take x.toNat) else 0
def getErr (s : List Int) (a x : Int) : Int := if mayB x = false then 2 else if 0 ≤ a ∧ a + x ≤ s.length ∧ fitsB x (dec ((s.drop a.toNat).take x.toNat)) = true then 0 else 10
def getOut (s : List Int) (a x : Int) : Ending := .returned (.tuple #[.int .i64 (getVal s a x), .int .i64 (getErr s a x)])

theorem getOut_width {s : List Int} {a x : Int} (h : mayB x = false) : getOut s a x = .returned (.tuple #[.int .i64 0, .int .i64 2]) := by
  simp [getOut, getVal, getErr, h]
theorem getOut_out {s : List Int} {a x : Int} (hx : mayB x = true) (h : ¬ (0 ≤ a ∧ a + x ≤ s.length)) : getOut s a x = .returned (.tuple #[.int .i64 0, .int .i64 10]) := by
  have e1 : getVal s a x = 0 := by unfold getVal; rw [if_neg (fun k => h ⟨k.2.1, k.2.2.1⟩)]
  have e2 : getErr s a x = 10 := by unfold getErr; rw [hx, if_neg (by simp), if_neg (fun k => h ⟨k.1, k.2.1⟩)]
  rw [getOut, e1, e2]
theorem getOut_great {s : List Int} {a x : Int} (hx : mayB x = true) (h : fitsB x (dec ((s.drop a.toNat).take x.toNat)) = false) : getOut s a x = .returned (.tuple #[.int .i64 0, .int .i64 10]) := by
  have e1 : getVal s a x = 0 := by unfold getVal; rw [if_neg (fun k => by rw [h] at k; exact absurd k.2.2.2 (by simp))]
  have e2 : getErr s a x = 10 := by unfold getErr; rw [hx, if_neg (by simp), if_neg (fun k => by rw [h] at k; exact absurd k.2.2 (by simp))]
  rw [getOut, e1, e2]
theorem getOut_yes {s : List Int} {a x : Int} (hx : mayB x = true) (h0 : 0 ≤ a) (h1 : a + x ≤ s.length) (h : fitsB x (dec ((s.drop a.toNat).take x.toNat)) = true) :
    getOut s a x = .returned (.tuple #[.int .i64 (dec ((s.drop a.toNat).take x.toNat)), .int .i64 0]) := by
  have e1 : getVal s a x = dec ((s.drop a.toNat).take x.toNat) := by unfold getVal; rw [if_pos ⟨hx, h0, h1, h⟩]
  have e2 : getErr s a x = 0 := by unfold getErr; rw [hx, if_neg (by simp), if_pos ⟨h0, h1, h⟩]
  rw [getOut, e1, e2]

theorem bytesI_extract (s : ByteArray) (a : Nat) : bytesI (s.extract a s.size) = (bytesI s).drop a := by
  unfold bytesI
  rw [Lib.extract_to_end]
  simp [List.map_drop]

set_option maxRecDepth 100000 in
theorem numGet_any (s : ByteArray) (a x : Int) (w : World) (hm : s.size ≤ maxLen) (ha : a ≤ 9223372036854775807) (ha' : -9223372036854775808 ≤ a) :
    Calls Tryd.prog 81 #[.string s, .int .i64 a, .int .i64 x] w fun e w' => e = getOut (bytesI s) a x ∧ w = w' := by
  have hM := Lib.hid hm
  unfold maxLen at hm
  by_cases hx : mayB x = true
  · obtain ⟨h1, h2⟩ := of_mayB hx
    have HX := Lib.hid hx
    clear hx
    by_cases h0 : 0 ≤ a
    · by_cases hl : a + x ≤ s.size
      · obtain ⟨X, rfl⟩ := Int.eq_ofNat_of_zero_le (show 0 ≤ x by omega)
        obtain ⟨A, rfl⟩ := Int.eq_ofNat_of_zero_le h0
        have hAs : A + X ≤ s.size := by omega
        have hX2 : X ≤ 6 := by omega
        go_enter Tryd.func81, Tryd.ntmps81
        go_wp2_with fail
        refine (nmay_any _ _).mono ?_
        rintro e w1 ⟨rfl, rfl⟩
        rw [HX.out]
        go_wp2_with fail
        refine (get_any X (s.extract A s.size) _ hX2 (by rw [ByteArray.size_extract]; omega) (by have := hM.out; rw [ByteArray.size_extract]; omega)).mono ?_
        rintro e w1 ⟨rfl, rfl⟩
        rw [bytesI_extract]
        have eA : ((A : Int)).toNat = A := rfl
        have eX : ((X : Int)).toNat = X := rfl
        by_cases hf : fitsB X (dec (((bytesI s).drop A).take X)) = true
        · have HF : Hid (getOut (bytesI s) A X = .returned (.tuple #[.int .i64 (dec (((bytesI s).drop A).take X)), .int .i64 0])) := getOut_yes HX.out h0 (by rw [bytesI_length]; omega) hf
          rw [hf]
          generalize dec (((bytesI s).drop A).take X) = N at *
          clear hf
          go_wp2_with fail
          go_ret2
          exact ⟨HF.out.symm, rfl⟩
        · have hf' : fitsB X (dec (((bytesI s).drop A).take X)) = false := by simpa using hf
          have HF : Hid (getOut (bytesI s) A X = .returned (.tuple #[.int .i64 0, .int .i64 10])) := getOut_great HX.out hf'
          rw [hf']
          generalize dec (((bytesI s).drop A).take X) = N at *
          clear hf hf'
          go_wp2_with fail
          go_ret2
          exact ⟨HF.out.symm, rfl⟩
      · have hl' : (s.size : Int) - a < x := by omega
        go_enter Tryd.func81, Tryd.ntmps81
        go_wp2_with fail
        refine (nmay_any _ _).mono ?_
        rintro e w1 ⟨rfl, rfl⟩
        rw [HX.out]
        go_wp2_with fail
        go_ret2
        exact ⟨(getOut_out HX.out (by rw [bytesI_length]; omega)).symm, rfl⟩
    · have h0' : a < 0 := by omega
      go_enter Tryd.func81, Tryd.ntmps81
      go_wp2_with fail
      refine (nmay_any _ _).mono ?_
      rintro e w1 ⟨rfl, rfl⟩
      rw [HX.out]
      go_wp2_with fail
      go_ret2
      exact ⟨(getOut_out HX.out (by omega)).symm, rfl⟩
  · have hx' : mayB x = false := by simpa using hx
    have HX := Lib.hid hx'
    clear hx hx'
    go_enter Tryd.func81, Tryd.ntmps81
    go_wp2_with fail
    refine (nmay_any _ _).mono ?_
    rintro e w1 ⟨rfl, rfl⟩
    rw [HX.out]
    go_wp2_with fail
    go_ret2
    exact ⟨(getOut_width HX.out).symm, rfl⟩

/-- The reference's reading goes from the last byte on. -/
theorem dec_back (l : List Int) (j : Nat) (hj : j < l.length) : dec (l.drop j) = dec (l.drop (j + 1)) * 256 + l[j] := by
  rw [List.drop_eq_getElem_cons hj]
  simp only [dec]
  omega

theorem le_of_fits {l : List Int} {x : Int} (hx : mayB x = true) (hl : IsBytes l) (hn : l.length = x.toNat) : fitsB x (dec l) = decide (dec l ≤ 1099511627776) := by
  obtain ⟨h1, h2⟩ := of_mayB hx
  have hb := dec_bd hl
  rw [hn] at hb
  by_cases h : dec l ≤ 1099511627776
  · rw [fitsB_yes h1 h2 hb.1 (le_mostOf h1 h2 hb.2 h)]; simp [h]
  · have : ¬ fitsB x (dec l) = true := fun k => h (Int.le_trans (of_fitsB k).2.2 mostOf_le)
    simp [h, this]

set_option maxRecDepth 100000 in
theorem refGet_any (s : ByteArray) (a x : Int) (w : World) (hm : s.size ≤ maxLen) (ha : a ≤ 9223372036854775807) (ha' : -9223372036854775808 ≤ a) :
    Calls Tryd.prog 42 #[.string s, .int .i64 a, .int .i64 x] w fun e w' => e = getOut (bytesI s) a x ∧ w = w' := by
  have hM := Lib.hid hm
  unfold maxLen at hm
  by_cases hx : mayB x = true
  · obtain ⟨h1, h2⟩ := of_mayB hx
    have HX := Lib.hid hx
    have hm0 : 0 ≤ mostOf x := by rcases width_cases h1 h2 with rfl | rfl | rfl | rfl | rfl | rfl <;> decide
    clear hx
    by_cases h0 : 0 ≤ a
    · by_cases hl : a + x ≤ s.size
      · obtain ⟨X, rfl⟩ := Int.eq_ofNat_of_zero_le (show 0 ≤ x by omega)
        obtain ⟨A, rfl⟩ := Int.eq_ofNat_of_zero_le h0
        have hAs : A + X ≤ s.size := by omega
        have hX2 : X ≤ 6 := by omega
        generalize hL : ((bytesI s).drop A).take X = L at *
        have hLl : L.length = X := by rw [← hL, List.length_take, List.length_drop, bytesI_length]; omega
        have hLb : IsBytes L := by rw [← hL]; exact isBytes_take (isBytes_drop (bytesI_bytes s) A) X
        have hge : decide (s.size < A) = false := by simp; omega
        have HL := Lib.hid hL
        have HLl := Lib.hid hLl
        clear hL hLl
        go_enter Tryd.func42, Tryd.ntmps42
        go_wp2_with fail
        refine (most_yes _ _ h1 h2).mono ?_
        rintro e w1 ⟨rfl, rfl⟩
        go_wp2_with fail
        go_loop [8, 9] (fun n i => ∃ j : Nat, j ≤ X ∧ i = .int .i64 ((j : Int) - 1) ∧ n = .int .i64 (dec (L.drop j))) (fun _ i => (intOf i + 1).toNat)
        case atStart => exact ⟨X, Nat.le_refl _, rfl, by rw [List.drop_of_length_le (by rw [HLl.out]; exact Nat.le_refl _)]; rfl⟩
        case round =>
          obtain ⟨j, hj, rfl, rfl⟩ := hrel
          by_cases hj0 : 1 ≤ j
          · obtain ⟨i, rfl⟩ : ∃ i, j = i + 1 := ⟨j - 1, by omega⟩
            have hiL : i < L.length := by rw [HLl.out]; omega
            have his : A + i < s.size := by omega
            have hd := dec_bd (isBytes_drop hLb (i + 1))
            have hd0 := hd.1
            have hd1 : dec (L.drop (i + 1)) ≤ 1099511627776 := by
              have h := hd.2
              rw [List.length_drop, HLl.out] at h
              have h5 : X - (i + 1) ≤ 5 := by omega
              have := pw_le (k := X - (i + 1) + 1) (by omega)
              rw [pw_succ] at this
              have h' : dec (L.drop (i + 1)) < pw (X - (i + 1)) := h
              omega
            have HS : Hid (dec (L.drop (i + 1)) * 256 + (s[A + i].toNat : Int) = dec (L.drop i)) := by
              show _ = _
              rw [dec_back L i hiL]
              congr 1
              have e := HL.out
              have e2 : L[i]? = some (s[A + i].toNat : Int) := by
                rw [← e, List.getElem?_take, if_pos (by omega), List.getElem?_drop]
                simp [bytesI, his]
                rfl
              rw [List.getElem?_eq_getElem hiL] at e2
              exact (Option.some.inj e2).symm
            have hby := s[A + i].toNat_lt
            clear hd
            go_wp2
            go_round
            case rel => exact ⟨i, by omega, rfl, by rw [HS.out]⟩
            case measure => simp [intOf]
          · obtain rfl : j = 0 := by omega
            rw [List.drop_zero]
            have hfits := le_of_fits HX.out hLb (by rw [HLl.out]; rfl)
            by_cases hle : dec L ≤ 1099511627776
            · have HF : Hid (getOut (bytesI s) A X = .returned (.tuple #[.int .i64 (dec L), .int .i64 0])) := by
                have h := getOut_yes (s := bytesI s) (a := A) (x := X) HX.out h0 (by rw [bytesI_length]; omega)
                rw [show ((A : Int)).toNat = A from rfl, show ((X : Int)).toNat = X from rfl, HL.out] at h
                exact h (by rw [hfits]; simp [hle])
              clear hfits
              go_wp2
              go_ret2
              exact ⟨HF.out.symm, rfl⟩
            · have HF : Hid (getOut (bytesI s) A X = .returned (.tuple #[.int .i64 0, .int .i64 10])) := by
                have h := getOut_great (s := bytesI s) (a := A) (x := X) HX.out
                rw [show ((A : Int)).toNat = A from rfl, show ((X : Int)).toNat = X from rfl, HL.out] at h
                exact h (by rw [hfits]; simp [hle])
              clear hfits
              go_wp2
              go_ret2
              exact ⟨HF.out.symm, rfl⟩
      · have hl' : (s.size : Int) - a < x := by omega
        by_cases hg : (s.size : Int) < a
        all_goals
          go_enter Tryd.func42, Tryd.ntmps42
          go_wp2_with fail
          refine (most_yes _ _ h1 h2).mono ?_
          rintro e w1 ⟨rfl, rfl⟩
          go_wp2_with fail
          go_ret2
          exact ⟨(getOut_out HX.out (by rw [bytesI_length]; omega)).symm, rfl⟩
    · have h0' : a < 0 := by omega
      go_enter Tryd.func42, Tryd.ntmps42
      go_wp2_with fail
      refine (most_yes _ _ h1 h2).mono ?_
      rintro e w1 ⟨rfl, rfl⟩
      go_wp2_with fail
      go_ret2
      exact ⟨(getOut_out HX.out (by omega)).symm, rfl⟩
  · have hx' : mayB x = false := by simpa using hx
    have HX := Lib.hid hx'
    have HN := Lib.hid (not_mayB hx')
    clear hx hx'
    go_enter Tryd.func42, Tryd.ntmps42
    go_wp2_with fail
    refine (most_no _ _ HN.out).mono ?_
    rintro e w1 ⟨rfl, rfl⟩
    go_wp2_with fail
    go_ret2
    exact ⟨(getOut_width HX.out).symm, rfl⟩

end Go.Proofs.YtjdacpnfgpdjhaaDoor
