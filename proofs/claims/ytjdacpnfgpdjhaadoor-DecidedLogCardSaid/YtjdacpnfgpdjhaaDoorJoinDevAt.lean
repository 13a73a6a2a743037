/- Joined: NumLeaf, NumPut, NumRefPut, GeoBytes, DevAt. -/
import Derived.Test.YtjdacpnfgpdjhaaDoorRows
import Derived.Test.YtjdacpnfgpdjhaaDoorMem
import Derived.Test.YtjdacpnfgpdjhaaDoorAid
import Derived.WalkKit
import Derived.Lib.Hide
import Derived.WalkLawsBesides
import Derived.WalkSpells
import Derived.Test.YtjdacpnfgpdjhaaDoorDevMath
/-
  num and its reference: the calls that only reckon with numbers, each by its contract.
-/
namespace Go.Proofs.YtjdacpnfgpdjhaaDoor
open Go.RowKit
set_option linter.unusedVariables false
set_option linter.unusedSimpArgs false

theorem nmay_any (x : Int) (w : World) :
    Calls Tryd.prog 82 #[.int .i64 x] w fun e w' => e = .returned (.bool (mayB x)) ∧ w = w' := by
  go_enter Tryd.func82, Tryd.ntmps82
  go_wp2
  · have h : 1 ≤ x := by assumption
    go_ret
    exact ⟨ret_bool (by simp [mayB, h]), rfl⟩
  · have h : x < 1 := by assumption
    go_ret
    exact ⟨ret_bool (mayB_no (.inl h)).symm, rfl⟩

theorem greatest_any (x : Int) (w : World) (h1 : 1 ≤ x) (h2 : x ≤ 6) :
    Calls Tryd.prog 92 #[.int .i64 x] w fun e w' => e = .returned (.int .i64 (mostOf x)) ∧ w = w' := by
  rcases width_cases h1 h2 with rfl | rfl | rfl | rfl | rfl | rfl
  all_goals
    go_enter Tryd.func92, Tryd.ntmps92
    go_wp2
    go_ret
    exact ⟨rfl, rfl⟩

theorem fits_any (x n : Int) (w : World) :
    Calls Tryd.prog 83 #[.int .i64 x, .int .i64 n] w fun e w' => e = .returned (.bool (fitsB x n)) ∧ w = w' := by
  by_cases h : mayB x = true
  · obtain ⟨h1, h2⟩ := of_mayB h
    have H := Lib.hid h
    by_cases h0 : 0 ≤ n
    · clear h
      go_enter Tryd.func83, Tryd.ntmps83
      go_wp2_with fail
      refine (nmay_any x _).mono ?_
      rintro e w1 ⟨rfl, rfl⟩
      rw [H.out]
      go_wp2_with fail
      refine (greatest_any x _ h1 h2).mono ?_
      rintro e w1 ⟨rfl, rfl⟩
      go_wp2_with fail
      go_ret
      exact ⟨ret_bool (by simp [fitsB, H.out, h0]), rfl⟩
    · have h0' : n < 0 := by omega
      have hd : decide (0 ≤ n) = false := by simp; omega
      clear h h0
      go_enter Tryd.func83, Tryd.ntmps83
      go_wp2_with fail
      refine (nmay_any x _).mono ?_
      rintro e w1 ⟨rfl, rfl⟩
      rw [H.out]
      go_wp2_with fail
      go_ret
      exact ⟨ret_bool (by simp [fitsB, hd]), rfl⟩
  · have h' : mayB x = false := by simpa using h
    have H := Lib.hid h'
    clear h h'
    go_enter Tryd.func83, Tryd.ntmps83
    go_wp2_with fail
    refine (nmay_any x _).mono ?_
    rintro e w1 ⟨rfl, rfl⟩
    rw [H.out]
    go_wp2_with fail
    go_ret
    exact ⟨ret_bool (by simp [fitsB, H.out]), rfl⟩

/-- The reference's greatest number; -1 of no width. -/
theorem most_yes (x : Int) (w : World) (h1 : 1 ≤ x) (h2 : x ≤ 6) :
    Calls Tryd.prog 62 #[.int .i64 x] w fun e w' => e = .returned (.int .i64 (mostOf x)) ∧ w = w' := by
  obtain ⟨X, rfl⟩ := Int.eq_ofNat_of_zero_le (show 0 ≤ x by omega)
  have hX1 : 1 ≤ X := by omega
  have hX2 : X ≤ 6 := by omega
  have hm := Lib.hid (min_pw h1 h2)
  go_enter Tryd.func62, Tryd.ntmps62
  go_wp2
  go_loop [3, 4] (fun n i => ∃ k : Nat, k ≤ X ∧ i = .int .i64 k ∧ n = .int .i64 (pw k)) (fun _ i => X - (intOf i).toNat)
  case atStart => exact ⟨0, Nat.zero_le _, rfl, rfl⟩
  case round =>
    obtain ⟨k, hk, rfl, rfl⟩ := hrel
    have hp := pw_pos k
    have hl := pw_le (k := k) (by omega)
    have hs := Lib.hid (pw_succ k)
    by_cases hlt : k < X
    · have hl5 : pw k ≤ 1099511627776 := by
        have := pw_le (k := k + 1) (by omega)
        rw [pw_succ] at this
        omega
      go_wp2
      go_round
      case rel => exact ⟨k + 1, by omega, by go_num, by rw [hs.out]⟩
      case measure => simp [intOf]; omega
    · have hkx : k = X := by omega
      subst hkx
      rw [Int.toNat_natCast] at hm
      by_cases hmn : pw k - 1 ≤ 1099511627776
      · go_wp2
        go_ret
        exact ⟨ret_int (by rw [hm.out, if_pos hmn]), rfl⟩
      · go_wp2
        go_ret
        exact ⟨ret_int (by rw [hm.out, if_neg (by omega)]), rfl⟩

theorem most_no (x : Int) (w : World) (h : x < 1 ∨ 6 < x) :
    Calls Tryd.prog 62 #[.int .i64 x] w fun e w' => e = .returned (.int .i64 (-1)) ∧ w = w' := by
  rcases h with h | h
  · go_enter Tryd.func62, Tryd.ntmps62
    go_wp2
    go_ret
    exact ⟨rfl, rfl⟩
  · have h' : ¬ x < 1 := by omega
    go_enter Tryd.func62, Tryd.ntmps62
    go_wp2
    go_ret
    exact ⟨rfl, rfl⟩

theorem refFits_any (x n : Int) (w : World) :
    Calls Tryd.prog 64 #[.int .i64 n, .int .i64 x] w fun e w' => e = .returned (.bool (fitsB x n)) ∧ w = w' := by
  by_cases h0 : 0 ≤ n
  · by_cases h : mayB x = true
    · obtain ⟨h1, h2⟩ := of_mayB h
      have H := Lib.hid h
      clear h
      go_enter Tryd.func64, Tryd.ntmps64
      go_wp2_with fail
      refine (most_yes x _ h1 h2).mono ?_
      rintro e w1 ⟨rfl, rfl⟩
      go_wp2_with fail
      go_ret
      exact ⟨ret_bool (by simp [fitsB, H.out, h0]), rfl⟩
    · have h' : mayB x = false := by simpa using h
      have hx := not_mayB h'
      have H := Lib.hid h'
      have HX := Lib.hid hx
      clear h h' hx
      go_enter Tryd.func64, Tryd.ntmps64
      go_wp2_with fail
      refine (most_no x _ HX.out).mono ?_
      rintro e w1 ⟨rfl, rfl⟩
      go_wp2_with fail
      go_ret
      exact ⟨ret_bool (by simp [fitsB, H.out]; omega), rfl⟩
  · have h0' : n < 0 := by omega
    have hd : decide (0 ≤ n) = false := by simp; omega
    clear h0
    go_enter Tryd.func64, Tryd.ntmps64
    go_wp2_with fail
    go_ret
    exact ⟨ret_bool (by simp [fitsB, hd]), rfl⟩

end Go.Proofs.YtjdacpnfgpdjhaaDoor

/-
  num: putting numbers, by contract.
-/
namespace Go.Proofs.YtjdacpnfgpdjhaaDoor
open Go.RowKit
set_option linter.unusedVariables false
set_option linter.unusedSimpArgs false

theorem infoByte : (Tryd.prog.info? 5).map (fun i => (i.zero, i.size, i.bytes)) = some (some (.int .u8 0), 1, 1) := by kernel_rfl
theorem infoInt : (Tryd.prog.info? 3).map (fun i => (i.zero, i.size, i.bytes)) = some (some (.int .i64 0), 1, 8) := by kernel_rfl

set_option maxRecDepth 100000 in
/-- The method put: the bytes of one number behind what is owned. -/
theorem put_any (base : Nat) (W : Nat) (v : Value) (n : Nat) (xs : List Value) (x : Int) (w : World) (hW : W ≤ 6) (hx0 : 0 ≤ x) (hx1 : x ≤ 1099511627776) (hn : n ≤ 17592186044416)
    (hbase : base ≤ w.heap.size) (hown : w.ownsRow base 5 1 v n xs) :
    Calls Tryd.prog 84 #[.int .i64 W, v, .int .i64 x] w fun e w' =>
      ∃ v', e = .returned v' ∧ w'.ownsRow base 5 1 v' (n + W) (xs ++ (enc W x).map (Value.int .u8)) ∧ Below base w w' := by
  obtain ⟨i0, hi, hz0, hz1, hz2⟩ := info_parts infoByte
  go_enter Tryd.func84, Tryd.ntmps84
  go_wp2
  go_loopw [1, 2, 8] (fun u q i wr => ∃ k : Nat, k ≤ W ∧ i = .int .i64 k ∧ q = .int .i64 (x / pw k) ∧ wr.ownsRow base 5 1 u (n + k) (xs ++ (enc k x).map (Value.int .u8)) ∧ Below base w wr) (fun _ _ i _ => W - (intOf i).toNat)
  case atStart => exact ⟨0, Nat.zero_le _, rfl, by rw [pw_zero]; simp, by simpa [enc] using hown, Below.refl _ _⟩
  case round =>
    obtain ⟨k, hk, rfl, rfl, hownr, hb⟩ := hrel
    by_cases hlt : k < W
    · have hsz := hb.size
      go_wp2_with (at_builtin; refine wpList_append_own _ rfl _ _ 50 rfl base 5 i0 (.int .u8 0) 1 1 Tryd.underlying50 hi hz0 hz1 hz2 rfl (by decide) _ _ _ rfl (hownr.alloc _) ⟨wr.heap.size, 0, none⟩ 1 1 [_] rfl rfl (cell_new _ _ _) (one_int _ _) ?c1 ?c2 ?c3 ?_)
      case c1 => unfold maxLen; omega
      case c2 => omega
      case c3 => simp; omega
      intro v' w1 hown' hgrow _
      have hstep := Lib.hid (pw_step x k)
      have hown2 : w1.ownsRow base 5 1 v' (n + (k + 1)) (xs ++ (enc (k + 1) x).map (Value.int .u8)) := by
        rw [enc_succ, List.map_append]
        exact hown'
      have hb2 : Below base w w1 := (hb.alloc (by omega) _).grown hgrow (by simp; omega) (fun j hj => (hownr.lt j hj).1)
      have hq : 0 ≤ x / pw k := Int.ediv_nonneg hx0 (by have := pw_pos k; omega)
      clear hown' hgrow hownr hb
      go_wp2
      go_roundw
      case rel => exact ⟨k + 1, by omega, by go_num, by rw [← hstep.out], hown2, hb2⟩
      case measure => simp [intOf]; omega
    · go_wp2
      go_ret
      obtain rfl : k = W := by omega
      exact ⟨_, rfl, hownr, hb⟩

/-- What Put comes to. -/
def PutPost (x : Int) (zb zl : List Int) (w : World) (e : Ending) (w' : World) : Prop :=
  Below w.heap.size w w' ∧ (((mayB x && zl.all (fitsB x)) = false ∧ e = .returned (.tuple #[.slice none 0 0, .int .i64 2])) ∨
    ((mayB x && zl.all (fitsB x)) = true ∧ ∃ v, e = .returned (.tuple #[v, .int .i64 0]) ∧ w'.ownsRow w.heap.size 5 1 v (zb.length + x.toNat * zl.length) ((zb ++ encs x.toNat zl).map (Value.int .u8))))

theorem putPost_width {x : Int} {zb zl : List Int} {w w' : World} (h : mayB x = false) (hb : Below w.heap.size w w') : PutPost x zb zl w (.returned (.tuple #[.slice none 0 0, .int .i64 2])) w' :=
  ⟨hb, .inl ⟨by simp [h], rfl⟩⟩
theorem putPost_bad {x : Int} {zb zl : List Int} {w w' : World} {k : Nat} (hk : k < zl.length) (h : fitsB x zl[k] = false) (hb : Below w.heap.size w w') : PutPost x zb zl w (.returned (.tuple #[.slice none 0 0, .int .i64 2])) w' := by
  refine ⟨hb, .inl ⟨?_, rfl⟩⟩
  rw [Bool.and_eq_false_iff]
  right
  rw [List.all_eq_false]
  exact ⟨zl[k], List.getElem_mem hk, by simp [h]⟩
theorem putPost_good {x : Int} {zb zl : List Int} {w w' : World} {v : Value} (hx : mayB x = true) (h : zl.all (fitsB x) = true) (hb : Below w.heap.size w w')
    (hown : w'.ownsRow w.heap.size 5 1 v (zb.length + x.toNat * zl.length) ((zb ++ encs x.toNat zl).map (Value.int .u8))) : PutPost x zb zl w (.returned (.tuple #[v, .int .i64 0])) w' :=
  ⟨hb, .inr ⟨by simp [hx]; simpa using h, v, rfl, hown⟩⟩

theorem take_all_succ {α : Type} {p : α → Bool} {l : List α} {k : Nat} (hk : k < l.length) (h : (l.take k).all p = true) (hp : p l[k] = true) : (l.take (k + 1)).all p = true := by
  rw [List.take_succ_eq_append_getElem hk, List.all_append, h]
  simp [hp]

theorem sizeByte : (Tryd.prog.info? 5).map (·.size) = some 1 := by kernel_rfl

/-- What a copy to a row's head has laid is owned. -/
theorem own_of_row {w : World} {g n cap : Nat} {e : TypeId} {z : Value} {cs : List Value} (h : w.heap[g]? = some (.cells (splice (zeros cap z) 0 cs).toArray e (0, 0))) (hl : cs.length = n) (hc : n ≤ cap) (hm : cap ≤ maxLen) :
    w.ownsRow g e 1 (.slice (some ⟨g, 0, none⟩) n cap) n cs := by
  refine ⟨by omega, .inr ⟨g, cap, _, rfl, Nat.le_refl _, h, hc, hm, ?_, ?_⟩⟩
  · simp [splice, zeros]; omega
  · simp [splice, ← hl]

set_option maxRecDepth 100000 in
set_option maxHeartbeats 1000000 in
theorem numPut_any (x : Int) (A B : Option Addr) (n m c d : Nat) (zb zl : List Int) (w : World) (hA : Lies w w.heap.size A n (zb.map (Value.int .u8))) (hB : Lies w w.heap.size B m (zl.map (Value.int .i64)))
    (hn : n ≤ 1099511627776) (hm : m ≤ 1099511627776) :
    Calls Tryd.prog 60 #[.slice A n c, .int .i64 x, .slice B m d] w (PutPost x zb zl w) := by
  have hln : zb.length = n := by simpa using hA.1
  have hlm : zl.length = m := by simpa using hB.1
  have HLN := Lib.hid hln
  have HLM := Lib.hid hlm
  by_cases hx : mayB x = true
  · obtain ⟨h1, h2⟩ := of_mayB hx
    obtain ⟨X, rfl⟩ := Int.eq_ofNat_of_zero_le (show 0 ≤ x by omega)
    have HX := Lib.hid hx
    have hX1 : 1 ≤ X := by omega
    have hX2 : X ≤ 6 := by omega
    have hXm : X * m ≤ 6597069766656 := by have := Nat.mul_le_mul hX2 hm; omega
    have hXi0 : (0 : Int) ≤ (X : Int) * (m : Int) := by rw [← Int.natCast_mul]; omega
    have hXi1 : (X : Int) * (m : Int) ≤ 6597069766656 := by rw [← Int.natCast_mul]; omega
    obtain ⟨i0, hi, hz0, hz1, hz2⟩ := info_parts infoByte
    clear hx hln hlm
    go_enter Tryd.func60, Tryd.ntmps60
    go_wp2_with fail
    refine (nmay_any _ _).mono ?_
    rintro e w1 ⟨rfl, rfl⟩
    rw [HX.out]
    go_wp2_with fail
    go_loop [20] (fun i => ∃ k : Nat, k ≤ m ∧ i = .int .i64 k ∧ (zl.take k).all (fitsB X) = true) (fun i => m - (intOf i).toNat)
    case atStart => exact ⟨0, Nat.zero_le _, rfl, by simp⟩
    case round =>
      obtain ⟨k, hk, rfl, hall⟩ := hrel
      have HALL := Lib.hid hall
      clear hall
      by_cases hlt : k < m
      · obtain ⟨ad, u, rfl, had, hu, hcell⟩ := hB.at_ hlt
        have hkl : k < zl.length := by rw [HLM.out]; exact hlt
        obtain rfl : u = .int .i64 zl[k] := by
          rw [List.getElem?_map, List.getElem?_eq_getElem hkl] at hu
          simpa using hu.symm
        clear hu
        go_wp2_with fail
        refine (fits_any _ _ _).mono ?_
        rintro e w1 ⟨rfl, rfl⟩
        by_cases hf : fitsB X zl[k] = true
        · rw [hf]
          have HALL2 := Lib.hid (take_all_succ hkl HALL.out hf)
          clear hf
          go_wp2_with fail
          go_round
          case rel => exact ⟨k + 1, by omega, by go_num, HALL2.out⟩
          case measure => simp [intOf]; omega
        · have hf' : fitsB X zl[k] = false := by simpa using hf
          rw [hf']
          have HF := Lib.hid hf'
          clear hf hf'
          go_wp2_with fail
          go_ret2
          exact putPost_bad hkl HF.out (Below.refl _ _)
      · have hkm : k = m := by omega
        have HFULL : Hid (zl.all (fitsB X) = true) := by
          have h := HALL.out
          rw [hkm, List.take_of_length_le (by rw [HLM.out]; exact Nat.le_refl _)] at h
          exact h
        clear HALL hkm
        go_wp2_with (at_make; refine wpList_make_room _ rfl _ _ 50 rfl w.heap.size 5 i0 (.int .u8 0) Tryd.underlying50 hi hz0 hz1 rfl _ _ _ _ n (n + X * m) rfl rfl rfl ?c1 ?c2 ?c3 ?c4 (Nat.le_refl _) ?_)
        case c3 => omega
        case c4 => unfold maxLen; omega
        intro w1 hown1 hg1 hs1 hrow1
        have hb1 : Below w.heap.size w w1 := (Below.refl _ _).grown hg1 (Nat.le_refl _) (by intro j hj; cases hj)
        have hA1 := hA.below hb1
        clear hown1 hg1
        go_wp2_with (with_reducible refine wpList_copy_splice rfl (.tmp 39) (.tmp 40) 50 50 rfl 5 Tryd.underlying50 sizeByte _ _ _ _ _ _ rfl rfl w.heap.size 0 (zeros (n + X * m) (.int .u8 0)) 5 hrow1.out (zb.map (Value.int .u8)) ?d1 ?d2 ?d3 (ints_oneCell _ _) w.heap.size w hb1 (Nat.le_refl _) ?_)
        case d1 => rw [List.length_map, HLN.out]; exact (Nat.min_self _).symm
        case d2 =>
          intro hp
          have hp0 : 0 < n := by rw [← HLN.out]; simpa using hp
          obtain ⟨ad, e1, _, hc⟩ := hA1.2 hp0
          exact ⟨ad, e1, fun j a ha => hc j _ (by rw [List.getElem?_map, ha]; rfl)⟩
        case d3 =>
          have := HLN.out
          simp [zeros]
          omega
        intro w2 hrow2 hb2
        have hown2 : w2.ownsRow w.heap.size 5 1 (.slice (some ⟨w.heap.size, 0, none⟩) n (n + X * m)) n (zb.map (Value.int .u8)) :=
          own_of_row hrow2.out (by rw [List.length_map]; exact HLN.out) (by omega) (by unfold maxLen; omega)
        clear hrow1 hrow2 hA1 hb1
        go_wp2_with fail
        go_loopw [11, 44] (fun v i wr => ∃ k : Nat, k ≤ m ∧ i = .int .i64 k ∧ wr.ownsRow w.heap.size 5 1 v (n + X * k) ((zb ++ encs X (zl.take k)).map (Value.int .u8)) ∧ Below w.heap.size w wr) (fun _ i _ => m - (intOf i).toNat)
        case atStart => exact ⟨0, Nat.zero_le _, rfl, by simpa [encs] using hown2, hb2⟩
        case round =>
          clear hown2 hb2
          obtain ⟨k, hk, rfl, hownr, hbr⟩ := hrel
          have hxk : X * k ≤ 6 * m := Nat.mul_le_mul hX2 hk
          by_cases hlt : k < m
          · obtain ⟨ad, u, rfl, had, hu, hcell⟩ := (hB.below hbr).at_ hlt
            have hkl : k < zl.length := by rw [HLM.out]; exact hlt
            obtain rfl : u = .int .i64 zl[k] := by
              rw [List.getElem?_map, List.getElem?_eq_getElem hkl] at hu
              simpa using hu.symm
            clear hu
            have hz := of_fitsB (List.all_eq_true.1 HFULL.out zl[k] (List.getElem_mem hkl))
            have hz0 : 0 ≤ zl[k] := hz.2.1
            have hz1 : zl[k] ≤ 1099511627776 := Int.le_trans hz.2.2 mostOf_le
            clear hz
            go_wp2_with fail
            refine (put_any w.heap.size X _ _ _ _ _ hX2 hz0 hz1 (by omega) hbr.size hownr).mono ?_
            rintro e w3 ⟨v3, rfl, hown3, hb3⟩
            have hown4 : w3.ownsRow w.heap.size 5 1 v3 (n + X * (k + 1)) ((zb ++ encs X (zl.take (k + 1))).map (Value.int .u8)) := by
              rw [List.take_succ_eq_append_getElem hkl, encs_snoc, ← List.append_assoc, List.map_append, Nat.mul_succ, ← Nat.add_assoc]
              exact hown3
            have hb4 := hbr.trans hb3
            clear hown3 hb3 hownr hbr
            go_wp2_with fail
            go_roundw
            case rel => exact ⟨k + 1, by omega, by go_num, hown4, hb4⟩
            case measure => simp [intOf]; omega
          · have hkm : k = m := by omega
            have hown4 := hownr
            rw [hkm, List.take_of_length_le (by rw [HLM.out]; exact Nat.le_refl _), ← HLN.out, ← HLM.out] at hown4
            clear hownr
            clear hkm
            go_wp2_with fail
            go_ret2
            exact putPost_good HX.out HFULL.out hbr hown4
  · have hx' : mayB x = false := by simpa using hx
    have HX := Lib.hid hx'
    clear hx hx' hln hlm
    go_enter Tryd.func60, Tryd.ntmps60
    go_wp2_with fail
    refine (nmay_any _ _).mono ?_
    rintro e w1 ⟨rfl, rfl⟩
    rw [HX.out]
    go_wp2_with fail
    go_ret2
    exact putPost_width HX.out (Below.refl _ _)

end Go.Proofs.YtjdacpnfgpdjhaaDoor

/-
  The reference's Put, by contract.
-/
namespace Go.Proofs.YtjdacpnfgpdjhaaDoor
open Go.RowKit
set_option linter.unusedVariables false
set_option linter.unusedSimpArgs false

set_option maxRecDepth 100000 in
set_option maxHeartbeats 1000000 in
theorem refPut_any (x : Int) (A B : Option Addr) (n m c d : Nat) (zb zl : List Int) (w : World) (hA : Lies w w.heap.size A n (zb.map (Value.int .u8))) (hB : Lies w w.heap.size B m (zl.map (Value.int .i64)))
    (hn : n ≤ 1099511627776) (hm : m ≤ 1099511627776) :
    Calls Tryd.prog 45 #[.slice A n c, .int .i64 x, .slice B m d] w (PutPost x zb zl w) := by
  have hln : zb.length = n := by simpa using hA.1
  have hlm : zl.length = m := by simpa using hB.1
  have HLN := Lib.hid hln
  have HLM := Lib.hid hlm
  by_cases hx : mayB x = true
  · obtain ⟨h1, h2⟩ := of_mayB hx
    obtain ⟨X, rfl⟩ := Int.eq_ofNat_of_zero_le (show 0 ≤ x by omega)
    have HX := Lib.hid hx
    have hX1 : 1 ≤ X := by omega
    have hX2 : X ≤ 6 := by omega
    have hm0 : 0 ≤ mostOf X := by rcases width_cases h1 h2 with h | h | h | h | h | h <;> rw [h] <;> decide
    obtain ⟨i0, hi, hz0, hz1, hz2⟩ := info_parts infoByte
    clear hx hln hlm
    go_enter Tryd.func45, Tryd.ntmps45
    go_wp2_with fail
    refine (most_yes _ _ h1 h2).mono ?_
    rintro e w1 ⟨rfl, rfl⟩
    go_wp2_with (at_builtin; refine wpList_append_lies rfl _ _ 50 rfl w.heap.size 5 i0 (.int .u8 0) 1 Tryd.underlying50 hi hz0 hz1 hz2 rfl _ 0 [] rfl (World.ownsRow_nil _ _ _ _) w.heap.size A n c (zb.map (Value.int .u8)) rfl hA (ints_oneCell _ _) ?c1 ?c2 (Nat.le_refl _) ?_)
    case c1 => unfold maxLen; omega
    case c2 => omega
    intro v1 w1 hown1 hg1
    have hb1 : Below w.heap.size w w1 := (Below.refl _ _).grown hg1 (Nat.le_refl _) (by intro j hj; cases hj)
    clear hg1
    go_wp2_with fail
    go_loopw [8, 9] (fun v i wr => ∃ k : Nat, k ≤ m ∧ i = .int .i64 k ∧ Hid ((zl.take k).all (fitsB X) = true) ∧ wr.ownsRow w.heap.size 5 1 v (n + X * k) ((zb ++ encs X (zl.take k)).map (Value.int .u8)) ∧ Below w.heap.size w wr) (fun _ i _ => m - (intOf i).toNat)
    case atStart => exact ⟨0, Nat.zero_le _, rfl, (by simp : (zl.take 0).all (fitsB X) = true), by simpa [encs] using hown1, hb1⟩
    case round =>
      clear hown1 hb1
      obtain ⟨k, hk, rfl, HALL, hownr, hbr⟩ := hrel
      have hxk : X * k ≤ 6 * m := Nat.mul_le_mul hX2 hk
      by_cases hlt : k < m
      · obtain ⟨ad, u, rfl, had, hu, hcell⟩ := (hB.below hbr).at_ hlt
        have hkl : k < zl.length := by rw [HLM.out]; exact hlt
        obtain rfl : u = .int .i64 zl[k] := by
          rw [List.getElem?_map, List.getElem?_eq_getElem hkl] at hu
          simpa using hu.symm
        clear hu
        go_wp2_with fail
        refine (refFits_any _ _ _).mono ?_
        rintro e w2 ⟨rfl, rfl⟩
        by_cases hf : fitsB X zl[k] = true
        · rw [hf]
          have HALL2 := Lib.hid (take_all_succ hkl HALL.out hf)
          have hz := of_fitsB hf
          have hy0 : 0 ≤ zl[k] := hz.2.1
          have hy1 : zl[k] ≤ 1099511627776 := Int.le_trans hz.2.2 mostOf_le
          have HE : Hid (encs X (zl.take (k + 1)) = encs X (zl.take k) ++ enc X zl[k]) := by
            show _ = _
            rw [List.take_succ_eq_append_getElem hkl, encs_snoc]
          clear hf hz
          obtain ⟨wo, rfl⟩ : ∃ wo : World, wo = wr := ⟨_, rfl⟩
          go_wp2_with fail
          go_loopw [8, 10, 11] (fun v q i wr => ∃ j : Nat, j ≤ X ∧ i = .int .i64 j ∧ q = .int .i64 (zl[k] / pw j) ∧ wr.ownsRow w.heap.size 5 1 v (n + X * k + j) ((zb ++ encs X (zl.take k) ++ enc j zl[k]).map (Value.int .u8)) ∧ Below w.heap.size w wr) (fun _ _ i _ => X - (intOf i).toNat)
          case atStart => exact ⟨0, Nat.zero_le _, rfl, by rw [pw_zero]; simp, by simpa [enc] using hownr, hbr⟩
          case round =>
            clear hownr hbr
            obtain ⟨j, hj, rfl, rfl, hownj, hbj⟩ := hrel
            by_cases hjX : j < X
            · have hsz := hbj.size
              have hq : 0 ≤ zl[k] / pw j := Int.ediv_nonneg hy0 (by have := pw_pos j; omega)
              have hq1 : zl[k] / pw j ≤ 1099511627776 := Int.le_trans (Int.ediv_le_self _ hy0) hy1
              go_wp2_with (at_builtin; refine wpList_append_own _ rfl _ _ 50 rfl w.heap.size 5 i0 (.int .u8 0) 1 1 Tryd.underlying50 hi hz0 hz1 hz2 rfl (by decide) _ _ _ rfl (hownj.alloc _) ⟨wr.heap.size, 0, none⟩ 1 1 [_] rfl rfl (cell_new _ _ _) (one_int _ _) ?d1 ?d2 ?d3 ?_)
              case d1 => unfold maxLen; omega
              case d2 => omega
              case d3 => simp; omega
              intro v' w2 hown' hgrow _
              have hstep := Lib.hid (pw_step zl[k] j)
              have hown2 : w2.ownsRow w.heap.size 5 1 v' (n + X * k + (j + 1)) ((zb ++ encs X (zl.take k) ++ enc (j + 1) zl[k]).map (Value.int .u8)) := by
                rw [enc_succ, ← Nat.add_assoc]
                simpa using hown'
              have hb2 : Below w.heap.size w w2 := (hbj.alloc (by omega) _).grown hgrow (by simp; omega) (fun i hi => (hownj.lt i hi).1)
              clear hown' hgrow hownj hbj
              go_wp2
              go_roundw
              case rel => exact ⟨j + 1, by omega, by go_num, by rw [← hstep.out], hown2, hb2⟩
              case measure => simp [intOf]; omega
            · have hjx : j = X := by omega
              have hown2 := hownj
              rw [hjx, List.append_assoc, ← HE.out, Nat.add_assoc, ← Nat.mul_succ] at hown2
              clear hjx hownj
              go_wp2_with fail
              go_roundw
              case rel => exact ⟨k + 1, by omega, by go_num, HALL2, hown2, hbj⟩
              case measure => simp [intOf]; omega
        · have hf' : fitsB X zl[k] = false := by simpa using hf
          rw [hf']
          have HF := Lib.hid hf'
          clear hf hf'
          go_wp2_with fail
          go_ret2
          exact putPost_bad hkl HF.out hbr
      · have hkm : k = m := by omega
        have hown4 := hownr
        have HFULL := HALL
        rw [hkm, List.take_of_length_le (by rw [HLM.out]; exact Nat.le_refl _), ← HLN.out, ← HLM.out] at hown4
        rw [hkm, List.take_of_length_le (by rw [HLM.out]; exact Nat.le_refl _)] at HFULL
        clear hownr hkm HALL
        go_wp2_with fail
        go_ret2
        exact putPost_good HX.out HFULL.out hbr hown4
  · have hx' : mayB x = false := by simpa using hx
    have HX := Lib.hid hx'
    have HN := Lib.hid (not_mayB hx')
    clear hx hx' hln hlm
    go_enter Tryd.func45, Tryd.ntmps45
    go_wp2_with fail
    refine (most_no _ _ HN.out).mono ?_
    rintro e w1 ⟨rfl, rfl⟩
    go_wp2_with fail
    go_ret2
    exact putPost_width HX.out (Below.refl _ _)

end Go.Proofs.YtjdacpnfgpdjhaaDoor

/-
  How many bytes a row of texts has, the program's way and the document's.
-/
namespace Go.Proofs.YtjdacpnfgpdjhaaDoor
open Go.RowKit
set_option linter.unusedVariables false
set_option linter.unusedSimpArgs false

/-- The sum of the texts' lengths, as an int is added up. -/
def sumW (l : List ByteArray) : Int := l.foldl (fun a s => wrap64 (a + (s.size : Int))) 0
theorem sumW_take {l : List ByteArray} {k : Nat} (h : k < l.length) : sumW (l.take (k + 1)) = wrap64 (sumW (l.take k) + (l[k].size : Int)) := by
  rw [List.take_succ_eq_append_getElem h, sumW, List.foldl_append]
  rfl
/-- A row of texts. -/
def strV (ss : List ByteArray) : List Value := ss.map Value.string
theorem str_at {w : World} {B n : Nat} {A : Option Addr} {ss : List ByteArray} (h : Lies w B A n (strV ss)) {k : Nat} (hk : k < n) (hl : k < ss.length) :
    ∃ ad : Addr, A = some ad ∧ w.cell? (ad.add k) = some (.string ss[k]) := by
  obtain ⟨ad, u, hA, _, hu, hc⟩ := h.at_ hk
  refine ⟨ad, hA, ?_⟩
  rw [hc, ← hu, strV, List.getElem?_map, List.getElem?_eq_getElem hl]
  rfl

end Go.Proofs.YtjdacpnfgpdjhaaDoor

/-
  Devices in memory: how a device's slices lie; what keeps them; rows of sectors' numbers and bytes.
-/
namespace Go.Proofs.YtjdacpnfgpdjhaaDoor
open Go.RowKit
set_option linter.unusedVariables false
set_option linter.unusedSimpArgs false

/-- A cache's cells, two an element. -/
def celV (l : List Cel) : List Value := l.flatMap fun c => [Value.int .i64 c.1, Value.string c.2]
theorem celV_length (l : List Cel) : (celV l).length = l.length * 2 := by
  induction l with
  | nil => rfl
  | cons c r ih => simp [celV] at ih ⊢; omega
theorem celV_at (l : List Cel) {k : Nat} (hk : k < l.length) : (celV l)[k * 2]? = some (.int .i64 (l[k]).1) ∧ (celV l)[k * 2 + 1]? = some (.string (l[k]).2) := by
  induction l generalizing k with
  | nil => simp at hk
  | cons c r ih =>
    have e : celV (c :: r) = .int .i64 c.1 :: .string c.2 :: celV r := rfl
    rw [e]
    cases k with
    | zero => exact ⟨rfl, rfl⟩
    | succ k =>
      have h := ih (k := k) (by simpa using hk)
      rw [show (k + 1) * 2 = k * 2 + 1 + 1 by omega, show k * 2 + 1 + 1 + 1 = (k * 2 + 1) + 1 + 1 by omega]
      simpa using h
theorem celV_append (l m : List Cel) : celV (l ++ m) = celV l ++ celV m := by simp [celV]
theorem celV_one (l : List Cel) : ∀ u ∈ celV l, u.oneCell' = true := fun u hu => by
  obtain ⟨c, _, hc⟩ := List.mem_flatMap.1 hu
  simp at hc
  rcases hc with rfl | rfl <;> rfl
theorem celV_take (l : List Cel) (k : Nat) : (celV l).take (k * 2) = celV (l.take k) := by
  induction l generalizing k with
  | nil => simp [celV]
  | cons c r ih =>
    have e : celV (c :: r) = .int .i64 c.1 :: .string c.2 :: celV r := rfl
    cases k with
    | zero => simp [celV]
    | succ k => rw [e, show (k + 1) * 2 = k * 2 + 1 + 1 by omega, List.take_succ_cons, List.take_succ_cons, ih, List.take_succ_cons]; rfl
theorem celV_drop (l : List Cel) (k : Nat) : (celV l).drop (k * 2) = celV (l.drop k) := by
  induction l generalizing k with
  | nil => simp [celV]
  | cons c r ih =>
    have e : celV (c :: r) = .int .i64 c.1 :: .string c.2 :: celV r := rfl
    cases k with
    | zero => simp
    | succ k => rw [e, show (k + 1) * 2 = k * 2 + 1 + 1 by omega, List.drop_succ_cons, List.drop_succ_cons, ih, List.drop_succ_cons]

/-- A slice of texts, of numbers, of cells, of caches: it lies below block B. -/
def SlS (w : World) (B : Nat) (v : Value) (S : List ByteArray) : Prop := ∃ A c, v = .slice A S.length c ∧ S.length ≤ c ∧ c ≤ maxLen ∧ Lies w B A S.length (strV S)
def SlI (w : World) (B : Nat) (v : Value) (l : List Int) : Prop := ∃ A c, v = .slice A l.length c ∧ l.length ≤ c ∧ c ≤ maxLen ∧ Lies w B A l.length (l.map (Value.int .i64))
def SlC (w : World) (B : Nat) (v : Value) (l : List Cel) : Prop := ∃ A c, v = .slice A l.length c ∧ l.length ≤ c ∧ c ≤ maxLen ∧ Lies w B A (l.length * 2) (celV l)
def SlCC (w : World) (B : Nat) (v : Value) (C : List (List Cel)) : Prop := ∃ A c, v = .slice A C.length c ∧ C.length ≤ c ∧ c ≤ maxLen ∧
  ∃ f : Nat → Value, Lies w B A C.length ((List.range C.length).map f) ∧ ∀ i, i < C.length → SlC w B (f i) (C.getD i [])
def DevAt (w : World) (B : Nat) (v : Value) (D : Dev) : Prop := ∃ vS vC vK vF, v = .agg #[vS, vC, vK, .int .i64 D.n, vF] ∧ SlS w B vS D.S ∧ SlCC w B vC D.C ∧ SlI w B vK D.K ∧ SlI w B vF D.F

section
variable {w w' : World} {B B' : Nat} {v : Value}
theorem SlS.keep {S : List ByteArray} (h : SlS w B v S) (hk : ∀ p : Addr, p.block < B → w'.cell? p = w.cell? p) : SlS w' B v S := by
  obtain ⟨A, c, e, h1, h2, h3⟩ := h
  exact ⟨A, c, e, h1, h2, h3.keep hk⟩
theorem SlI.keep {l : List Int} (h : SlI w B v l) (hk : ∀ p : Addr, p.block < B → w'.cell? p = w.cell? p) : SlI w' B v l := by
  obtain ⟨A, c, e, h1, h2, h3⟩ := h
  exact ⟨A, c, e, h1, h2, h3.keep hk⟩
theorem SlC.keep {l : List Cel} (h : SlC w B v l) (hk : ∀ p : Addr, p.block < B → w'.cell? p = w.cell? p) : SlC w' B v l := by
  obtain ⟨A, c, e, h1, h2, h3⟩ := h
  exact ⟨A, c, e, h1, h2, h3.keep hk⟩
theorem SlCC.keep {C : List (List Cel)} (h : SlCC w B v C) (hk : ∀ p : Addr, p.block < B → w'.cell? p = w.cell? p) : SlCC w' B v C := by
  obtain ⟨A, c, e, h1, h2, f, h3, h4⟩ := h
  exact ⟨A, c, e, h1, h2, f, h3.keep hk, fun i hi => (h4 i hi).keep hk⟩
theorem DevAt.keep {D : Dev} (h : DevAt w B v D) (hk : ∀ p : Addr, p.block < B → w'.cell? p = w.cell? p) : DevAt w' B v D := by
  obtain ⟨vS, vC, vK, vF, e, h1, h2, h3, h4⟩ := h
  exact ⟨vS, vC, vK, vF, e, h1.keep hk, h2.keep hk, h3.keep hk, h4.keep hk⟩
theorem SlS.more {S : List ByteArray} (h : SlS w B v S) (hB : B ≤ B') : SlS w B' v S := by
  obtain ⟨A, c, e, h1, h2, h3⟩ := h
  exact ⟨A, c, e, h1, h2, h3.more hB⟩
theorem SlI.more {l : List Int} (h : SlI w B v l) (hB : B ≤ B') : SlI w B' v l := by
  obtain ⟨A, c, e, h1, h2, h3⟩ := h
  exact ⟨A, c, e, h1, h2, h3.more hB⟩
theorem SlC.more {l : List Cel} (h : SlC w B v l) (hB : B ≤ B') : SlC w B' v l := by
  obtain ⟨A, c, e, h1, h2, h3⟩ := h
  exact ⟨A, c, e, h1, h2, h3.more hB⟩
theorem SlCC.more {C : List (List Cel)} (h : SlCC w B v C) (hB : B ≤ B') : SlCC w B' v C := by
  obtain ⟨A, c, e, h1, h2, f, h3, h4⟩ := h
  exact ⟨A, c, e, h1, h2, f, h3.more hB, fun i hi => (h4 i hi).more hB⟩
theorem DevAt.more {D : Dev} (h : DevAt w B v D) (hB : B ≤ B') : DevAt w B' v D := by
  obtain ⟨vS, vC, vK, vF, e, h1, h2, h3, h4⟩ := h
  exact ⟨vS, vC, vK, vF, e, h1.more hB, h2.more hB, h3.more hB, h4.more hB⟩
/-- Behind a call that leaves old memory as it was. -/
theorem DevAt.up {D : Dev} (h : DevAt w w.heap.size v D) (hb : Below w.heap.size w w') : DevAt w' w'.heap.size v D := (h.keep fun _ hp => hb.cell hp).more hb.size
theorem SlS.up {S : List ByteArray} (h : SlS w w.heap.size v S) (hb : Below w.heap.size w w') : SlS w' w'.heap.size v S := (h.keep fun _ hp => hb.cell hp).more hb.size
theorem SlI.up {l : List Int} (h : SlI w w.heap.size v l) (hb : Below w.heap.size w w') : SlI w' w'.heap.size v l := (h.keep fun _ hp => hb.cell hp).more hb.size
theorem SlC.up {l : List Cel} (h : SlC w w.heap.size v l) (hb : Below w.heap.size w w') : SlC w' w'.heap.size v l := (h.keep fun _ hp => hb.cell hp).more hb.size
theorem SlCC.up {C : List (List Cel)} (h : SlCC w w.heap.size v C) (hb : Below w.heap.size w w') : SlCC w' w'.heap.size v C := (h.keep fun _ hp => hb.cell hp).more hb.size
end
theorem lies_up {w w' : World} {A : Option Addr} {n : Nat} {xs : List Value} (h : Lies w w.heap.size A n xs) (hb : Below w.heap.size w w') : Lies w' w'.heap.size A n xs := (h.keep fun _ hp => hb.cell hp).more hb.size
theorem below_alloc (w : World) (o : Obj) : Below w.heap.size w (w.alloc o) := (Below.refl _ _).alloc (Nat.le_refl _) o

/-- An element of a cache. -/
theorem cel_at {w : World} {B n : Nat} {A : Option Addr} {l : List Cel} (h : Lies w B A (n * 2) (celV l)) (hn : l.length = n) {k : Nat} (hk : k < n) :
    ∃ ad : Addr, A = some ad ∧ ad.block < B ∧ w.cell? (ad.add (k * 2)) = some (.int .i64 (l[k]'(by omega)).1) ∧ w.cell? (ad.add (k * 2 + 1)) = some (.string (l[k]'(by omega)).2) := by
  obtain ⟨ad, e, hb, hc⟩ := h.2 (by omega)
  have h2 := celV_at l (k := k) (by omega)
  exact ⟨ad, e, hb, hc _ _ h2.1, hc _ _ h2.2⟩

end Go.Proofs.YtjdacpnfgpdjhaaDoor
