/-
  num: putting numbers, by contract.
-/
import Derived.Test.YtjdacpnfgpdjhaaDoorNumLeaf
namespace Go.Proofs.YtjdacpnfgpdjhaaDoor
open Go.RowKit
set_option linter.unusedVariables false
set_option linter.unusedSimpArgs false

theorem infoByte : (Tryd.prog.info? 5).map (fun i => (i.zero, i.size, i.bytes)) = some (some (.int .u8 0), 1, 1) := by kernel_rfl
theorem infoInt : (Tryd.prog.info? 3).map (fun i => (i.zero, i.size, i.bytes)) = some (some (.int .i64 0), 1, 8) := by kernel_rfl

set_option maxRecDepth 100000 in
/-- The method put: the bytes of one number behind what is owned. -/
theorem put_any (base : Nat) (W : Nat) (v : Value) (n : Nat) (xs : List Value) (x : Int) (w : World) (hW : W ≤ 6) (hx0 : 0 ≤ x) (hx1 : x ≤ 1099511627776) (hn : n ≤ 17592186044416)
    (hbase : base ≤ w.heap.size) (hown : w.ownsRow base 5 1 v n xs) :
    Calls Tryd.prog 84 #[.int .i64 W, v, .int .i64 x] w fun e w' =>
      ∃ v', e = .returned v' ∧ w'.ownsRow base 5 1 v' (n + W) (xs ++ (enc W x).map (Value.int .u8)) ∧ Below base w w' := by
  obtain ⟨i0, hi, hz0, hz1, hz2⟩ := info_parts infoByte
  go_enter Tryd.func84, Tryd.ntmps84
  go_wp2
  go_loopw [1, 2, 8] (fun u q i wr => ∃ k : Nat, k ≤ W ∧ i = .int .i64 k ∧ q = .int .i64 (x / pw k) ∧ wr.ownsRow base 5 1 u (n + k) (xs ++ (enc k x).map (Value.int .u8)) ∧ Below base w wr) (fun _ _ i _ => W - (intOf i).toNat)
  case atStart => exact ⟨0, Nat.zero_le _, rfl, by rw [pw_zero]; simp, by simpa [enc] using hown, Below.refl _ _⟩
  case round =>
    obtain ⟨k, hk, rfl, rfl, hownr, hb⟩ := hrel
    by_cases hlt : k < W
    · have hsz := hb.size
      go_wp2_with (at_builtin; refine wpList_append_own _ rfl _ _ 50 rfl base 5 i0 (.int .u8 0) 1 1 Tryd.underlying50 hi hz0 hz1 hz2 rfl (by decide) _ _ _ rfl (hownr.alloc _) ⟨wr.heap.size, 0, none⟩ 1 1 [_] rfl rfl (cell_new _ _ _) (one_int _ _) ?c1 ?c2 ?c3 ?_)
      case c1 => unfold maxLen; omega
      case c2 => omega
      case c3 => simp; omega
      intro v' w1 hown' hgrow _
      have hstep := Lib.hid (pw_step x k)
      have hown2 : w1.ownsRow base 5 1 v' (n + (k + 1)) (xs ++ (enc (k + 1) x).map (Value.int .u8)) := by
        rw [enc_succ, List.map_append]
        exact hown'
      have hb2 : Below base w w1 := (hb.alloc (by omega) _).grown hgrow (by simp; omega) (fun j hj => (hownr.lt j hj).1)
      have hq : 0 ≤ x / pw k := Int.ediv_nonneg hx0 (by have := pw_pos k; omega)
      clear hown' hgrow hownr hb
      go_wp2
      go_roundw
      case rel => exact ⟨k + 1, by omega, by go_num, by rw [← hstep.out], hown2, hb2⟩
      case measure => simp [intOf]; omega
    · go_wp2
      go_ret
      obtain rfl : k = W := by omega
      exact ⟨_, rfl, hownr, hb⟩

/-- What Put comes to. -/
def PutPost (x : Int) (zb zl : List Int) (w : World) (e : Ending) (w' : World) : Prop :=
  Below w.heap.size w w' ∧ (((mayB x && zl.all (fitsB x)) = false ∧ e = .returned (.tuple #[.slice none 0 0, .int .i64 2])) ∨
    ((mayB x && zl.all (fitsB x)) = true ∧ ∃ v, e = .returned (.tuple #[v, .int .i64 0]) ∧ w'.ownsRow w.heap.size 5 1 v (zb.length + x.toNat * zl.length) ((zb ++ encs x.toNat zl).map (Value.int .u8))))

theorem putPost_width {x : Int} {zb zl : List Int} {w w' : World} (h : mayB x = false) (hb : Below w.heap.size w w') : PutPost x zb zl w (.returned (.tuple #[.slice none 0 0, .int .i64 2])) w' :=
  ⟨hb, .inl ⟨by simp [h], rfl⟩⟩
theorem putPost_bad {x : Int} {zb zl : List Int} {w w' : World} {k : Nat} (hk : k < zl.length) (h : fitsB x zl[k] = false) (hb : Below w.heap.size w w') : PutPost x zb zl w (.returned (.tuple #[.slice none 0 0, .int .i64 2])) w' := by
  refine ⟨hb, .inl ⟨?_, rfl⟩⟩
  rw [Bool.and_eq_false_iff]
  right
  rw [List.all_eq_false]
  exact ⟨zl[k], List.getElem_mem hk, by simp [h]⟩
theorem putPost_good {x : Int} {zb zl : List Int} {w w' : World} {v : Value} (hx : mayB x = true) (h : zl.all (fitsB x) = true) (hb : Below w.heap.size w w')
    (hown : w'.ownsRow w.heap.size 5 1 v (zb.length + x.toNat * zl.length) ((zb ++ encs x.toNat zl).map (Value.int .u8))) : PutPost x zb zl w (.returned (.tuple #[v, .int .i64 0])) w' :=
  ⟨hb, .inr ⟨by simp [hx]; simpa using h, v, rfl, hown⟩⟩

theorem take_all_succ {α : Type} {p : α → Bool} {l : List α} {k : Nat} (hk : k < l.length) (h : (l.take k).all p = true) (hp : p l[k] = true) : (l.take (k + 1)).all p = true := by
  rw [List.take_succ_eq_append_getElem hk, List.all_append, h]
  simp [hp]

theorem sizeByte : (Tryd.prog.info? 5).map (·.size) = some 1 := by kernel_rfl

/-- What a copy to a row's head has laid is owned. -/
theorem own_of_row {w : World} {g n cap : Nat} {e : TypeId} {z : Value} {cs : List Value} (h : w.heap[g]? = some (.cells (splice (zeros cap z) 0 cs).toArray e (0, 0))) (hl : cs.length = n) (hc : n ≤ cap) (hm : cap ≤ maxLen) :
    w.ownsRow g e 1 (.slice (some ⟨g, 0, none⟩) n cap) n cs := by
  refine ⟨by omega, .inr ⟨g, cap, _, rfl, Nat.le_refl _, h, hc, hm, ?_, ?_⟩⟩
  · simp [splice, zeros]; omega
  · simp [splice, ← hl]

set_option maxRecDepth 100000 in
set_option maxHeartbeats 1000000 in
theorem numPut_any (x : Int) (A B : Option Addr) (n m c d : Nat) (zb zl : List Int) (w : World) (hA : Lies w w.heap.size A n (zb.map (Value.int .u8))) (hB : Lies w w.heap.size B m (zl.map (Value.int .i64)))
    (hn : n ≤ 1099511627776) (hm : m ≤ 1099511627776) :
    Calls Tryd.prog 60 #[.slice A n c, .int .i64 x, .slice B m d] w (PutPost x zb zl w) := by
  have hln : zb.length = n := by simpa using hA.1
  have hlm : zl.length = m := by simpa using hB.1
  have HLN := Lib.hid hln
  have HLM := Lib.hid hlm
  by_cases hx : mayB x = true
  · obtain ⟨h1, h2⟩ := of_mayB hx
    obtain ⟨X, rfl⟩ := Int.eq_ofNat_of_zero_le (show 0 ≤ x by omega)
    have HX := Lib.hid hx
    have hX1 : 1 ≤ X := by omega
    have hX2 : X ≤ 6 := by omega
    have hXm : X * m ≤ 6597069766656 := by have := Nat.mul_le_mul hX2 hm; omega
    have hXi0 : (0 : Int) ≤ (X : Int) * (m : Int) := by rw [← Int.natCast_mul]; omega
    have hXi1 : (X : Int) * (m : Int) ≤ 6597069766656 := by rw [← Int.natCast_mul]; omega
    obtain ⟨i0, hi, hz0, hz1, hz2⟩ := info_parts infoByte
    clear hx hln hlm
    go_enter Tryd.func60, Tryd.ntmps60
    go_wp2_with fail
    refine (nmay_any _ _).mono ?_
    rintro e w1 ⟨rfl, rfl⟩
    rw [HX.out]
    go_wp2_with fail
    go_loop [20] (fun i => ∃ k : Nat, k ≤ m ∧ i = .int .i64 k ∧ (zl.take k).all (fitsB X) = true) (fun i => m - (intOf i).toNat)
    case atStart => exact ⟨0, Nat.zero_le _, rfl, by simp⟩
    case round =>
      obtain ⟨k, hk, rfl, hall⟩ := hrel
      have HALL := Lib.hid hall
      clear hall
      by_cases hlt : k < m
      · obtain ⟨ad, u, rfl, had, hu, hcell⟩ := hB.at_ hlt
        have hkl : k < zl.length := by rw [HLM.out]; exact hlt
        obtain rfl : u = .int .i64 zl[k] := by
          rw [List.getElem?_map, List.getElem?_eq_getElem hkl] at hu
          simpa using hu.symm
        clear hu
        go_wp2_with fail
        refine (fits_any _ _ _).mono ?_
        rintro e w1 ⟨rfl, rfl⟩
        by_cases hf : fitsB X zl[k] = true
        · rw [hf]
          have HALL2 := Lib.hid (take_all_succ hkl HALL.out hf)
          clear hf
          go_wp2_with fail
          go_round
          case rel => exact ⟨k + 1, by omega, by go_num, HALL2.out⟩
          case measure => simp [intOf]; omega
        · have hf' : fitsB X zl[k] = false := by simpa using hf
          rw [hf']
          have HF := Lib.hid hf'
          clear hf hf'
          go_wp2_with fail
          go_ret2
          exact putPost_bad hkl HF.out (Below.refl _ _)
      · have hkm : k = m := by omega
        have HFULL : Hid (zl.all (fitsB X) = true) := by
          have h := HALL.out
          rw [hkm, List.take_of_length_le (by rw [HLM.out]; exact Nat.le_refl _)] at h
          exact h
        clear HALL hkm
        go_wp2_with (at_make; refine wpList_make_room _ rfl _ _ 50 rfl w.heap.size 5 i0 (.int .u8 0) Tryd.underlying50 hi hz0 hz1 rfl _ _ _ _ n (n + X * m) rfl rfl rfl ?c1 ?c2 ?c3 ?c4 (Nat.le_refl _) ?_)
        case c3 => omega
        case c4 => unfold maxLen; omega
        intro w1 hown1 hg1 hs1 hrow1
        have hb1 : Below w.heap.size w w1 := (Below.refl _ _).grown hg1 (Nat.le_refl _) (by intro j hj; cases hj)
        have hA1 := hA.below hb1
        clear hown1 hg1
        go_wp2_with (with_reducible refine wpList_copy_splice rfl (.tmp 39) (.tmp 40) 50 50 rfl 5 Tryd.underlying50 sizeByte _ _ _ _ _ _ rfl rfl w.heap.size 0 (zeros (n + X * m) (.int .u8 0)) 5 hrow1.out (zb.map (Value.int .u8)) ?d1 ?d2 ?d3 (ints_oneCell _ _) w.heap.size w hb1 (Nat.le_refl _) ?_)
        case d1 => rw [List.length_map, HLN.out]; exact (Nat.min_self _).symm
        case d2 =>
          intro hp
          have hp0 : 0 < n := by rw [← HLN.out]; simpa using hp
          obtain ⟨ad, e1, _, hc⟩ := hA1.2 hp0
          exact ⟨ad, e1, fun j a ha => hc j _ (by rw [List.getElem?_map, ha]; rfl)⟩
        case d3 =>
          have := HLN.out
          simp [zeros]
          omega
        intro w2 hrow2 hb2
        have hown2 : w2.ownsRow w.heap.size 5 1 (.slice (some ⟨w.heap.size, 0, none⟩) n (n + X * m)) n (zb.map (Value.int .u8)) :=
          own_of_row hrow2.out (by rw [List.length_map]; exact HLN.out) (by omega) (by unfold maxLen; omega)
        clear hrow1 hrow2 hA1 hb1
        go_wp2_with fail
        go_loopw [11, 44] (fun v i wr => ∃ k : Nat, k ≤ m ∧ i = .int .i64 k ∧ wr.ownsRow w.heap.size 5 1 v (n + X * k) ((zb ++ encs X (zl.take k)).map (Value.int .u8)) ∧ Below w.heap.size w wr) (fun _ i _ => m - (intOf i).toNat)
        case atStart => exact ⟨0, Nat.zero_le _, rfl, by simpa [encs] using hown2, hb2⟩
        case round =>
          clear hown2 hb2
          obtain ⟨k, hk, rfl, hownr, hbr⟩ := hrel
          have hxk : X * k ≤ 6 * m := Nat.mul_le_mul hX2 hk
          by_cases hlt : k < m
          · obtain ⟨ad, u, rfl, had, hu, hcell⟩ := (hB.below hbr).at_ hlt
            have hkl : k < zl.length := by rw [HLM.out]; exact hlt
            obtain rfl : u = .int .i64 zl[k] := by
              rw [List.getElem?_map, List.getElem?_eq_getElem hkl] at hu
              simpa using hu.symm
            clear hu
            have hz := of_fitsB (List.all_eq_true.1 HFULL.out zl[k] (List.getElem_mem hkl))
            have hz0 : 0 ≤ zl[k] := hz.2.1
            have hz1 : zl[k] ≤ 1099511627776 := Int.le_trans hz.2.2 mostOf_le
            clear hz
            go_wp2_with fail
            refine (put_any w.heap.size X _ _ _ _ _ hX2 hz0 hz1 (by omega) hbr.size hownr).mono ?_
            rintro e w3 ⟨v3, rfl, hown3, hb3⟩
            have hown4 : w3.ownsRow w.heap.size 5 1 v3 (n + X * (k + 1)) ((zb ++ encs X (zl.take (k + 1))).map (Value.int .u8)) := by
              rw [List.take_succ_eq_append_getElem hkl, encs_snoc, ← List.append_assoc, List.map_append, Nat.mul_succ, ← Nat.add_assoc]
              exact hown3
            have hb4 := hbr.trans hb3
            clear hown3 hb3 hownr hbr
            go_wp2_with fail
            go_roundw
            case rel => exact ⟨k + 1, by omega, by go_num, hown4, hb4⟩
            case measure => simp [intOf]; omega
          · have hkm : k = m := by omega
            have hown4 := hownr
            rw [hkm, List.take_of_length_le (by rw [HLM.out]; exact Nat.le_refl _), ← HLN.out, ← HLM.out] at hown4
            clear hownr
            clear hkm
            go_wp2_with fail
            go_ret2
            exact putPost_good HX.out HFULL.out hbr hown4
  · have hx' : mayB x = false := by simpa using hx
    have HX := Lib.hid hx'
    clear hx hx' hln hlm
    go_enter Tryd.func60, Tryd.ntmps60
    go_wp2_with fail
    refine (nmay_any _ _).mono ?_
    rintro e w1 ⟨rfl, rfl⟩
    rw [HX.out]
    go_wp2_with fail
    go_ret2
    exact putPost_width HX.out (Below.refl _ _)

end Go.Proofs.YtjdacpnfgpdjhaaDoor
