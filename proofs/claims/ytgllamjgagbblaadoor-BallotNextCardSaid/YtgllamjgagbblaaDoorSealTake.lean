/-
  seal: numbers of many widths taken off the front of a load, through a pointer; Fields: by contract.
-/
import Derived.Test.YtgllamjgagbblaaDoorSealLay
namespace Go.Proofs.YtgllamjgagbblaaDoor
open Go.RowKit
set_option linter.unusedVariables false
set_option linter.unusedSimpArgs false

/-- Where number i stands; is each of the first i numbers one; these. -/
def atK (zw : List Int) (i : Nat) : Nat := ((zw.take i).map Int.toNat).sum
def okK (l zw : List Int) (i : Nat) : Bool := (List.range i).all fun j => getErr l (atK zw j) (zw.getD j 0) == 0
def valK (l zw : List Int) (i : Nat) : List Int := (List.range i).map fun j => getVal l (atK zw j) (zw.getD j 0)
theorem valK_length (l zw : List Int) (i : Nat) : (valK l zw i).length = i := by simp [valK]
theorem getD_at {zw : List Int} {j : Nat} (h : j < zw.length) : zw.getD j 0 = zw[j] := by simp [List.getD, List.getElem?_eq_getElem h]
theorem atK_succ {zw : List Int} {j : Nat} (h : j < zw.length) : atK zw (j + 1) = atK zw j + zw[j].toNat := by
  unfold atK
  rw [List.take_succ_eq_append_getElem h, List.map_append, List.sum_append]
  simp
theorem okK_succ {l zw : List Int} {j : Nat} (h : j < zw.length) : okK l zw (j + 1) = (okK l zw j && (getErr l (atK zw j) zw[j] == 0)) := by
  unfold okK
  rw [List.range_succ, List.all_append, getD_at h |>.symm]
  simp
theorem valK_succ {l zw : List Int} {j : Nat} (h : j < zw.length) : valK l zw (j + 1) = valK l zw j ++ [getVal l (atK zw j) zw[j]] := by
  unfold valK
  rw [List.range_succ, List.map_append, getD_at h |>.symm]
  simp
theorem okK_le {l zw : List Int} {i j : Nat} (h : okK l zw j = true) (hij : i ≤ j) : okK l zw i = true := by
  unfold okK at h ⊢
  rw [List.all_eq_true] at h ⊢
  intro x hx
  exact h x (List.mem_range.2 (Nat.lt_of_lt_of_le (List.mem_range.1 hx) hij))
theorem err_zero {l : List Int} {a x : Int} (h : getErr l a x = 0) : 1 ≤ x ∧ x ≤ 6 ∧ a + x ≤ l.length := by
  unfold getErr at h
  split at h
  · cases h
  · rename_i hm
    have hm' : mayB x = true := by simpa using hm
    obtain ⟨h1, h2⟩ := of_mayB hm'
    split at h
    · rename_i hc
      exact ⟨h1, h2, hc.2.1⟩
    · cases h
/-- What was read stands within the load. -/
theorem okK_at {l zw : List Int} : ∀ {j : Nat}, j ≤ zw.length → okK l zw j = true → j ≤ atK zw j ∧ atK zw j ≤ l.length := by
  intro j
  induction j with
  | zero => intro _ _; simp [atK]
  | succ j ih =>
    intro hj h
    have hl : j < zw.length := by omega
    rw [okK_succ hl, Bool.and_eq_true, beq_iff_eq] at h
    have h1 := ih (by omega) h.1
    obtain ⟨e1, e2, e3⟩ := err_zero h.2
    rw [atK_succ hl]
    omega
theorem okK_bad {l zw : List Int} {j : Nat} (hj : j < zw.length) (h : ¬ getErr l (atK zw j) zw[j] = 0) : okK l zw zw.length = false := by
  rcases hh : okK l zw zw.length with _ | _
  · rfl
  · have h1 := okK_le (i := j + 1) hh (by omega)
    rw [okK_succ hj, Bool.and_eq_true, beq_iff_eq] at h1
    exact absurd h1.2 h
theorem okK_long {l zw : List Int} (h : l.length < zw.length) : okK l zw zw.length = false := by
  rcases hh : okK l zw zw.length with _ | _
  · rfl
  · have := okK_at (Nat.le_refl _) hh
    omega
/-- The row as far as it is filled. -/
def mixK (l zw : List Int) (n j : Nat) : List Int := valK l zw j ++ List.replicate (n - j) 0
theorem mixK_next {l zw : List Int} {n j : Nat} (hj : j < zw.length) (hn : j < n) : (mixK l zw n j).set j (getVal l (atK zw j) zw[j]) = mixK l zw n (j + 1) := by
  unfold mixK
  rw [List.set_append_right _ _ (by rw [valK_length]; omega), valK_length, Nat.sub_self, valK_succ hj]
  obtain ⟨m, hm⟩ : ∃ m, n - j = m + 1 := ⟨n - j - 1, by omega⟩
  rw [hm, show n - (j + 1) = m by omega, List.replicate_succ, List.set_cons_zero, List.append_assoc]
  rfl
theorem mixK_zero (l zw : List Int) (n : Nat) : mixK l zw n 0 = List.replicate n 0 := by simp [mixK, valK]
theorem mixK_all (l zw : List Int) (n : Nat) : mixK l zw n n = valK l zw n := by simp [mixK]

theorem mixK_length {l zw : List Int} {n j : Nat} (h : j ≤ n) : (mixK l zw n j).length = n := by
  unfold mixK
  rw [List.length_append, valK_length, List.length_replicate]
  omega

/-- What taking comes to. -/
def TakePost (b : Nat) (T : TypeId) (k : Int) (s : ByteArray) (zw : List Int) (w : World) (e : Ending) (w' : World) : Prop :=
  Only b w w' ∧ ((okK (bytesI s) zw zw.length = true ∧ ∃ A c, e = .returned (.tuple #[.slice A zw.length c, .bool true]) ∧ Lies w' w'.heap.size A zw.length ((valK (bytesI s) zw zw.length).map (Value.int .i64)) ∧ ParAt w' b T k (s.extract (atK zw zw.length) s.size)) ∨
    (okK (bytesI s) zw zw.length = false ∧ e = .returned (.tuple #[.slice none 0 0, .bool false])))
theorem takePost_no {b : Nat} {T : TypeId} {k : Int} {s : ByteArray} {zw : List Int} {w w' : World} (h : okK (bytesI s) zw zw.length = false) (ho : Only b w w') : TakePost b T k s zw w (.returned (.tuple #[.slice none 0 0, .bool false])) w' := ⟨ho, .inr ⟨h, rfl⟩⟩

set_option maxRecDepth 100000 in
set_option maxHeartbeats 1000000 in
theorem take_any' (b : Nat) (T : TypeId) (k : Int) (s : ByteArray) (A : Option Addr) (n c : Nat) (zw : List Int) (w : World) (hp : ParAt w b T k s) (hs : s.size ≤ 505) (hA : Lies w w.heap.size A n (zw.map (Value.int .i64))) (hn : n ≤ 1099511627776) :
    Calls Tryd.prog 29 #[.pointer (some ⟨b, 0, none⟩), .slice A n c] w (TakePost b T k s zw w) := by
  have HLN : Hid (zw.length = n) := by show _ = _; simpa using hA.1
  have cl := hp.load
  have hM : s.size ≤ maxLen := by unfold maxLen; omega
  by_cases hlong : n ≤ s.size
  · obtain ⟨i0, hi, hz0, hz1, hz2⟩ := info_parts infoInt
    have HP := Lib.hid hp
    clear hp
    go_enter Tryd.func29, Tryd.ntmps29
    go_wp2_with (at_make; refine wpList_make_room _ rfl _ _ 35 rfl w.heap.size 3 i0 (.int .i64 0) Tryd.underlying35 hi hz0 hz1 rfl _ _ _ _ n n rfl rfl rfl rfl (Nat.le_refl _) ?c3 ?c4 (Nat.le_refl _) ?_)
    case c3 => rw [hz2]; omega
    case c4 => unfold maxLen; omega
    intro w1 hown1 hg1 hs1 hrow1
    have hb1 : Below w.heap.size w w1 := (Below.refl _ _).grown hg1 (Nat.le_refl _) (by intro j hj; cases hj)
    have hown : w1.ownsRow w.heap.size 3 1 (.slice (some ⟨w.heap.size, 0, none⟩) n n) n ((mixK (bytesI s) zw n 0).map (Value.int .i64)) := by
      rw [mixK_zero, List.map_replicate]
      exact hown1
    clear hown1 hg1 hs1 hrow1
    clear cl
    go_wp2_with fail
    go_loopw [7, 26] (fun u i wr => ∃ j : Nat, j ≤ n ∧ i = .int .i64 j ∧ u = .int .i64 (atK zw j : Nat) ∧ wr.ownsRow w.heap.size 3 1 (.slice (some ⟨w.heap.size, 0, none⟩) n n) n ((mixK (bytesI s) zw n j).map (Value.int .i64)) ∧ Hid (okK (bytesI s) zw j = true) ∧ Below w.heap.size w wr) (fun _ i _ => n - (intOf i).toNat)
    case atStart => exact ⟨0, Nat.zero_le _, rfl, rfl, hown, (by rfl : okK (bytesI s) zw 0 = true), hb1⟩
    case round =>
      clear hown hb1
      obtain ⟨j, hj, rfl, rfl, hown, hok, hb⟩ := hrel
      have hpr := HP.out.below hb HP.out.lt
      have cl := hpr.load
      have hat := okK_at (by rw [HLN.out]; exact hj) hok.out
      rw [bytesI_length] at hat
      by_cases hlt : j < n
      · obtain ⟨ad, u, rfl, had, hu, hcell⟩ := (hA.below hb).at_ hlt
        have hja : j < zw.length := by rw [HLN.out]; exact hlt
        obtain rfl : u = .int .i64 zw[j] := by
          rw [List.getElem?_map, List.getElem?_eq_getElem hja] at hu
          simpa using hu.symm
        have HMX := Lib.hid (mixK_next (l := bytesI s) (n := n) hja hlt)
        have HOS := Lib.hid (okK_succ (l := bytesI s) hja)
        have HBD := Lib.hid (fun h => okK_bad (l := bytesI s) hja h)
        have HAS := Lib.hid (atK_succ hja)
        clear hu
        go_wp2_with fail
        refine (numGet_any s (atK zw j : Nat) zw[j] _ hM (by omega) (by omega)).mono ?_
        rintro e w2 ⟨rfl, rfl⟩
        rw [show getOut (bytesI s) (atK zw j : Nat) zw[j] = .returned (.tuple #[.int .i64 (getVal (bytesI s) (atK zw j : Nat) zw[j]), .int .i64 (getErr (bytesI s) (atK zw j : Nat) zw[j])]) from rfl]
        by_cases he : getErr (bytesI s) (atK zw j : Nat) zw[j] = 0
        · obtain ⟨e1, e2, e3⟩ := err_zero he
          rw [bytesI_length] at e3
          have HOK : Hid (okK (bytesI s) zw (j + 1) = true) := by
            show _ = _
            rw [HOS.out, hok.out, he]
            rfl
          rw [he]
          have hst := hown.stored j (.int .i64 (getVal (bytesI s) (atK zw j : Nat) zw[j]))
          have hcj := hown.cellAt j (by omega)
          obtain ⟨y, hy⟩ : ∃ y, (mixK (bytesI s) zw n j)[j]? = some y := ⟨_, List.getElem?_eq_getElem (by rw [mixK_length hj]; exact hlt)⟩
          rw [List.getElem?_map, hy] at hcj
          have hcj : wr.cell? ⟨w.heap.size, j, none⟩ = some (.int .i64 y) := hcj
          clear hy
          have hfj := hown.frozenAt j
          have hown2 := hst.1
          rw [← List.map_set, HMX.out] at hown2
          have hb2 := hb.grown hst.2 hb.size (fun i hi => (hown.lt i hi).1)
          have hAN : (atK zw j : Int) + zw[j] = ((atK zw (j + 1) : Nat) : Int) := by rw [HAS.out]; omega
          generalize getVal (bytesI s) (atK zw j : Nat) zw[j] = V at *
          clear hst he hpr HBD HOS HMX
          go_wp2_with fail
          go_roundw
          case rel => exact ⟨j + 1, by omega, by go_num, rfl, hown2, HOK, hb2⟩
          case measure => simp [intOf]; omega
        · have HN := Lib.hid (HBD.out he)
          have heb : (getErr (bytesI s) (atK zw j : Nat) zw[j] != 0) = true := by simpa using he
          generalize getErr (bytesI s) (atK zw j : Nat) zw[j] = E at *
          generalize getVal (bytesI s) (atK zw j : Nat) zw[j] = V at *
          clear HOS he HBD
          go_wp2_with fail
          go_ret2
          exact takePost_no HN.out (Only.of_below hb b)
      · obtain rfl : j = n := by omega
        rw [mixK_all] at hown
        have f1 := hpr.free 1
        have hblt := HP.out.lt
        have hown9 := ownsRow_setCell_other hown (a := ⟨b, 1, none⟩) (by intro h; injection h with h; exact absurd h (by show ¬ w.heap.size = b; omega)) (.string (s.extract (atK zw j) s.size))
        have HEND : Hid (TakePost b T k s zw w (.returned (.tuple #[.slice (some ⟨w.heap.size, 0, none⟩) j j, .bool true])) (wr.setCell ⟨b, 1, none⟩ (.string (s.extract (atK zw j) s.size)))) := by
          have hlies := Lies.of_own hown9
          have hl := HLN.out
          subst hl
          exact ⟨(Only.of_below hb b).setAt 1 _, .inl ⟨hok.out, _, _, rfl, hlies, hpr.setLoad _⟩⟩
        clear hown9 hblt
        go_wp2_with fail
        go_ret2
        exact HEND.out
  · have HN : Hid (okK (bytesI s) zw zw.length = false) := okK_long (by rw [bytesI_length, HLN.out]; omega)
    have hlong' : s.size < n := by omega
    clear hlong
    go_enter Tryd.func29, Tryd.ntmps29
    go_wp2_with fail
    go_ret2
    exact takePost_no HN.out (Only.refl _ _)

/-- What Fields answers. -/
def fldB (k : Int) (t : ByteArray) (zw : List Int) : Bool := ofS k t && okK (loadI (bytesI t)) zw zw.length
def fldVal (k : Int) (t : ByteArray) (zw : List Int) : List Int := if fldB k t zw = true then valK (loadI (bytesI t)) zw zw.length else []
def fldRest (k : Int) (t : ByteArray) (zw : List Int) : ByteArray := if fldB k t zw = true then (loadS t).extract (atK zw zw.length) (loadS t).size else ⟨#[]⟩
def fldErr (k : Int) (t : ByteArray) (zw : List Int) : Int := if fldB k t zw = true then 0 else 30
def FieldsPost (k : Int) (t : ByteArray) (zw : List Int) (w : World) (e : Ending) (w' : World) : Prop :=
  Below w.heap.size w w' ∧ ∃ (A : Option Addr) (n c : Nat), e = .returned (.tuple #[.slice A n c, .string (fldRest k t zw), .int .i64 (fldErr k t zw)]) ∧ Hid ((fldVal k t zw).length = n) ∧ Lies w' w'.heap.size A n ((fldVal k t zw).map (Value.int .i64))
theorem fieldsPost_no {k : Int} {t : ByteArray} {zw : List Int} {w w' : World} (h : fldB k t zw = false) (hb : Below w.heap.size w w') : FieldsPost k t zw w (.returned (.tuple #[.slice none 0 0, .string ⟨#[]⟩, .int .i64 30])) w' := by
  refine ⟨hb, none, 0, 0, ?_, ?_, ?_⟩
  · simp [fldRest, fldErr, h]
  · show _ = _
    simp [fldVal, h]
  · simp [fldVal, h]
    exact Lies.nothing
theorem fieldsPost_yes {k : Int} {t : ByteArray} {zw : List Int} {w w' : World} {A : Option Addr} {c : Nat} (h : fldB k t zw = true) (hb : Below w.heap.size w w') (hl : Lies w' w'.heap.size A zw.length ((valK (loadI (bytesI t)) zw zw.length).map (Value.int .i64))) :
    FieldsPost k t zw w (.returned (.tuple #[.slice A zw.length c, .string ((loadS t).extract (atK zw zw.length) (loadS t).size), .int .i64 0])) w' := by
  refine ⟨hb, A, zw.length, c, ?_, ?_, ?_⟩
  · simp [fldRest, fldErr, h]
  · show _ = _
    simp [fldVal, h, valK_length]
  · simpa [fldVal, h] using hl

set_option maxRecDepth 100000 in
set_option maxHeartbeats 1000000 in
theorem Fields_any (k : Int) (t : ByteArray) (A : Option Addr) (n c : Nat) (zw : List Int) (w : World) (hm : t.size ≤ maxLen) (hA : Lies w w.heap.size A n (zw.map (Value.int .i64))) (hn : n ≤ 1099511627776) (ht : TabOk w) :
    Calls Tryd.prog 22 #[.int .i8 k, .string t, .slice A n c] w (FieldsPost k t zw w) := by
  have p0 := ParAt.new w 58 0 ⟨#[]⟩
  have b0 : Below w.heap.size w (w.alloc (.cells #[.int .i8 0, .string ⟨#[]⟩] 58)) := (Below.refl _ _).alloc (Nat.le_refl _) _
  have t0 := ht.alloc (.cells #[.int .i8 0, .string ⟨#[]⟩] 58)
  go_enter Tryd.func22, Tryd.ntmps22
  go_wp2_with fail
  refine (openOf_any w.heap.size 58 0 k ⟨#[]⟩ t _ p0 hm t0).mono ?_
  rintro e w1 ⟨ho, h⟩
  have hb1 := b0.trans (ho.below (by simp) (Nat.le_refl _))
  clear ho p0 b0 t0
  rcases h with ⟨hs, rfl, hp1⟩ | ⟨hs, rfl⟩
  · have h505 : (loadS t).size ≤ 505 := by
      have h1 : isS t = true := by
        unfold ofS at hs
        rw [Bool.and_eq_true] at hs
        exact hs.1
      obtain ⟨h7, h5, _⟩ := isI_parts h1
      rw [bytesI_length] at h7 h5
      rw [loadS_size h7]
      omega
    have HOF := Lib.hid hs
    have hbl := bytesI_loadS t
    have hA1 := hA.up hb1 (Nat.le_refl _)
    clear hs
    go_wp2_with fail
    refine (take_any' w.heap.size 58 k (loadS t) A n c zw w1 hp1 h505 hA1 hn).mono ?_
    rintro e w2 ⟨ho2, h⟩
    rw [hbl] at h
    have hb2 : Below w.heap.size w w2 := hb1.trans (ho2.below hb1.size (Nat.le_refl _))
    clear ho2 hp1 hA1 hb1
    rcases h with ⟨hok, A2, c2, rfl, hl2, hp2⟩ | ⟨hok, rfl⟩
    · have HB : Hid (fldB k t zw = true) := by
        show _ = _
        unfold fldB
        rw [HOF.out, hok]
        rfl
      have cl := hp2.load
      clear hp2 hok
      go_wp2_with fail
      go_quiet (fail)
      go_wp2
      go_ret3
      exact fieldsPost_yes HB.out (hb2.trans (drewN_below _ _ _)) (lies_drewN hl2)
    · have HB : Hid (fldB k t zw = false) := by
        show _ = _
        unfold fldB
        rw [hok, Bool.and_false]
      clear hok
      go_wp2_with fail
      go_ret3
      exact fieldsPost_no HB.out hb2
  · have HB : Hid (fldB k t zw = false) := by
      show _ = _
      unfold fldB
      rw [hs, Bool.false_and]
    clear hs
    go_wp2_with fail
    go_ret3
    exact fieldsPost_no HB.out hb1

end Go.Proofs.YtgllamjgagbblaaDoor
