/-
  seal: Open, Of, and the document's own Open, Of: by contract.
-/
import Derived.Test.YtjdacpnfgpdjhaaDoorSealOpen
namespace Go.Proofs.YtjdacpnfgpdjhaaDoor
open Go.RowKit
set_option linter.unusedVariables false
set_option linter.unusedSimpArgs false

/-- Is this a sector of that kind? -/
def ofS (k : Int) (t : ByteArray) : Bool := isS t && decide (kindS t = k)
def OfPost (b : Nat) (T : TypeId) (k : Int) (t : ByteArray) (w : World) (e : Ending) (w' : World) : Prop :=
  Only b w w' ∧ ((ofS k t = true ∧ e = .returned (.bool true) ∧ ParAt w' b T k (loadS t)) ∨ (ofS k t = false ∧ e = .returned (.bool false)))

set_option maxRecDepth 100000 in
theorem openOf_any (b : Nat) (T : TypeId) (k0 k : Int) (s0 t : ByteArray) (w : World) (hp : ParAt w b T k0 s0) (hm : t.size ≤ maxLen) (ht : TabOk w) :
    Calls Tryd.prog 66 #[.pointer (some ⟨b, 0, none⟩), .int .i8 k, .string t] w (OfPost b T k t w) := by
  go_enter Tryd.func66, Tryd.ntmps66
  go_wp2_with fail
  refine (open_any b T k0 s0 t w hp hm ht).mono ?_
  rintro e w1 ⟨ho, h⟩
  rcases h with ⟨hs, rfl, hp1⟩ | ⟨hs, rfl, hp1⟩
  · have ck := hp1.kind
    by_cases hk : kindS t = k
    · have HO : Hid (ofS k t = true) := by show _ = _; simp [ofS, hs, hk]
      have hb : (kindS t == k) = true := by simpa using hk
      rw [hk] at ck hp1
      clear hk
      go_wp2_with fail
      go_ret
      exact ⟨ho, .inl ⟨HO.out, rfl, hp1⟩⟩
    · have HO : Hid (ofS k t = false) := by show _ = _; simp [ofS, hk]
      have hb : (kindS t == k) = false := by simpa using hk
      clear hk
      go_wp2_with fail
      go_ret
      exact ⟨ho, .inr ⟨HO.out, rfl⟩⟩
  · have HO : Hid (ofS k t = false) := by show _ = _; simp [ofS, hs]
    go_wp2_with fail
    go_ret
    exact ⟨ho, .inr ⟨HO.out, rfl⟩⟩

/-- What Open and Of answer. -/
def openOut (t : ByteArray) : Ending := if isS t = true then .returned (.tuple #[.int .i8 (kindS t), .string (loadS t), .int .i64 0]) else .returned (.tuple #[.int .i8 0, .string ⟨#[]⟩, .int .i64 30])
def ofOut (k : Int) (t : ByteArray) : Ending := if ofS k t = true then .returned (.tuple #[.string (loadS t), .int .i64 0]) else .returned (.tuple #[.string ⟨#[]⟩, .int .i64 30])
theorem openOut_yes {t : ByteArray} (h : isS t = true) : openOut t = .returned (.tuple #[.int .i8 (kindS t), .string (loadS t), .int .i64 0]) := if_pos h
theorem openOut_no {t : ByteArray} (h : isS t = false) : openOut t = .returned (.tuple #[.int .i8 0, .string ⟨#[]⟩, .int .i64 30]) := if_neg (by rw [h]; simp)
theorem ofOut_yes {k : Int} {t : ByteArray} (h : ofS k t = true) : ofOut k t = .returned (.tuple #[.string (loadS t), .int .i64 0]) := if_pos h
theorem ofOut_no {k : Int} {t : ByteArray} (h : ofS k t = false) : ofOut k t = .returned (.tuple #[.string ⟨#[]⟩, .int .i64 30]) := if_neg (by rw [h]; simp)


set_option maxRecDepth 100000 in
theorem Of_any (k : Int) (t : ByteArray) (w : World) (hm : t.size ≤ maxLen) (ht : TabOk w) :
    Calls Tryd.prog 47 #[.int .i8 k, .string t] w fun e w' => e = ofOut k t ∧ Below w.heap.size w w' := by
  have p0 := ParAt.new w 81 0 ⟨#[]⟩
  have b0 : Below w.heap.size w (w.alloc (.cells #[.int .i8 0, .string ⟨#[]⟩] 81)) := (Below.refl _ _).alloc (Nat.le_refl _) _
  have t0 := ht.alloc (.cells #[.int .i8 0, .string ⟨#[]⟩] 81)
  go_enter Tryd.func47, Tryd.ntmps47
  go_wp2_with fail
  refine (openOf_any w.heap.size 81 0 k ⟨#[]⟩ t _ p0 hm t0).mono ?_
  rintro e w1 ⟨ho, h⟩
  have hb1 := b0.trans (ho.below (by simp) (Nat.le_refl _))
  clear ho p0 b0 t0
  rcases h with ⟨hs, rfl, hp1⟩ | ⟨hs, rfl⟩
  · have HO := Lib.hid (ofOut_yes hs)
    have cl := hp1.load
    clear hp1 hs
    go_wp2_with fail
    go_ret2
    exact ⟨HO.out.symm, hb1⟩
  · have HO := Lib.hid (ofOut_no hs)
    clear hs
    go_wp2_with fail
    go_ret2
    exact ⟨HO.out.symm, hb1⟩

theorem kind_first {t : ByteArray} (h : 0 < t.size) : kindS t = ((t[0]'h).toNat : Int) := by
  have e := take_one (l := bytesI t) (by rw [bytesI_length]; exact h)
  have e2 : (bytesI t)[0]? = some ((t[0]'h).toNat : Int) := by
    simp [bytesI, h]
    rfl
  have e3 : ((bytesI t).take 1)[0]? = (bytesI t)[0]? := by rw [List.getElem?_take]; simp
  rw [e, e2] at e3
  exact Option.some.inj e3
theorem isS_seal {t : ByteArray} (h7 : 7 ≤ t.size) (h5 : t.size ≤ 512) (h1 : 1 ≤ kindS t) (h2 : kindS t ≤ 127) : isS t = true ↔ sealS (kindS t) (loadS t) = t := by
  unfold isS isI
  rw [decide_eq_true_iff, bytesI_length]
  constructor
  · rintro ⟨_, _, _, _, h⟩
    apply bytesI_inj
    rw [bytesI_sealS (by omega) (by omega), bytesI_loadS]
    exact h
  · intro h
    refine ⟨h7, h5, h1, h2, ?_⟩
    have := congrArg bytesI h
    rw [bytesI_sealS (by omega) (by omega), bytesI_loadS] at this
    exact this
theorem loadS_size {t : ByteArray} (h7 : 7 ≤ t.size) : (loadS t).size = t.size - 7 := by unfold loadS; rw [ByteArray.size_extract]; omega

set_option maxRecDepth 100000 in
set_option maxHeartbeats 1000000 in
theorem refOpen_any (t : ByteArray) (w : World) (hm : t.size ≤ maxLen) :
    Calls Tryd.prog 48 #[.string t] w fun e w' => e = openOut t ∧ Below w.heap.size w w' := by
  have hM := Lib.hid hm
  unfold maxLen at hm
  by_cases h7 : 7 ≤ t.size
  · by_cases h5 : t.size ≤ 512
    · have ek := kind_first (t := t) (by omega)
      have kb := t[0].toNat_lt
      have hpos : 0 < t.size := by omega
      by_cases hk1 : 1 ≤ t[0].toNat
      · by_cases hk2 : t[0].toNat ≤ 127
        · go_enter Tryd.func48, Tryd.ntmps48
          go_wp2_with fail
          go_quiet (fail)
          go_wp2_with fail
          refine (refSeal_any (t[0].toNat : Int) (t.extract 3 (t.size - 4)) _ (by omega) (by rw [ByteArray.size_extract]; have := hM.out; omega)).mono ?_
          rintro e w2 ⟨rfl, hb2⟩
          have hb02 : Below w.heap.size w w2 := (drewN_below w nq w.heap.size).trans hb2
          have hll := loadS_size h7
          have hll' : (t.extract 3 (t.size - 4)).size = t.size - 7 := hll
          have hsz := sealS_size (kindS t) (loadS t)
          have HSO := isS_seal h7 h5 (by omega) (by omega)
          rw [show sealOut (t[0].toNat : Int) (t.extract 3 (t.size - 4)) = .returned (.tuple #[.string (sealS (kindS t) (loadS t)), .int .i64 0]) from by
            rw [← ek]
            exact sealOut_yes (mayS_yes (by omega) (by rw [hll']; omega))]
          by_cases hst : sealS (kindS t) (loadS t) = t
          · have HO := Lib.hid (openOut_yes (HSO.2 hst))
            rw [hst]
            rw [ek, show loadS t = t.extract 3 (t.size - 4) from rfl] at HO
            clear hst HSO hsz hll hb2
            go_wp2_with fail
            go_ret3
            exact ⟨HO.out.symm, hb02⟩
          · have hn : isS t = false := by
              rcases hh : isS t with _ | _
              · rfl
              · exact absurd (HSO.1 hh) hst
            have HO := Lib.hid (openOut_no hn)
            generalize sealS (kindS t) (loadS t) = S at *
            have hbn := str_diff hst
            clear hst HSO hsz hll hb2 hn
            go_wp2_with fail
            go_ret3
            exact ⟨HO.out.symm, hb02⟩
        · have HO := Lib.hid (openOut_no (isS_no_kind h7 h5 (by omega)))
          go_enter Tryd.func48, Tryd.ntmps48
          go_wp2_with fail
          go_ret3
          exact ⟨HO.out.symm, Below.refl _ _⟩
      · have hk1' : t[0].toNat < 1 := by omega
        have HO := Lib.hid (openOut_no (isS_no_kind h7 h5 (by omega)))
        go_enter Tryd.func48, Tryd.ntmps48
        go_wp2_with fail
        go_ret3
        exact ⟨HO.out.symm, Below.refl _ _⟩
    · have HO := Lib.hid (openOut_no (isS_no (t := t) (by omega)))
      have h5' : 512 < t.size := by omega
      clear h5
      go_enter Tryd.func48, Tryd.ntmps48
      go_wp2_with fail
      go_ret3
      exact ⟨HO.out.symm, Below.refl _ _⟩
  · have HO := Lib.hid (openOut_no (isS_no (t := t) (by omega)))
    have h7' : t.size < 7 := by omega
    clear h7
    go_enter Tryd.func48, Tryd.ntmps48
    go_wp2_with fail
    go_ret3
    exact ⟨HO.out.symm, Below.refl _ _⟩

set_option maxRecDepth 100000 in
theorem refOf_any (k : Int) (t : ByteArray) (w : World) (hm : t.size ≤ maxLen) :
    Calls Tryd.prog 28 #[.int .i8 k, .string t] w fun e w' => e = ofOut k t ∧ Below w.heap.size w w' := by
  go_enter Tryd.func28, Tryd.ntmps28
  go_wp2_with fail
  refine (refOpen_any t _ hm).mono ?_
  rintro e w1 ⟨rfl, hb1⟩
  by_cases hs : isS t = true
  · rw [openOut_yes hs]
    by_cases hk : kindS t = k
    · have HO : Hid (ofOut k t = _) := ofOut_yes (by simp [ofS, hs, hk])
      have hbk : (kindS t != k) = false := by rw [hk]; simp
      clear hk hs
      go_wp2_with fail
      go_ret2
      exact ⟨HO.out.symm, hb1⟩
    · have HO : Hid (ofOut k t = _) := ofOut_no (by simp [ofS, hk])
      have hbk : (kindS t != k) = true := by simpa using hk
      clear hk hs
      go_wp2_with fail
      go_ret2
      exact ⟨HO.out.symm, hb1⟩
  · have hs' : isS t = false := by simpa using hs
    have HO : Hid (ofOut k t = _) := ofOut_no (by simp [ofS, hs'])
    rw [openOut_no hs']
    clear hs hs'
    go_wp2_with fail
    go_ret2
    exact ⟨HO.out.symm, hb1⟩

end Go.Proofs.YtjdacpnfgpdjhaaDoor
