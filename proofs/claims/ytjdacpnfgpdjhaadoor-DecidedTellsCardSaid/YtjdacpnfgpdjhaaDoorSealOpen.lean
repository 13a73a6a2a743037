/-
  seal: opening a sector, through a pointer: by contract.
-/
import Derived.Test.YtjdacpnfgpdjhaaDoorSealSeal
namespace Go.Proofs.YtjdacpnfgpdjhaaDoor
open Go.RowKit
set_option linter.unusedVariables false
set_option linter.unusedSimpArgs false

/-- A text's kind and load, should it be a sector. -/
def loadS (t : ByteArray) : ByteArray := t.extract 3 (t.size - 4)
theorem bytesI_loadS (t : ByteArray) : bytesI (loadS t) = loadI (bytesI t) := by
  unfold loadS loadI
  rw [bytesI_extract2, bytesI_length]
  congr 1
def isS (t : ByteArray) : Bool := isI (bytesI t)
def kindS (t : ByteArray) : Int := kindI (bytesI t)

/-- Numbers of up to five bytes fit. -/
theorem getOut_small {l : List Int} (hl : IsBytes l) {a X : Nat} (h1 : 1 ≤ X) (h5 : X ≤ 5) (h : a + X ≤ l.length) : getOut l a X = .returned (.tuple #[.int .i64 (dec ((l.drop a).take X)), .int .i64 0]) := by
  have hb := dec_bd (isBytes_take (isBytes_drop hl a) X)
  rw [List.length_take, List.length_drop, Nat.min_eq_left (by omega)] at hb
  have hm : mostOf (X : Int) = 256 ^ X - 1 := by
    have : X = 1 ∨ X = 2 ∨ X = 3 ∨ X = 4 ∨ X = 5 := by omega
    rcases this with rfl | rfl | rfl | rfl | rfl <;> rfl
  have hf : fitsB (X : Int) (dec ((l.drop a).take X)) = true := fitsB_yes (by omega) (by omega) hb.1 (by rw [hm]; omega)
  exact getOut_yes (mayB_yes (by omega) (by omega)) (by omega) (by omega) hf

/-- What opening comes to. -/
def OpenPost (b : Nat) (T : TypeId) (k0 : Int) (s0 t : ByteArray) (w : World) (e : Ending) (w' : World) : Prop :=
  Only b w w' ∧ ((isS t = true ∧ e = .returned (.bool true) ∧ ParAt w' b T (kindS t) (loadS t)) ∨ (isS t = false ∧ e = .returned (.bool false) ∧ ParAt w' b T k0 s0))

theorem openPost_no {b : Nat} {T : TypeId} {k0 : Int} {s0 t : ByteArray} {w w' : World} (h : isS t = false) (ho : Only b w w') (hp : ParAt w' b T k0 s0) : OpenPost b T k0 s0 t w (.returned (.bool false)) w' := ⟨ho, .inr ⟨h, rfl, hp⟩⟩
theorem openPost_yes {b : Nat} {T : TypeId} {k0 : Int} {s0 t : ByteArray} {w w' : World} (h : isS t = true) (ho : Only b w w') (hp : ParAt w' b T (kindS t) (loadS t)) : OpenPost b T k0 s0 t w (.returned (.bool true)) w' := ⟨ho, .inl ⟨h, rfl, hp⟩⟩
theorem isS_no {t : ByteArray} (h : ¬ (7 ≤ t.size ∧ t.size ≤ 512)) : isS t = false := isI_no (by rw [bytesI_length]; exact h)
theorem isS_iff {t : ByteArray} (h7 : 7 ≤ t.size) (h5 : t.size ≤ 512) :
    isS t = true ↔ 1 ≤ kindS t ∧ kindS t ≤ 127 ∧ countI (bytesI t) = ((t.size - 7 : Nat) : Int) ∧ lastI (bytesI t) = (sumI ((bytesI t).take (t.size - 4)) : Nat) := by
  have h := isI_iff (bytesI_bytes t) (by rw [bytesI_length]; exact h7) (by rw [bytesI_length]; exact h5)
  rw [bytesI_length] at h
  exact h
theorem isS_no_kind {t : ByteArray} (h7 : 7 ≤ t.size) (h5 : t.size ≤ 512) (h : ¬ (1 ≤ kindS t ∧ kindS t ≤ 127)) : isS t = false := by
  rcases hh : isS t with _ | _
  · rfl
  · have := (isS_iff h7 h5).1 hh
    exact absurd ⟨this.1, this.2.1⟩ h
theorem isS_no_count {t : ByteArray} (h7 : 7 ≤ t.size) (h5 : t.size ≤ 512) (h : ¬ countI (bytesI t) = ((t.size - 7 : Nat) : Int)) : isS t = false := by
  rcases hh : isS t with _ | _
  · rfl
  · exact absurd ((isS_iff h7 h5).1 hh).2.2.1 h
theorem isS_no_last {t : ByteArray} (h7 : 7 ≤ t.size) (h5 : t.size ≤ 512) (h : ¬ lastI (bytesI t) = (sumI ((bytesI t).take (t.size - 4)) : Nat)) : isS t = false := by
  rcases hh : isS t with _ | _
  · rfl
  · exact absurd ((isS_iff h7 h5).1 hh).2.2.2 h

set_option maxRecDepth 100000 in
set_option maxHeartbeats 1000000 in
theorem open_any (b : Nat) (T : TypeId) (k0 : Int) (s0 t : ByteArray) (w : World) (hp : ParAt w b T k0 s0) (hm : t.size ≤ maxLen) (ht : TabOk w) :
    Calls Tryd.prog 87 #[.pointer (some ⟨b, 0, none⟩), .string t] w (OpenPost b T k0 s0 t w) := by
  have hM := Lib.hid hm
  unfold maxLen at hm
  by_cases h7 : 7 ≤ t.size
  · by_cases h5 : t.size ≤ 512
    · have g1 := getOut_small (bytesI_bytes t) (a := 0) (X := 1) (by omega) (by omega) (by rw [bytesI_length]; omega)
      have g2 := getOut_small (bytesI_bytes t) (a := 1) (X := 2) (by omega) (by omega) (by rw [bytesI_length]; omega)
      have g3 := getOut_small (bytesI_bytes t) (a := t.size - 4) (X := 4) (by omega) (by omega) (by rw [bytesI_length]; omega)
      have e1 : dec (((bytesI t).drop 0).take 1) = kindS t := rfl
      have e2 : dec (((bytesI t).drop 1).take 2) = countI (bytesI t) := rfl
      have e3 : dec (((bytesI t).drop (t.size - 4)).take 4) = lastI (bytesI t) := by unfold lastI; rw [bytesI_length]
      rw [e1] at g1
      rw [e2] at g2
      rw [e3, show ((t.size - 4 : Nat) : Int) = (t.size : Int) - 4 by omega] at g3
      have G1 := Lib.hid g1
      have G2 := Lib.hid g2
      have G3 := Lib.hid g3
      clear g1 g2 g3 e1 e2 e3
      go_enter Tryd.func87, Tryd.ntmps87
      go_wp2_with fail
      refine (numGet_any t 0 1 w hM.out (by omega) (by omega)).mono ?_
      rintro e w1 ⟨rfl, rfl⟩
      rw [show getOut (bytesI t) 0 1 = _ from G1.out]
      go_wp2_with fail
      refine (numGet_any t 1 2 w hM.out (by omega) (by omega)).mono ?_
      rintro e w1 ⟨rfl, rfl⟩
      rw [show getOut (bytesI t) 1 2 = _ from G2.out]
      go_wp2_with fail
      refine (numGet_any t ((t.size : Int) - 4) 4 w hM.out (by omega) (by omega)).mono ?_
      rintro e w1 ⟨rfl, rfl⟩
      rw [show getOut (bytesI t) ((t.size : Int) - 4) 4 = _ from G3.out]
      have kb := kind_bd (bytesI_bytes t) (by rw [bytesI_length]; omega)
      have cb := count_bd (bytesI_bytes t) (by rw [bytesI_length]; omega)
      have lb := last_bd (bytesI_bytes t) (by rw [bytesI_length]; omega)
      have HK := Lib.hid (isS_no_kind h7 h5)
      have HC := Lib.hid (isS_no_count h7 h5)
      have HL := Lib.hid (isS_no_last h7 h5)
      have HI := Lib.hid (isS_iff h7 h5)
      have hkd : kindI (bytesI t) = kindS t := rfl
      rw [hkd] at kb
      clear G1 G2 G3 hkd
      by_cases hk1 : 1 ≤ kindS t
      · by_cases hk2 : kindS t ≤ 127
        · by_cases hc : countI (bytesI t) = (t.size : Int) - 4 - 3
          · have hcb : (countI (bytesI t) != (t.size : Int) - 4 - 3) = false := by rw [hc]; simp
            obtain ⟨A0, c0, wb, hcv, hA0, hb0⟩ := str_to_bytes (P := Tryd.prog) w 9 50 5 (t.extract 0 (t.size - 4)) Tryd.underlying9 Tryd.underlying50 Tryd.underlying5
            have hsz : (t.extract 0 (t.size - 4)).size = t.size - 4 := by rw [ByteArray.size_extract]; omega
            have hby : bytesI (t.extract 0 (t.size - 4)) = (bytesI t).take (t.size - 4) := bytesI_take t _
            have hpb := hp.below hb0 hp.lt
            have htb := ht.below hb0
            rw [hsz] at hA0 hcv
            rw [hby] at hA0
            have hbt := isBytes_take (bytesI_bytes t) (t.size - 4)
            clear hsz hby
            go_wp2_with fail
            refine (sumI_any (t.size - 4) c0 A0 ((bytesI t).take (t.size - 4)) wb htb hA0 hbt (by omega)).mono ?_
            rintro e w5 ⟨rfl, hb5⟩
            have hp5 := hpb.below hb5 hpb.lt
            have hb05 := hb0.trans (hb5.mono hb0.size)
            have ho5 := Only.of_below hb05 b
            clear hpb htb hA0 hbt hb5 hb05 hcv hb0
            by_cases hl : lastI (bytesI t) = (sumI ((bytesI t).take (t.size - 4)) : Nat)
            · have HY := HI.out.2 ⟨hk1, hk2, by omega, hl⟩
              rw [hl]
              have ck := hp5.kind
              have cl := hp5.load
              have f0 := hp5.free 0
              have f1 := hp5.free 1
              generalize sumI ((bytesI t).take (t.size - 4)) = S at *
              clear HK HC HL HI hl lb
              go_wp2_with fail
              go_ret
              exact openPost_yes HY ((ho5.setAt 0 _).setAt 1 _) ((hp5.setKind (kindS t)).setLoad (loadS t))
            · have HN := HL.out hl
              have hlb : (lastI (bytesI t) != ((sumI ((bytesI t).take (t.size - 4)) : Nat) : Int)) = true := by simpa using hl
              generalize sumI ((bytesI t).take (t.size - 4)) = S at *
              clear HK HC HL HI hl
              go_wp2_with fail
              go_ret
              exact openPost_no HN ho5 hp5
          · have hcb : (countI (bytesI t) != (t.size : Int) - 4 - 3) = true := by simpa using hc
            have HN := HC.out (by omega)
            clear HK HC HL HI hc
            go_wp2_with fail
            go_ret
            exact openPost_no HN (Only.refl _ _) hp
        · have HN := HK.out (by omega)
          clear HK HC HL HI
          go_wp2_with fail
          go_ret
          exact openPost_no HN (Only.refl _ _) hp
      · have hk1' : kindS t < 1 := by omega
        have HN := HK.out (by omega)
        clear HK HC HL HI
        go_wp2_with fail
        go_ret
        exact openPost_no HN (Only.refl _ _) hp
    · have HN := isS_no (t := t) (by omega)
      have h5' : 512 < t.size := by omega
      clear h5
      go_enter Tryd.func87, Tryd.ntmps87
      go_wp2_with fail
      go_ret
      exact openPost_no HN (Only.refl _ _) hp
  · have HN := isS_no (t := t) (by omega)
    have h7' : t.size < 7 := by omega
    clear h7
    go_enter Tryd.func87, Tryd.ntmps87
    go_wp2_with fail
    go_ret
    exact openPost_no HN (Only.refl _ _) hp

end Go.Proofs.YtjdacpnfgpdjhaaDoor
