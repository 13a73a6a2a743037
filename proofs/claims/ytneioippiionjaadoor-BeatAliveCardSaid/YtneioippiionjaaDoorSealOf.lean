/-
  seal: Open, Of, and the document's own Open, Of: by contract.
-/
import Derived.Test.YtneioippiionjaaDoorSealOpen
namespace Go.Proofs.YtneioippiionjaaDoor
open Go.RowKit
set_option linter.unusedVariables false
set_option linter.unusedSimpArgs false

/-- Is this a sector of that kind? -/
def ofS (k : Int) (t : ByteArray) : Bool := isS t && decide (kindS t = k)
def OfPost (b : Nat) (T : TypeId) (k : Int) (t : ByteArray) (w : World) (e : Ending) (w' : World) : Prop :=
  Only b w w' ∧ ((ofS k t = true ∧ e = .returned (.bool true) ∧ ParAt w' b T k (loadS t)) ∨ (ofS k t = false ∧ e = .returned (.bool false)))

set_option maxRecDepth 100000 in
theorem openOf_any (b : Nat) (T : TypeId) (k0 k : Int) (s0 t : ByteArray) (w : World) (hp : ParAt w b T k0 s0) (hm : t.size ≤ maxLen) (ht : TabOk w) :
    Calls Tryd.prog 30 #[.pointer (some ⟨b, 0, none⟩), .int .i8 k, .string t] w (OfPost b T k t w) := by
  go_enter Tryd.func30, Tryd.ntmps30
  go_wp2_with fail
  refine (open_any b T k0 s0 t w hp hm ht).mono ?_
  rintro e w1 ⟨ho, h⟩
  rcases h with ⟨hs, rfl, hp1⟩ | ⟨hs, rfl, hp1⟩
  · have ck := hp1.kind
    by_cases hk : kindS t = k
    · have HO : Hid (ofS k t = true) := by show _ = _; simp [ofS, hs, hk]
      have hb : (kindS t == k) = true := by simpa using hk
      rw [hk] at ck hp1
      clear hk
      go_wp2_with fail
      go_ret
      exact ⟨ho, .inl ⟨HO.out, rfl, hp1⟩⟩
    · have HO : Hid (ofS k t = false) := by show _ = _; simp [ofS, hk]
      have hb : (kindS t == k) = false := by simpa using hk
      clear hk
      go_wp2_with fail
      go_ret
      exact ⟨ho, .inr ⟨HO.out, rfl⟩⟩
  · have HO : Hid (ofS k t = false) := by show _ = _; simp [ofS, hs]
    go_wp2_with fail
    go_ret
    exact ⟨ho, .inr ⟨HO.out, rfl⟩⟩

/-- What Open and Of answer. -/
def openOut (t : ByteArray) : Ending := if isS t = true then .returned (.tuple #[.int .i8 (kindS t), .string (loadS t), .int .i64 0]) else .returned (.tuple #[.int .i8 0, .string ⟨#[]⟩, .int .i64 30])
def ofOut (k : Int) (t : ByteArray) : Ending := if ofS k t = true then .returned (.tuple #[.string (loadS t), .int .i64 0]) else .returned (.tuple #[.string ⟨#[]⟩, .int .i64 30])
theorem openOut_yes {t : ByteArray} (h : isS t = true) : openOut t = .returned (.tuple #[.int .i8 (kindS t), .string (loadS t), .int .i64 0]) := if_pos h
theorem openOut_no {t : ByteArray} (h : isS t = false) : openOut t = .returned (.tuple #[.int .i8 0, .string ⟨#[]⟩, .int .i64 30]) := if_neg (by rw [h]; simp)
theorem ofOut_yes {k : Int} {t : ByteArray} (h : ofS k t = true) : ofOut k t = .returned (.tuple #[.string (loadS t), .int .i64 0]) := if_pos h
theorem ofOut_no {k : Int} {t : ByteArray} (h : ofS k t = false) : ofOut k t = .returned (.tuple #[.string ⟨#[]⟩, .int .i64 30]) := if_neg (by rw [h]; simp)



theorem kind_first {t : ByteArray} (h : 0 < t.size) : kindS t = ((t[0]'h).toNat : Int) := by
  have e := take_one (l := bytesI t) (by rw [bytesI_length]; exact h)
  have e2 : (bytesI t)[0]? = some ((t[0]'h).toNat : Int) := by
    simp [bytesI, h]
    rfl
  have e3 : ((bytesI t).take 1)[0]? = (bytesI t)[0]? := by rw [List.getElem?_take]; simp
  rw [e, e2] at e3
  exact Option.some.inj e3
theorem isS_seal {t : ByteArray} (h7 : 7 ≤ t.size) (h5 : t.size ≤ 512) (h1 : 1 ≤ kindS t) (h2 : kindS t ≤ 127) : isS t = true ↔ sealS (kindS t) (loadS t) = t := by
  unfold isS isI
  rw [decide_eq_true_iff, bytesI_length]
  constructor
  · rintro ⟨_, _, _, _, h⟩
    apply bytesI_inj
    rw [bytesI_sealS (by omega) (by omega), bytesI_loadS]
    exact h
  · intro h
    refine ⟨h7, h5, h1, h2, ?_⟩
    have := congrArg bytesI h
    rw [bytesI_sealS (by omega) (by omega), bytesI_loadS] at this
    exact this
theorem loadS_size {t : ByteArray} (h7 : 7 ≤ t.size) : (loadS t).size = t.size - 7 := by unfold loadS; rw [ByteArray.size_extract]; omega



end Go.Proofs.YtneioippiionjaaDoor
