/-
  The document's own Make, by contract.
-/
import Derived.Test.YtgllamjgagbblaaDoorSealTake
import Derived.Deep.RegionWith
namespace Go.Proofs.YtgllamjgagbblaaDoor
open Go.RowKit
set_option linter.unusedVariables false
set_option linter.unusedSimpArgs false

theorem okP_one (x n : Int) : okP x [n] = fitsB x n := by
  unfold okP
  simp only [List.all_cons, List.all_nil, Bool.and_true]
  rcases hm : mayB x with _ | _
  · rw [fitsB_no_width hm]; rfl
  · rfl
/-- One number, put behind bytes: one outcome, whether it fits or not. -/
theorem put_one_named {x n : Int} {zb : List Int} {w : World} {e : Ending} {w' : World} (h : PutPost x zb [n] w e w') :
    Below w.heap.size w w' ∧ ∃ (A : Option Addr) (q c : Nat) (err : Int) (zs : List Int), e = .returned (.tuple #[.slice A q c, .int .i64 err]) ∧ Hid (zs.length = q) ∧ Lies w' w'.heap.size A q (zs.map (Value.int .u8)) ∧
      Hid ((fitsB x n = true ∧ err = 0 ∧ zs = zb ++ enc x.toNat n) ∨ (fitsB x n = false ∧ err = 2)) := by
  obtain ⟨hb, A, q, c, err, zs, he, HE, HZ, HN, hl⟩ := put_named h
  refine ⟨hb, A, q, c, err, zs, he, HN, hl, ?_⟩
  have h1 := HE.out
  have h2 := HZ.out
  by_cases hf : fitsB x n = true
  · have ho : okP x [n] = true := by rw [okP_one]; exact hf
    rw [errP_yes ho] at h1
    rw [bytesP_yes ho] at h2
    exact .inl ⟨hf, h1, by simpa [encs] using h2⟩
  · have hf' : fitsB x n = false := by simpa using hf
    have ho : okP x [n] = false := by rw [okP_one]; exact hf'
    rw [errP_no ho] at h1
    exact .inr ⟨hf', h1⟩

theorem encZ_take (zz : List (Int × Int)) (i : Nat) : (encZ (zz.take i)).length ≤ (encZ zz).length := by
  have e : encZ zz = encZ (zz.take i) ++ encZ (zz.drop i) := by
    have h2 : ∀ a b : List (Int × Int), encZ (a ++ b) = encZ a ++ encZ b := fun a b => by simp [encZ]
    have := h2 (zz.take i) (zz.drop i)
    rwa [List.take_append_drop] at this
  rw [e, List.length_append]
  omega
theorem makeB_too_long {k : Int} {s : ByteArray} {zw zl : List Int} (i : Nat) (h : 505 < (encZ ((zw.zip zl).take i)).length) : makeB k s zw zl = false := by
  rcases hh : makeB k s zw zl with _ | _
  · rfl
  · have h3 := (of_mayS (makeB_iff.1 hh).2.2).2
    rw [makeS_size] at h3
    have := encZ_take (zw.zip zl) i
    omega
theorem makeB_bad {k : Int} {s : ByteArray} {zw zl : List Int} (h : okZ (zw.zip zl) = false) : makeB k s zw zl = false := by
  unfold makeB
  rw [h, Bool.and_false, Bool.false_and]
theorem makeOut_seal {k : Int} {s : ByteArray} {zw zl : List Int} (h1 : zw.length = zl.length) (h2 : okZ (zw.zip zl) = true) : makeOut k s zw zl = sealOut k (makeS s zw zl) := by
  have hB : makeB k s zw zl = mayS k (makeS s zw zl) := by
    unfold makeB
    rw [decide_eq_true h1, h2]
    rfl
  by_cases hm : mayS k (makeS s zw zl) = true
  · rw [makeOut_yes (hB.trans hm), sealOut_yes hm]
  · have hm' : mayS k (makeS s zw zl) = false := by simpa using hm
    rw [makeOut_no (hB.trans hm'), sealOut_no hm']


end Go.Proofs.YtgllamjgagbblaaDoor
