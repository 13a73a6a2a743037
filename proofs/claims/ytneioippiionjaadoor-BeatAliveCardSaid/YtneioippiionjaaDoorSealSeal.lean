/-
  seal: Seal, and the document's own Seal: by contract.
-/
import Derived.Test.YtneioippiionjaaDoorSealDo
namespace Go.Proofs.YtneioippiionjaaDoor
open Go.RowKit
set_option linter.unusedVariables false
set_option linter.unusedSimpArgs false

/-- What Seal answers. -/
def sealVal (k : Int) (s : ByteArray) : ByteArray := if mayS k s = true then sealS k s else ⟨#[]⟩
def sealErr (k : Int) (s : ByteArray) : Int := if mayS k s = true then 0 else 2
def sealOut (k : Int) (s : ByteArray) : Ending := .returned (.tuple #[.string (sealVal k s), .int .i64 (sealErr k s)])
theorem of_mayS {k : Int} {s : ByteArray} (h : mayS k s = true) : 1 ≤ k ∧ s.size ≤ 505 := by simpa [mayS] using h
theorem mayS_yes {k : Int} {s : ByteArray} (h1 : 1 ≤ k) (h2 : s.size ≤ 505) : mayS k s = true := by simp [mayS, h1, h2]
theorem mayS_no {k : Int} {s : ByteArray} (h : ¬ (1 ≤ k ∧ s.size ≤ 505)) : mayS k s = false := by
  rcases hh : mayS k s with _ | _
  · rfl
  · exact absurd (of_mayS hh) h
theorem sealOut_yes {k : Int} {s : ByteArray} (h : mayS k s = true) : sealOut k s = .returned (.tuple #[.string (sealS k s), .int .i64 0]) := by
  simp [sealOut, sealVal, sealErr, h]
theorem sealOut_no {k : Int} {s : ByteArray} (h : mayS k s = false) : sealOut k s = .returned (.tuple #[.string ⟨#[]⟩, .int .i64 2]) := by
  simp [sealOut, sealVal, sealErr, h]



end Go.Proofs.YtneioippiionjaaDoor
