/-
  What was sealed is opened as it was, and what is opened, sealed, is the sector. It speaks of no program's function.
-/
import Derived.Test.YtjdacpnfgpdjhaaDoorSealSeal
import Derived.Test.YtjdacpnfgpdjhaaDoorSealOf
namespace Go.Proofs.YtjdacpnfgpdjhaaDoor
open Go.RowKit
set_option linter.unusedVariables false
set_option linter.unusedSimpArgs false

theorem isS_sealS {k : Int} {s : ByteArray} (h : mayS k s = true) (h2 : k ≤ 127) : isS (sealS k s) = true := by
  obtain ⟨h1, h3⟩ := of_mayS h
  unfold isS
  rw [bytesI_sealS (by omega) (by omega)]
  exact isI_seal h1 h2 (by rw [bytesI_length]; exact h3)
theorem kindS_sealS {k : Int} (s : ByteArray) (h1 : 1 ≤ k) (h2 : k ≤ 127) : kindS (sealS k s) = k := by
  unfold kindS
  rw [bytesI_sealS (by omega) (by omega), kind_seal]
theorem loadS_sealS {k : Int} (s : ByteArray) (h1 : 1 ≤ k) (h2 : k ≤ 127) : loadS (sealS k s) = s := by
  apply bytesI_inj
  rw [bytesI_loadS, bytesI_sealS (by omega) (by omega), load_seal]
theorem open_seal {k : Int} {s : ByteArray} (h : mayS k s = true) (h2 : k ≤ 127) : openOut (sealS k s) = .returned (.tuple #[.int .i8 k, .string s, .int .i64 0]) := by
  rw [openOut_yes (isS_sealS h h2), kindS_sealS s (of_mayS h).1 h2, loadS_sealS s (of_mayS h).1 h2]
theorem seal_open {t : ByteArray} (h : isS t = true) : kindS t ≤ 127 ∧ (loadS t).size ≤ 505 ∧ sealOut (kindS t) (loadS t) = .returned (.tuple #[.string t, .int .i64 0]) := by
  obtain ⟨h7, h5, h1, h2, _⟩ := isI_parts h
  rw [bytesI_length] at h7 h5
  have hl := loadS_size h7
  have h1 : 1 ≤ kindS t := h1
  have h2 : kindS t ≤ 127 := h2
  refine ⟨h2, by omega, ?_⟩
  rw [sealOut_yes (mayS_yes h1 (by omega)), (isS_seal h7 h5 h1 h2).1 h]

end Go.Proofs.YtjdacpnfgpdjhaaDoor
