/-
  Arguments opened: a geometry by value; a row of texts.
-/
import Derived.Test.YtjdacpnfgpdjhaaDoorGeoBytes
import Derived.Test.YtjdacpnfgpdjhaaDoorGeoRR
import Derived.Test.YtjdacpnfgpdjhaaDoorGeoArg
import Derived.Lib.SmallJoins
import Derived.SliceStrings
import Derived.Deep.Fields
import Derived.OpenShut
namespace Go.Proofs.YtjdacpnfgpdjhaaDoor
open Go.Joins Go.ChangeShapes Go.WideShapes Go.RowKit Go.Deep
set_option linter.unusedVariables false
set_option linter.unusedSimpArgs false

section
/-- What the walk is told of a row of texts that came in. -/
def IsStrs (w : World) (a : Option Addr) (len cap : Nat) (zs : List ByteArray) : Prop :=
  (a = none ∧ len = 0 ∧ cap = 0 ∧ zs = []) ∨
  ∃ x : Addr, a = some x ∧ len ≤ cap ∧ cap ≤ maxLen ∧ zs.length = cap ∧ (∀ i, i < zs.length → w.cell? (x.add i) = some (.string (zs.getD i ByteArray.empty))) ∧ ∀ s ∈ zs, s.size ≤ maxLen
theorem lies_of_strs {w : World} {a : Option Addr} {len cap : Nat} {zs : List ByteArray} (h : IsStrs w a len cap zs) :
    Lies w w.heap.size a len (strV (zs.take len)) ∧ (∀ s ∈ zs.take len, s.size ≤ maxLen) ∧ len ≤ maxLen := by
  rcases h with ⟨rfl, rfl, rfl, rfl⟩ | ⟨x, rfl, hl, hm, hz, hc, hw⟩
  · exact ⟨Lies.nothing, by simp, Nat.zero_le _⟩
  · refine ⟨⟨by simp [strV]; omega, fun hn => ⟨x, rfl, ?_, fun j u hu => ?_⟩⟩, fun n hn => hw n (List.mem_of_mem_take hn), by omega⟩
    · have := World.block_lt_of_cell? w _ (hc 0 (by omega))
      rwa [add_block] at this
    · have hj : j < len := by
        have := (List.getElem?_eq_some_iff.1 hu).1
        simp [strV] at this
        omega
      rw [hc j (by omega), ← hu, strV, List.getElem?_map, List.getElem?_take, if_pos hj]
      simp [List.getD, List.getElem?_eq_getElem (show j < zs.length by omega)]
end

end Go.Proofs.YtjdacpnfgpdjhaaDoor
