/-
  How many bytes a row of texts has, the program's way and the document's.
-/
import Derived.Test.YtjdacpnfgpdjhaaDoorAid
import Derived.Test.YtjdacpnfgpdjhaaDoorMem
namespace Go.Proofs.YtjdacpnfgpdjhaaDoor
open Go.RowKit
set_option linter.unusedVariables false
set_option linter.unusedSimpArgs false

/-- The sum of the texts' lengths, as an int is added up. -/
def sumW (l : List ByteArray) : Int := l.foldl (fun a s => wrap64 (a + (s.size : Int))) 0
theorem sumW_take {l : List ByteArray} {k : Nat} (h : k < l.length) : sumW (l.take (k + 1)) = wrap64 (sumW (l.take k) + (l[k].size : Int)) := by
  rw [List.take_succ_eq_append_getElem h, sumW, List.foldl_append]
  rfl
/-- A row of texts. -/
def strV (ss : List ByteArray) : List Value := ss.map Value.string
theorem str_at {w : World} {B n : Nat} {A : Option Addr} {ss : List ByteArray} (h : Lies w B A n (strV ss)) {k : Nat} (hk : k < n) (hl : k < ss.length) :
    ∃ ad : Addr, A = some ad ∧ w.cell? (ad.add k) = some (.string ss[k]) := by
  obtain ⟨ad, u, hA, _, hu, hc⟩ := h.at_ hk
  refine ⟨ad, hA, ?_⟩
  rw [hc, ← hu, strV, List.getElem?_map, List.getElem?_eq_getElem hl]
  rfl

end Go.Proofs.YtjdacpnfgpdjhaaDoor
