/-
  Two rows of numbers compared, by contract; what the document's examples come to.
-/
import Derived.Test.YtdjkomagpihgdaaNumGet
import Derived.BigQuiet
import Derived.Deep.QuietTactic
namespace Go.Proofs.Ytdjkomagpihgdaa
open Go.RowKit
set_option linter.unusedVariables false
set_option linter.unusedSimpArgs false

theorem own_drewN {w : World} {base n q : Nat} {e : TypeId} {v : Value} {xs : List Value} (h : w.ownsRow base e 1 v n xs) : (w.drewN q).ownsRow base e 1 v n xs := h
theorem lies_drewN {w : World} {B n q : Nat} {A : Option Addr} {xs : List Value} (h : Lies w B A n xs) : Lies (w.drewN q) B A n xs := h
theorem drewN_add (w : World) (p q : Nat) : (w.drewN p).drewN q = w.drewN (p + q) := by
  induction q with
  | zero => rfl
  | succ q ih => show ((w.drewN p).drewN q).drew = (w.drewN (p + q)).drew; rw [ih]

theorem take_eq_succ {l m : List Int} {k : Nat} (h1 : k < l.length) (h2 : k < m.length) (h : l.take k = m.take k) (hk : l[k] = m[k]) : l.take (k + 1) = m.take (k + 1) := by
  rw [List.take_succ_eq_append_getElem h1, List.take_succ_eq_append_getElem h2, h, hk]


end Go.Proofs.Ytdjkomagpihgdaa
