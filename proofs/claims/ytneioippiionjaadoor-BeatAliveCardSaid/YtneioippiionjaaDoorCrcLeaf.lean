/-
  crc: moving a register by a bit, forth and back; the document's own step; the shell round a sum.
-/
import Derived.Test.YtneioippiionjaaDoorCrcBits
namespace Go.Proofs.YtneioippiionjaaDoor
open Go.RowKit
set_option linter.unusedVariables false
set_option linter.unusedSimpArgs false

set_option maxRecDepth 100000 in
theorem from_any (x : Int) (w : World) (h0 : -9223372036854775808 ≤ x) (h1 : x ≤ 9223372036854775807) :
    Calls Tryd.prog 33 #[.int .i64 x] w fun e w' => e = .returned (.agg #[.int .u32 (ones (r32 x) : Nat)]) ∧ Below w.heap.size w w' := by
  have hn := u32_not x
  go_enter Tryd.func33, Tryd.ntmps33
  go_wp2_with fail
  exact bodyPost_ret (v := .agg #[.int .u32 (ones (r32 x) : Nat)]) (by simp [results, Tryd.results33, go_sem]) rfl ⟨rfl, (Below.refl _ _).alloc (Nat.le_refl _) _⟩

set_option maxRecDepth 100000 in
theorem sum_any (b : Nat) (T : TypeId) (x : Nat) (w : World) (hx : x < 4294967296) (hr : RegAt w b T x) :
    Calls Tryd.prog 35 #[.pointer (some ⟨b, 0, none⟩)] w fun e w' => e = .returned (.int .i64 (ones x : Nat)) ∧ w = w' := by
  have hc := hr.cell
  have hn := u32_not_nat x hx
  have hl := w64 _ (ones_lt hx)
  clear hr
  go_enter Tryd.func35, Tryd.ntmps35
  go_wp2_with fail
  go_ret
  exact ⟨rfl, rfl⟩

end Go.Proofs.YtneioippiionjaaDoor
