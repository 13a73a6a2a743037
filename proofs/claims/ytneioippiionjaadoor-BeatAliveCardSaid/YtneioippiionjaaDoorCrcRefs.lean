/-
  The document's own answer for crc: Move, Back, Add, Sum, Both.
-/
import Derived.Test.YtneioippiionjaaDoorCrcTake
namespace Go.Proofs.YtneioippiionjaaDoor
open Go.RowKit
set_option linter.unusedVariables false
set_option linter.unusedSimpArgs false

def movedBy (d : Bool) (x n : Int) : Nat := mv d (8 * n.toNat) (r32 x)
theorem movedBy_lt (d : Bool) (x n : Int) : movedBy d x n < 4294967296 := mv_lt d _ (r32_lt x)


theorem moved_one {X q : Nat} (h : X ^^^ q < 4294967296) : movedBy false ((X ^^^ q : Nat) : Int) 1 = stN 8 (X ^^^ q) := by
  unfold movedBy
  rw [r32_nat h]
  rfl



end Go.Proofs.YtneioippiionjaaDoor
