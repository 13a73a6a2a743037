/-
  The document's commands: bytes read as a command, all kinds: by contract.
-/
import Derived.Test.YtjdacpnfgpdjhaaDoorCmdRefReadB
import Derived.Test.YtjdacpnfgpdjhaaDoorCmdRefReadC
import Derived.Test.YtjdacpnfgpdjhaaDoorCmdRefReadD
import Derived.Test.YtjdacpnfgpdjhaaDoorCmdRefReadE
import Derived.Test.YtjdacpnfgpdjhaaDoorCmdRefReadF
import Derived.Test.YtjdacpnfgpdjhaaDoorCmdRefReadG
namespace Go.Proofs.YtjdacpnfgpdjhaaDoor
open Go.RowKit
set_option linter.unusedVariables false
set_option linter.unusedSimpArgs false

set_option maxRecDepth 100000 in
set_option maxHeartbeats 4000000 in
theorem refRead_any (s : ByteArray) (w : World) (hs : s.size ≤ 17592186044416) :
    Calls Tryd.prog 25 #[.string s] w fun e w' => e = .returned (.tuple #[.agg (cmdA (crC s)), .int .i64 (crE s)]) ∧ Below w.heap.size w w' := by
  by_cases h11 : 11 ≤ s.size
  · cases hf : fitsB ((6 : Nat) : Int) (dec (((bytesI s).drop 1).take 6)) with
    | true =>
      by_cases k1 : 127 < cKindOf (bytesI s)
      · exact refRead_g s w hs h11 hf k1
      by_cases k2 : cKindOf (bytesI s) = 2
      · exact refRead_2 s w hs h11 hf k2
      by_cases k3 : cKindOf (bytesI s) = 3
      · exact refRead_3 s w hs h11 hf k3
      by_cases k4 : cKindOf (bytesI s) = 4
      · exact refRead_4 s w hs h11 hf k4
      by_cases k5 : cKindOf (bytesI s) = 5
      · exact refRead_5 s w hs h11 hf k5
      exact refRead_o s w hs h11 hf ⟨by omega, k2, k3, k4, k5⟩
    | false => exact refRead_n s w hs (.inr ⟨h11, hf⟩)
  · exact refRead_n s w hs (.inl (by omega))

end Go.Proofs.YtjdacpnfgpdjhaaDoor
