/-
  The reference's Put, by contract.
-/
import Derived.Test.YtneioippiionjaaDoorNumPut
namespace Go.Proofs.YtneioippiionjaaDoor
open Go.RowKit
set_option linter.unusedVariables false
set_option linter.unusedSimpArgs false


end Go.Proofs.YtneioippiionjaaDoor
