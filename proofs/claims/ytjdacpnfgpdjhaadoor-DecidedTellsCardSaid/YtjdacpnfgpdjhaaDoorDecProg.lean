/-
  The program's decided sectors, rows of them, last keys: all by contract.
-/
import Derived.Test.YtjdacpnfgpdjhaaDoorDecPrA
import Derived.Test.YtjdacpnfgpdjhaaDoorDecPrR
import Derived.Test.YtjdacpnfgpdjhaaDoorDecPrB
import Derived.Test.YtjdacpnfgpdjhaaDoorDecPrC
namespace Go.Proofs.YtjdacpnfgpdjhaaDoor
end Go.Proofs.YtjdacpnfgpdjhaaDoor
