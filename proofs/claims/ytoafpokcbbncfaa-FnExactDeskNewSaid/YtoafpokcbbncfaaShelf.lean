/-
  The library's contracts, laid over this program (by the kit's own commands).
-/
import Derived.Test.YtoafpokcbbncfaaProg
namespace Go.Proofs

end Go.Proofs
