/-
  Words, plain lemmas and contracts that belong together, joined into one file.
-/
import Derived.Test.YtoafpokcbbncfaaDoorZimp
import Derived.Test.YtoafpokcbbncfaaDoorZpl
namespace Go.Proofs.YtoafpokcbbncfaaDoor
open Go.RowKit

end Go.Proofs.YtoafpokcbbncfaaDoor

namespace Go.Proofs.YtoafpokcbbncfaaDoor
open Go.RowKit

end Go.Proofs.YtoafpokcbbncfaaDoor
