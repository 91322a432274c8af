/-
  Words, plain lemmas and contracts that belong together, joined into one file.
-/
import Derived.Test.YtkgfbmlhplclfaaDoorZimp
import Derived.Test.YtkgfbmlhplclfaaDoorZpl
namespace Go.Proofs.YtkgfbmlhplclfaaDoor
open Go.RowKit

end Go.Proofs.YtkgfbmlhplclfaaDoor

namespace Go.Proofs.YtkgfbmlhplclfaaDoor
open Go.RowKit

end Go.Proofs.YtkgfbmlhplclfaaDoor
