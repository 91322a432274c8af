/-
  Words, plain lemmas and contracts that belong together, joined into one file.
-/
import Derived.Test.YtkgfbmlhplclfaaGreatDoorZimp
import Derived.Test.YtkgfbmlhplclfaaGreatDoorZpl
namespace Go.Proofs.YtkgfbmlhplclfaaGreatDoor
open Go.RowKit

end Go.Proofs.YtkgfbmlhplclfaaGreatDoor

namespace Go.Proofs.YtkgfbmlhplclfaaGreatDoor
open Go.RowKit

end Go.Proofs.YtkgfbmlhplclfaaGreatDoor
