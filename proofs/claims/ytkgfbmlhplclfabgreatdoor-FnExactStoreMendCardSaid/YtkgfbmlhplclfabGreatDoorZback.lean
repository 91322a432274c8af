/-
  Words, plain lemmas and contracts that belong together, joined into one file.
-/
import Derived.Test.YtkgfbmlhplclfabGreatDoorZimp
import Derived.Test.YtkgfbmlhplclfabGreatDoorZpl
namespace Go.Proofs.YtkgfbmlhplclfabGreatDoor
open Go.RowKit

end Go.Proofs.YtkgfbmlhplclfabGreatDoor

namespace Go.Proofs.YtkgfbmlhplclfabGreatDoor
open Go.RowKit

end Go.Proofs.YtkgfbmlhplclfabGreatDoor
