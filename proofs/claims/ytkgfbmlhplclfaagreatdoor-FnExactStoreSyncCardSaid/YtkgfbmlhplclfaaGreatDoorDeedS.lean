/-
  Contracts of chapter 14, the specification's side: DeedText.
-/
import Derived.Test.YtkgfbmlhplclfaaGreatDoorZtx
import Derived.Test.YtkgfbmlhplclfaaGreatDoorZpb
import Derived.Deep.RegionHeld3
namespace Go.Proofs.YtkgfbmlhplclfaaGreatDoor
open Go.RowKit
set_option linter.unusedVariables false

end Go.Proofs.YtkgfbmlhplclfaaGreatDoor
