/-
  Contracts of chapter 14, the specification's side: StoreOk, StoreSync, StoreCrash.
-/
import Derived.Test.YtpkbmmepapgogabGreatDoorZjs
import Derived.Test.YtpkbmmepapgogabGreatDoorZpb
namespace Go.Proofs.YtpkbmmepapgogabGreatDoor
open Go.RowKit
set_option linter.unusedVariables false

end Go.Proofs.YtpkbmmepapgogabGreatDoor
