/-
  Contracts of the laws' helpers samePlace, sameDesk and noDesk (written by wip/gen_f2.py).
-/
import Derived.Test.YtpkbmmepapgogaaGreatDoorZpx
import Derived.Test.YtpkbmmepapgogaaGreatDoorZdraw
import Derived.Deep.RegionHeld3
import Derived.Deep.RegionLaw
namespace Go.Proofs.YtpkbmmepapgogaaGreatDoor
open Go.RowKit
set_option linter.unusedVariables false

end Go.Proofs.YtpkbmmepapgogaaGreatDoor
