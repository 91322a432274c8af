/-
  Words, plain lemmas and contracts that belong together, joined into one file.
-/
import Derived.Test.YtpkbmmepapgogabGreatDoorZtx
import Derived.Test.YtpkbmmepapgogabGreatDoorZpb
import Derived.Deep.RegionHeld3
import Derived.Test.YtpkbmmepapgogabGreatDoorZpd
import Derived.StillTailTactics
namespace Go.Proofs.YtpkbmmepapgogabGreatDoor
open Go.RowKit
set_option linter.unusedVariables false

end Go.Proofs.YtpkbmmepapgogabGreatDoor

namespace Go.Proofs.YtpkbmmepapgogabGreatDoor
open Go.RowKit
set_option linter.unusedVariables false

end Go.Proofs.YtpkbmmepapgogabGreatDoor

namespace Go.Proofs.YtpkbmmepapgogabGreatDoor
open Go.RowKit
set_option linter.unusedVariables false

end Go.Proofs.YtpkbmmepapgogabGreatDoor

namespace Go.Proofs.YtpkbmmepapgogabGreatDoor
open Go.RowKit
set_option linter.unusedVariables false

end Go.Proofs.YtpkbmmepapgogabGreatDoor

namespace Go.Proofs.YtpkbmmepapgogabGreatDoor
open Go.RowKit
set_option linter.unusedVariables false

end Go.Proofs.YtpkbmmepapgogabGreatDoor
