/-
  Words, plain lemmas and contracts that belong together, joined into one file.
-/
import Derived.Test.YtpkbmmepapgogabGreatDoorZimp
import Derived.Test.YtpkbmmepapgogabGreatDoorZpl
namespace Go.Proofs.YtpkbmmepapgogabGreatDoor
open Go.RowKit

end Go.Proofs.YtpkbmmepapgogabGreatDoor

namespace Go.Proofs.YtpkbmmepapgogabGreatDoor
open Go.RowKit

end Go.Proofs.YtpkbmmepapgogabGreatDoor
