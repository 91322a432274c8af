/-
  Words, plain lemmas and contracts that belong together, joined into one file.
-/
import Derived.Test.YtpkbmmepapgogaaGreatDoorZimp
import Derived.Test.YtpkbmmepapgogaaGreatDoorZpl
namespace Go.Proofs.YtpkbmmepapgogaaGreatDoor
open Go.RowKit

end Go.Proofs.YtpkbmmepapgogaaGreatDoor

namespace Go.Proofs.YtpkbmmepapgogaaGreatDoor
open Go.RowKit

end Go.Proofs.YtpkbmmepapgogaaGreatDoor
