/-
  Words, plain lemmas and contracts that belong together, joined into one file.
-/
import Derived.Test.YtpnjihpdipoajabDoorZimp
import Derived.Test.YtpnjihpdipoajabDoorZpl
namespace Go.Proofs.YtpnjihpdipoajabDoor
open Go.RowKit

end Go.Proofs.YtpnjihpdipoajabDoor

namespace Go.Proofs.YtpnjihpdipoajabDoor
open Go.RowKit

end Go.Proofs.YtpnjihpdipoajabDoor
