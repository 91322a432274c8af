/-
  Words, plain lemmas and contracts that belong together, joined into one file.
-/
import Derived.Test.YtjkccfnbepbmbaaZoks
import Derived.Test.YtjkccfnbepbmbaaZpl
namespace Go.Proofs.Ytjkccfnbepbmbaa
open Go.RowKit

end Go.Proofs.Ytjkccfnbepbmbaa

namespace Go.Proofs.Ytjkccfnbepbmbaa
open Go.RowKit

end Go.Proofs.Ytjkccfnbepbmbaa
