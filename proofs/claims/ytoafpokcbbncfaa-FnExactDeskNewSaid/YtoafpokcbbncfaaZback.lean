/-
  Words, plain lemmas and contracts that belong together, joined into one file.
-/
import Derived.Test.YtoafpokcbbncfaaZimp
import Derived.Test.YtoafpokcbbncfaaZpl
namespace Go.Proofs.Ytoafpokcbbncfaa
open Go.RowKit

end Go.Proofs.Ytoafpokcbbncfaa

namespace Go.Proofs.Ytoafpokcbbncfaa
open Go.RowKit

end Go.Proofs.Ytoafpokcbbncfaa
