/-
  Words, plain lemmas and contracts that belong together, joined into one file.
-/
import Derived.Test.YtbjjlgnelbcmlaaZimp
import Derived.Test.YtbjjlgnelbcmlaaZpl
namespace Go.Proofs.Ytbjjlgnelbcmlaa
open Go.RowKit

end Go.Proofs.Ytbjjlgnelbcmlaa

namespace Go.Proofs.Ytbjjlgnelbcmlaa
open Go.RowKit

end Go.Proofs.Ytbjjlgnelbcmlaa
