/-
  Words, plain lemmas and contracts that belong together, joined into one file.
-/
import Derived.Test.YtbjjlgnelbcmlaaZoks
import Derived.Test.YtbjjlgnelbcmlaaZpl
import Derived.StillTailTactics
namespace Go.Proofs.Ytbjjlgnelbcmlaa
open Go.RowKit

end Go.Proofs.Ytbjjlgnelbcmlaa

namespace Go.Proofs.Ytbjjlgnelbcmlaa
open Go.RowKit

end Go.Proofs.Ytbjjlgnelbcmlaa

namespace Go.Proofs.Ytbjjlgnelbcmlaa
open Go.RowKit

end Go.Proofs.Ytbjjlgnelbcmlaa
