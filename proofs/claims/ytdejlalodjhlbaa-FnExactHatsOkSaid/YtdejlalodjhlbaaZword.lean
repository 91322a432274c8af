/-
  Words, plain lemmas and contracts that belong together, joined into one file.
-/
import Derived.Test.YtdejlalodjhlbaaZoks
import Derived.Test.YtdejlalodjhlbaaZpl
namespace Go.Proofs.Ytdejlalodjhlbaa
open Go.RowKit

end Go.Proofs.Ytdejlalodjhlbaa

namespace Go.Proofs.Ytdejlalodjhlbaa
open Go.RowKit

end Go.Proofs.Ytdejlalodjhlbaa
