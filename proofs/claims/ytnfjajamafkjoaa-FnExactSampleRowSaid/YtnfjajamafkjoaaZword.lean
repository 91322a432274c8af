/-
  Words, plain lemmas and contracts that belong together, joined into one file.
-/
import Derived.Test.YtnfjajamafkjoaaZoks
import Derived.Test.YtnfjajamafkjoaaZpl
namespace Go.Proofs.Ytnfjajamafkjoaa
open Go.RowKit

end Go.Proofs.Ytnfjajamafkjoaa

namespace Go.Proofs.Ytnfjajamafkjoaa
open Go.RowKit

end Go.Proofs.Ytnfjajamafkjoaa
