/-
  Words, plain lemmas and contracts that belong together, joined into one file.
-/
import Derived.Test.YtokokbfcnjkcoaaZimp
import Derived.Test.YtokokbfcnjkcoaaZpl
namespace Go.Proofs.Ytokokbfcnjkcoaa
open Go.RowKit

end Go.Proofs.Ytokokbfcnjkcoaa

namespace Go.Proofs.Ytokokbfcnjkcoaa
open Go.RowKit

end Go.Proofs.Ytokokbfcnjkcoaa
