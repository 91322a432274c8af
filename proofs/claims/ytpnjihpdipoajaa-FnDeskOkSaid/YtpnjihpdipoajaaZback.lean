/-
  Words, plain lemmas and contracts that belong together, joined into one file.
-/
import Derived.Test.YtpnjihpdipoajaaZimp
import Derived.Test.YtpnjihpdipoajaaZpl
namespace Go.Proofs.Ytpnjihpdipoajaa
open Go.RowKit

end Go.Proofs.Ytpnjihpdipoajaa

namespace Go.Proofs.Ytpnjihpdipoajaa
open Go.RowKit

end Go.Proofs.Ytpnjihpdipoajaa
