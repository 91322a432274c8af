/-
  Words, plain lemmas and contracts that belong together, joined into one file.
-/
import Derived.Test.YtdnnobkkilffbacZimp
import Derived.Test.YtdnnobkkilffbacZpl
namespace Go.Proofs.Ytdnnobkkilffbac
open Go.RowKit

end Go.Proofs.Ytdnnobkkilffbac

namespace Go.Proofs.Ytdnnobkkilffbac
open Go.RowKit

end Go.Proofs.Ytdnnobkkilffbac
