/-
  Words, plain lemmas and contracts that belong together, joined into one file.
-/
import Derived.Test.YtdnnobkkilffbacZoks
import Derived.Test.YtdnnobkkilffbacZpl
import Derived.StillTailTactics
namespace Go.Proofs.Ytdnnobkkilffbac
open Go.RowKit

end Go.Proofs.Ytdnnobkkilffbac

namespace Go.Proofs.Ytdnnobkkilffbac
open Go.RowKit

end Go.Proofs.Ytdnnobkkilffbac

namespace Go.Proofs.Ytdnnobkkilffbac
open Go.RowKit

end Go.Proofs.Ytdnnobkkilffbac
