/-
  Contracts of chapter 4, the specification's side: the recursion l4Balls; RuleAll, BallSum.
-/
import Derived.Test.YtdnnobkkilffbaaRuleW
namespace Go.Proofs.Ytdnnobkkilffbaa
open Go.RowKit

end Go.Proofs.Ytdnnobkkilffbaa
