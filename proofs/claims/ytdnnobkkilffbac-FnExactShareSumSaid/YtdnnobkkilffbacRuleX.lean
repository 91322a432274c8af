/-
  Contracts of chapter 4, the specification's side: the recursion l4Balls; RuleAll, BallSum.
-/
import Derived.Test.YtdnnobkkilffbacRuleW
namespace Go.Proofs.Ytdnnobkkilffbac
open Go.RowKit

end Go.Proofs.Ytdnnobkkilffbac
