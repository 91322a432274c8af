/-
  Contracts of chapter 4, the specification's side: the recursion l4Balls; RuleAll, BallSum.
-/
import Derived.Test.YtdnnobkkilffbabRuleW
namespace Go.Proofs.Ytdnnobkkilffbab
open Go.RowKit

end Go.Proofs.Ytdnnobkkilffbab
