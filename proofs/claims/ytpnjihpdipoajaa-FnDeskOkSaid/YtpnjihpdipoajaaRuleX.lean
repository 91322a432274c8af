/-
  Contracts of chapter 4, the specification's side: the recursion l4Balls; RuleAll, BallSum.
-/
import Derived.Test.YtpnjihpdipoajaaRuleW
namespace Go.Proofs.Ytpnjihpdipoajaa
open Go.RowKit

end Go.Proofs.Ytpnjihpdipoajaa
