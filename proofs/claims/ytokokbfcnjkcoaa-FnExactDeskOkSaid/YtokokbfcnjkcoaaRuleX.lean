/-
  Contracts of chapter 4, the specification's side: the recursion l4Balls; RuleAll, BallSum.
-/
import Derived.Test.YtokokbfcnjkcoaaRuleW
namespace Go.Proofs.Ytokokbfcnjkcoaa
open Go.RowKit

end Go.Proofs.Ytokokbfcnjkcoaa
