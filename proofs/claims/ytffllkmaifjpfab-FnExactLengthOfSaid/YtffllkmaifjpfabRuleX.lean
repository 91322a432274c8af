/-
  Contracts of chapter 4, the specification's side: the recursion l4Balls; RuleAll, BallSum.
-/
import Derived.Test.YtffllkmaifjpfabRuleW
namespace Go.Proofs.Ytffllkmaifjpfab
open Go.RowKit

end Go.Proofs.Ytffllkmaifjpfab
