/-
  Contracts of chapter 4, the specification's side: the recursion l4Balls; RuleAll, BallSum.
-/
import Derived.Test.YtffllkmaifjpfacRuleW
namespace Go.Proofs.Ytffllkmaifjpfac
open Go.RowKit

end Go.Proofs.Ytffllkmaifjpfac
