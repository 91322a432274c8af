/-
  Contracts of chapter 4, the specification's side: the recursion l4Balls; RuleAll, BallSum.
-/
import Derived.Test.YtffllkmaifjpfaaRuleW
namespace Go.Proofs.Ytffllkmaifjpfaa
open Go.RowKit

end Go.Proofs.Ytffllkmaifjpfaa
