/-
  Contracts of chapter 4, the specification's side: the recursion l4Balls; RuleAll, BallSum.
-/
import Derived.Test.YtffllkmaifjpfadRuleW
namespace Go.Proofs.Ytffllkmaifjpfad
open Go.RowKit

end Go.Proofs.Ytffllkmaifjpfad
