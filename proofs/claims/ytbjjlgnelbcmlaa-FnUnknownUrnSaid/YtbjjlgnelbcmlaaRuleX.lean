/-
  Contracts of chapter 4, the specification's side: the recursion l4Balls; RuleAll, BallSum.
-/
import Derived.Test.YtbjjlgnelbcmlaaRuleW
namespace Go.Proofs.Ytbjjlgnelbcmlaa
open Go.RowKit

end Go.Proofs.Ytbjjlgnelbcmlaa
