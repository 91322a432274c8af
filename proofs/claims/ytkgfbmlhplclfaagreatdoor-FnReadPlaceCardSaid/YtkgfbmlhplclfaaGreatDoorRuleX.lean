/-
  Contracts of chapter 4, the specification's side: the recursion l4Balls; RuleAll, BallSum.
-/
import Derived.Test.YtkgfbmlhplclfaaGreatDoorRuleW
namespace Go.Proofs.YtkgfbmlhplclfaaGreatDoor
open Go.RowKit

end Go.Proofs.YtkgfbmlhplclfaaGreatDoor
