/-
  Contracts of chapter 4, the program's side: sumByRule, RuleAll, BallSum (written by wip/gen_rulec.py).
-/
import Derived.Test.YtkgfbmlhplclfaaGreatDoorRuleA
import Derived.Test.YtkgfbmlhplclfaaGreatDoorRuleX
import Derived.Test.YtkgfbmlhplclfaaGreatDoorZoks
namespace Go.Proofs.YtkgfbmlhplclfaaGreatDoor
open Go.RowKit

end Go.Proofs.YtkgfbmlhplclfaaGreatDoor
