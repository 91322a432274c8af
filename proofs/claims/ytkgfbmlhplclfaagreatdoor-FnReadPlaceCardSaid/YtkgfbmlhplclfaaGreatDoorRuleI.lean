/-
  Contracts of chapter 4, the program's side: all seven (RuleA: RuleOk, StartOk, EvenRule; RuleC: RuleAll, BallSum; RuleD: AfterWord, RuleWays).
-/
import Derived.Test.YtkgfbmlhplclfaaGreatDoorRuleC
import Derived.Test.YtkgfbmlhplclfaaGreatDoorRuleD
namespace Go.Proofs.YtkgfbmlhplclfaaGreatDoor
open Go.RowKit
end Go.Proofs.YtkgfbmlhplclfaaGreatDoor
