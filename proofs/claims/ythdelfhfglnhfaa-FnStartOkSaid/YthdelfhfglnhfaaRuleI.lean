/-
  Contracts of chapter 4, the program's side: all seven (RuleA: RuleOk, StartOk, EvenRule; RuleC: RuleAll, BallSum; RuleD: AfterWord, RuleWays).
-/
import Derived.Test.YthdelfhfglnhfaaRuleC
import Derived.Test.YthdelfhfglnhfaaRuleD
namespace Go.Proofs.Ythdelfhfglnhfaa
open Go.RowKit
end Go.Proofs.Ythdelfhfglnhfaa
