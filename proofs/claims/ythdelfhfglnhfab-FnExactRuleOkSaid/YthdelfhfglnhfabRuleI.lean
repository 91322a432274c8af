/-
  Contracts of chapter 4, the program's side: all seven (RuleA: RuleOk, StartOk, EvenRule; RuleC: RuleAll, BallSum; RuleD: AfterWord, RuleWays).
-/
import Derived.Test.YthdelfhfglnhfabRuleC
import Derived.Test.YthdelfhfglnhfabRuleD
namespace Go.Proofs.Ythdelfhfglnhfab
open Go.RowKit
end Go.Proofs.Ythdelfhfglnhfab
