/-
  Contracts of chapter 4, the program's side: all seven (RuleA: RuleOk, StartOk, EvenRule; RuleC: RuleAll, BallSum; RuleD: AfterWord, RuleWays).
-/
import Derived.Test.YtpnjihpdipoajaaRuleC
import Derived.Test.YtpnjihpdipoajaaRuleD
namespace Go.Proofs.Ytpnjihpdipoajaa
open Go.RowKit
end Go.Proofs.Ytpnjihpdipoajaa
