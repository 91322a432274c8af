/-
  Contracts of chapter 4, the program's side: all seven (RuleA: RuleOk, StartOk, EvenRule; RuleC: RuleAll, BallSum; RuleD: AfterWord, RuleWays).
-/
import Derived.Test.YtffllkmaifjpfaaRuleC
import Derived.Test.YtffllkmaifjpfaaRuleD
namespace Go.Proofs.Ytffllkmaifjpfaa
open Go.RowKit
end Go.Proofs.Ytffllkmaifjpfaa
