/-
  Contracts of chapter 4, the program's side: all seven (RuleA: RuleOk, StartOk, EvenRule; RuleC: RuleAll, BallSum; RuleD: AfterWord, RuleWays).
-/
import Derived.Test.YtffllkmaifjpfabRuleC
import Derived.Test.YtffllkmaifjpfabRuleD
namespace Go.Proofs.Ytffllkmaifjpfab
open Go.RowKit
end Go.Proofs.Ytffllkmaifjpfab
