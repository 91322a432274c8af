/-
  Contracts of chapter 4, the program's side: all seven (RuleA: RuleOk, StartOk, EvenRule; RuleC: RuleAll, BallSum; RuleD: AfterWord, RuleWays).
-/
import Derived.Test.YtffllkmaifjpfacRuleC
import Derived.Test.YtffllkmaifjpfacRuleD
namespace Go.Proofs.Ytffllkmaifjpfac
open Go.RowKit
end Go.Proofs.Ytffllkmaifjpfac
