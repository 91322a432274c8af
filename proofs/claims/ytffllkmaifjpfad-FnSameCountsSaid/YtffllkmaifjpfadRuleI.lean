/-
  Contracts of chapter 4, the program's side: all seven (RuleA: RuleOk, StartOk, EvenRule; RuleC: RuleAll, BallSum; RuleD: AfterWord, RuleWays).
-/
import Derived.Test.YtffllkmaifjpfadRuleC
import Derived.Test.YtffllkmaifjpfadRuleD
namespace Go.Proofs.Ytffllkmaifjpfad
open Go.RowKit
end Go.Proofs.Ytffllkmaifjpfad
