/-
  Contracts of chapter 4, the program's side: sumByRule, RuleAll, BallSum (written by wip/gen_rulec.py).
-/
import Derived.Test.YtffllkmaifjpfabRuleA
import Derived.Test.YtffllkmaifjpfabRuleX
import Derived.Test.YtffllkmaifjpfabZoks
namespace Go.Proofs.Ytffllkmaifjpfab
open Go.RowKit

end Go.Proofs.Ytffllkmaifjpfab
