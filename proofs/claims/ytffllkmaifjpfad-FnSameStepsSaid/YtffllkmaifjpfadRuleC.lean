/-
  Contracts of chapter 4, the program's side: sumByRule, RuleAll, BallSum (written by wip/gen_rulec.py).
-/
import Derived.Test.YtffllkmaifjpfadRuleA
import Derived.Test.YtffllkmaifjpfadRuleX
import Derived.Test.YtffllkmaifjpfadZoks
namespace Go.Proofs.Ytffllkmaifjpfad
open Go.RowKit

end Go.Proofs.Ytffllkmaifjpfad
