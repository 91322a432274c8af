/-
  Contracts of chapter 4, the program's side: sumByRule, RuleAll, BallSum (written by wip/gen_rulec.py).
-/
import Derived.Test.YtokokbfcnjkcoaaRuleA
import Derived.Test.YtokokbfcnjkcoaaRuleX
import Derived.Test.YtokokbfcnjkcoaaZoks
namespace Go.Proofs.Ytokokbfcnjkcoaa
open Go.RowKit

end Go.Proofs.Ytokokbfcnjkcoaa
