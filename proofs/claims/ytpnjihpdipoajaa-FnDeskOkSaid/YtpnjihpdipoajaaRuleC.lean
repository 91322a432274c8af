/-
  Contracts of chapter 4, the program's side: sumByRule, RuleAll, BallSum (written by wip/gen_rulec.py).
-/
import Derived.Test.YtpnjihpdipoajaaRuleA
import Derived.Test.YtpnjihpdipoajaaRuleX
import Derived.Test.YtpnjihpdipoajaaZoks
namespace Go.Proofs.Ytpnjihpdipoajaa
open Go.RowKit

end Go.Proofs.Ytpnjihpdipoajaa
