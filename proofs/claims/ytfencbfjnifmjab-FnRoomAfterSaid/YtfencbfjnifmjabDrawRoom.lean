/-
  The drawn inputs of chapter 7: a number of balls and a row.
-/
import Derived.Test.YtfencbfjnifmjabZdraw
import Derived.Test.YtfencbfjnifmjabRoomT
namespace Go.Proofs.Ytfencbfjnifmjab
open Go.RowKit
set_option linter.unusedVariables false

end Go.Proofs.Ytfencbfjnifmjab
