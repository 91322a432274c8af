/-
  Contracts of chapter 7, the specification's side: RestRow, LeanAfter.
-/
import Derived.Test.YtfencbfjnifmjaaRoomS
namespace Go.Proofs.Ytfencbfjnifmjaa
open Go.RowKit
set_option linter.unusedVariables false

end Go.Proofs.Ytfencbfjnifmjaa
