/-
  Contracts of chapter 7, the specification's side: RestRow, LeanAfter.
-/
import Derived.Test.YtghaajcpmepdoaaRoomS
namespace Go.Proofs.Ytghaajcpmepdoaa
open Go.RowKit
set_option linter.unusedVariables false

end Go.Proofs.Ytghaajcpmepdoaa
