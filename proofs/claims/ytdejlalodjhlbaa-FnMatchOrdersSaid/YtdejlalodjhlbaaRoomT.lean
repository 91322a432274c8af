/-
  Contracts of chapter 7, the specification's side: RestRow, LeanAfter.
-/
import Derived.Test.YtdejlalodjhlbaaRoomS
namespace Go.Proofs.Ytdejlalodjhlbaa
open Go.RowKit
set_option linter.unusedVariables false

end Go.Proofs.Ytdejlalodjhlbaa
