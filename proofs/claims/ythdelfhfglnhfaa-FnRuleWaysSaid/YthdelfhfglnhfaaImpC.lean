/-
  Contracts of chapter 2, the program's side: writeInBase.
-/
import Derived.Test.YthdelfhfglnhfaaImpB
namespace Go.Proofs.Ythdelfhfglnhfaa
open Go.RowKit

end Go.Proofs.Ythdelfhfglnhfaa
