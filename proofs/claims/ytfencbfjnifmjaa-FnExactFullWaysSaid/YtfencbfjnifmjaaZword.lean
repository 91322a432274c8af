/-
  Contracts of chapter 2, the specification's side: WordOk, AllWays, SameApart.
-/
import Derived.Test.YtfencbfjnifmjaaZoks
import Derived.Test.YtfencbfjnifmjaaZpl
namespace Go.Proofs.Ytfencbfjnifmjaa
open Go.RowKit

end Go.Proofs.Ytfencbfjnifmjaa
