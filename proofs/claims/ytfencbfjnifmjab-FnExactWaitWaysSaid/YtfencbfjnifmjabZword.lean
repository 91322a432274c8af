/-
  Contracts of chapter 2, the specification's side: WordOk, AllWays, SameApart.
-/
import Derived.Test.YtfencbfjnifmjabZoks
import Derived.Test.YtfencbfjnifmjabZpl
namespace Go.Proofs.Ytfencbfjnifmjab
open Go.RowKit

end Go.Proofs.Ytfencbfjnifmjab
