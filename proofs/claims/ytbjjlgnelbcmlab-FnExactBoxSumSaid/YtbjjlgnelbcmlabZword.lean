/-
  Contracts of chapter 2, the specification's side: WordOk, AllWays, SameApart.
-/
import Derived.Test.YtbjjlgnelbcmlabZoks
import Derived.Test.YtbjjlgnelbcmlabZpl
namespace Go.Proofs.Ytbjjlgnelbcmlab
open Go.RowKit

end Go.Proofs.Ytbjjlgnelbcmlab
