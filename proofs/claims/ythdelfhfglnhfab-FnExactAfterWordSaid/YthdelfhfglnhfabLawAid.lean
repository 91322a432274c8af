/-
  What every law calls: laws.sameInts, laws.alive.
-/
import Derived.Test.YthdelfhfglnhfabDrawUrn
namespace Go.Proofs.Ythdelfhfglnhfab
open Go.RowKit

end Go.Proofs.Ythdelfhfglnhfab
