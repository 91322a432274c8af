/-
  Contracts of chapter 1: PutIn (impl and spec).
-/
import Derived.Test.YthdelfhfglnhfabUrns
import Derived.Test.YthdelfhfglnhfabClone
namespace Go.Proofs.Ythdelfhfglnhfab
open Go.RowKit

end Go.Proofs.Ythdelfhfglnhfab
