/-
  Contracts of chapter 1: PutIn (impl and spec).
-/
import Derived.Test.YthdelfhfglnhfacUrns
import Derived.Test.YthdelfhfglnhfacClone
namespace Go.Proofs.Ythdelfhfglnhfac
open Go.RowKit

end Go.Proofs.Ythdelfhfglnhfac
