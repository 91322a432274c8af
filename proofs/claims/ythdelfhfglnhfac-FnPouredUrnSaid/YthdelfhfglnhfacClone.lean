/-
  Contract: slices.Clone of ints.
-/
import Derived.Test.YthdelfhfglnhfacOks
import Derived.Test.YthdelfhfglnhfacApp
import Derived.Lib.SliceRun
namespace Go.Proofs.Ythdelfhfglnhfac
open Go.RowKit

end Go.Proofs.Ythdelfhfglnhfac
