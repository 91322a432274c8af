/-
  Contracts of chapter 3, the program's side: BackAll, BackCounts, SameTwice (a fold with a closure).
-/
import Derived.Test.YthdelfhfglnhfaaBackI
namespace Go.Proofs.Ythdelfhfglnhfaa
open Go.RowKit

end Go.Proofs.Ythdelfhfglnhfaa
