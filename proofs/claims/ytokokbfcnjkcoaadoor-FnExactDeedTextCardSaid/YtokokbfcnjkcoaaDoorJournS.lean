/-
  Contracts of chapter 14, the specification's side: JournalText.
-/
import Derived.Test.YtokokbfcnjkcoaaDoorDeedS
import Derived.Test.YtokokbfcnjkcoaaDoorDeedM
import Derived.Test.YtokokbfcnjkcoaaDoorPlainAL
namespace Go.Proofs.YtokokbfcnjkcoaaDoor
open Go.RowKit
set_option linter.unusedVariables false

end Go.Proofs.YtokokbfcnjkcoaaDoor
