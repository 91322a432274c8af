/-
  Draws of chapter 14: a desk and a deed, a desk and deeds (written by wip/gen_h5.py).
-/
import Derived.Test.YtoafpokcbbncfaaDoorDrawDo
import Derived.Test.YtoafpokcbbncfaaDoorZpd
import Derived.Test.YtoafpokcbbncfaaDoorZdf
namespace Go.Proofs.YtoafpokcbbncfaaDoor
open Go.RowKit
set_option linter.unusedVariables false

end Go.Proofs.YtoafpokcbbncfaaDoor
