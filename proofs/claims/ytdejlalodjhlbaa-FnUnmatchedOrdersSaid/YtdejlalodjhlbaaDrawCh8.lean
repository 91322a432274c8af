/-
  The drawn inputs of chapter 8: written by wip/drawgen.py.
-/
import Derived.Test.YtdejlalodjhlbaaZdraw
namespace Go.Proofs.Ytdejlalodjhlbaa
open Go.RowKit
set_option linter.unusedVariables false

end Go.Proofs.Ytdejlalodjhlbaa
