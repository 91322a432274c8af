/-
  The drawn rules: spec.l20Rule.
-/
import Derived.Test.YtjkccfnbepbmbaaZrows
import Derived.Test.YtjkccfnbepbmbaaZdraw
import Derived.StillTailTactics
namespace Go.Proofs.Ytjkccfnbepbmbaa
open Go.RowKit
set_option linter.unusedVariables false

theorem setLen (l : List Int) (k : Nat) (x : Int) {C : Nat} (h : l.length = C) : (l.set k x).length = C := by rw [List.length_set, h]

end Go.Proofs.Ytjkccfnbepbmbaa
