/-
  The drawn rules: spec.l20Rule.
-/
import Derived.Test.YtnfjajamafkjoaaZrows
import Derived.Test.YtnfjajamafkjoaaZdraw
import Derived.StillTailTactics
namespace Go.Proofs.Ytnfjajamafkjoaa
open Go.RowKit
set_option linter.unusedVariables false

theorem setLen (l : List Int) (k : Nat) (x : Int) {C : Nat} (h : l.length = C) : (l.set k x).length = C := by rw [List.length_set, h]

end Go.Proofs.Ytnfjajamafkjoaa
