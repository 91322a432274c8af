/-
  The drawn rules: spec.l20Rule.
-/
import Derived.Test.YtffllkmaifjpfadZrows
import Derived.Test.YtffllkmaifjpfadZdraw
import Derived.StillTailTactics
namespace Go.Proofs.Ytffllkmaifjpfad
open Go.RowKit
set_option linter.unusedVariables false

theorem setLen (l : List Int) (k : Nat) (x : Int) {C : Nat} (h : l.length = C) : (l.set k x).length = C := by rw [List.length_set, h]

end Go.Proofs.Ytffllkmaifjpfad
