/-
  append onto an empty slice literal: the copy lies in a new block. No program is named here.
-/
import Derived.Test.YtpkbmmepapgogabGreatDoorZpl
import Derived.Test.YtpkbmmepapgogabGreatDoorZdraw
namespace Go.Proofs.YtpkbmmepapgogabGreatDoor
open Go.RowKit
set_option linter.unusedVariables false

section
variable {P : Program} (w : World)
end
/-- A copy: owned, or an empty slice without room. -/
def OwnZ (w : World) (base : Nat) (v : Value) (zs : List Int) : Prop := Own w base v zs ∨ (zs = [] ∧ ∃ b0, v = .slice (some b0) 0 0)
end Go.Proofs.YtpkbmmepapgogabGreatDoor
