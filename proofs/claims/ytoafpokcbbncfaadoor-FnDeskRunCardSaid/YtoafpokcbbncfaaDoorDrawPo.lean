/-
  Draws of chapter 14: places (written by wip/gen_f1.py).
-/
import Derived.Test.YtoafpokcbbncfaaDoorDrawPl
import Derived.Test.YtoafpokcbbncfaaDoorZpd
namespace Go.Proofs.YtoafpokcbbncfaaDoor
open Go.RowKit
set_option linter.unusedVariables false

theorem below_ptr {w W W' : World} {g : Nat} (hb : Below w.heap.size w W) (hg : W.grownBy W' (some g)) (h : w.heap.size ≤ g) : Below w.heap.size w W' := hb.grown hg hb.size (fun k hk => by injection hk with hk; omega)

end Go.Proofs.YtoafpokcbbncfaaDoor
