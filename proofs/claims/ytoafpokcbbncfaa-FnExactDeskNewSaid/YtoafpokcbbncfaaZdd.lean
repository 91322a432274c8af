/-
  Contracts of chapter 14, the program: deeds and their texts (written by wip/gen_e2.py).
-/
import Derived.Test.YtoafpokcbbncfaaZla
import Derived.Test.YtoafpokcbbncfaaZpb
namespace Go.Proofs.Ytoafpokcbbncfaa
open Go.RowKit
set_option linter.unusedVariables false

def formW (k : Int) : Bs := if k = 0 then wPut else if k = 1 then wStep else if k = 2 then wDraw else if k = 3 then wAgain else if k = 4 then wBack else []
def formN (k : Int) : Int := if k = 0 then 2 else if k = 1 then 1 else if k = 2 then 1 else 0
end Go.Proofs.Ytoafpokcbbncfaa
