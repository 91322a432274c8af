/-
  Words, plain lemmas and contracts that belong together, joined into one file.
-/
import Derived.Test.YtoafpokcbbncfaaPlaceS
import Derived.Test.YtoafpokcbbncfaaZpb
import Derived.Laws.IdiomStrings
namespace Go.Proofs.Ytoafpokcbbncfaa
open Go.RowKit
set_option linter.unusedVariables false

theorem numT_dig {n : Nat} (h : n < 10) : strB (numT n) = ⟨#[UInt8.ofNat (48 + n)]⟩ := by rw [numT_small h]; rfl
end Go.Proofs.Ytoafpokcbbncfaa

namespace Go.Proofs.Ytoafpokcbbncfaa
open Go.RowKit
set_option linter.unusedVariables false

theorem abc_cut {c : Nat} (h : c < 3) : (⟨#[97, 98, 99]⟩ : ByteArray).extract c (c + 1) = strB [UInt8.ofNat (97 + c)] := by
  match c, h with
  | 0, _ => decide
  | 1, _ => decide
  | 2, _ => decide
end Go.Proofs.Ytoafpokcbbncfaa
