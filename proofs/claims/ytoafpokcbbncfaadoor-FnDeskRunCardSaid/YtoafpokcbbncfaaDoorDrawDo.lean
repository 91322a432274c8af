/-
  Draws of chapter 14: DrawDeskOk (written by wip/gen_f7.py).
-/
import Derived.Test.YtoafpokcbbncfaaDoorDrawDk
import Derived.Test.YtoafpokcbbncfaaDoorDrawPo
namespace Go.Proofs.YtoafpokcbbncfaaDoor
open Go.RowKit
set_option linter.unusedVariables false

theorem dkF_low4 {w : World} {base b : Nat} {v : Value} {d : Dsk} (h : DkF w base v d) (hb : b < base) (x y z u : Value) : DkF ((((w.setCell ⟨b, 0, none⟩ x).setCell ⟨b, 1, none⟩ y).setCell ⟨b, 2, none⟩ z).setCell ⟨b, 3, none⟩ u) base v d := by
  have s : ∀ {X : World} {i : Nat} {a : Value}, DkF X base v d → DkF (X.setCell ⟨b, i, none⟩ a) base v d := fun {X i a} hX => hX.far (grown_at X ⟨b, i, none⟩ a) hb
  exact s (s (s (s h)))
end Go.Proofs.YtoafpokcbbncfaaDoor
