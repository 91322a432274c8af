/-
  The drawn places of chapter 14 (written by wip/gen_e1.py).
-/
import Derived.Test.YtoafpokcbbncfaaPlaceS
import Derived.Test.YtoafpokcbbncfaaZpb
import Derived.Test.YtoafpokcbbncfaaZdraw
import Derived.Deep.DeepCutAuto
namespace Go.Proofs.Ytoafpokcbbncfaa
open Go.RowKit
set_option linter.unusedVariables false

theorem lit_ne {g h n c n' c' : Nat} (hh : g ≠ h) : (Value.slice (some ⟨g, 0, none⟩) n c).ownBlock = none ∨ (Value.slice (some ⟨g, 0, none⟩) n c).ownBlock ≠ (Value.slice (some ⟨h, 0, none⟩) n' c').ownBlock := .inr fun e => hh (Option.some.inj e)
section
variable {w0 W W' : World} {hi g m m' g5 : Nat} {x y z : Value} {s t : List Int}
theorem grown_atP (w : World) (a : Addr) (u : Value) : w.grownBy (w.setCell a u) (some a.block) := ⟨rfl, rfl, rfl, by simp, fun k _ hk => Below.heap_setCell _ _ _ k (fun e => hk (by rw [e]))⟩
theorem neOf {v : Value} {k : Nat} (h : ∀ j, v.ownBlock = some j → j ≠ k) : v.ownBlock = none ∨ v.ownBlock ≠ some k := by
  cases hv : v.ownBlock with
  | none => exact .inl rfl
  | some j => exact .inr fun e => by injection e with e; exact h j hv e
end

end Go.Proofs.Ytoafpokcbbncfaa
