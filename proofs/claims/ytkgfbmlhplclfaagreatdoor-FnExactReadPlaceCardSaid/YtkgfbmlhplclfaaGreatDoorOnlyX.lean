/-
  Facts that go over marks: places below a block, blocks of three and four cells.
-/
import Derived.Test.YtkgfbmlhplclfaaGreatDoorHeldP
namespace Go.Proofs.YtkgfbmlhplclfaaGreatDoor
open Go.RowKit
set_option linter.unusedVariables false

/-- A place all of whose cells lie below block B, which is there. -/
structure PlB (w : World) (B : Nat) (v : Value) (p : Plc) : Prop where
  pl : PlM w B v p
  le : B ≤ w.heap.size
section
variable {w w' : World} {B lo hi b : Nat} {v x y z u : Value} {p : Plc} {zs : List Int}
theorem PlB.up (h : PlB w B v p) (hq : Below w.heap.size w w') : PlB w' B v p := ⟨h.pl.below (hq.mono h.le), Nat.le_trans h.le hq.size⟩
theorem PlB.only (h : PlB w B v p) (hO : Only w w' lo hi) (hB : B ≤ lo) : PlB w' B v p := ⟨hO.plM h.pl hB h.le, Nat.le_trans h.le hO.size⟩
theorem PlB.plM (h : PlB w B v p) : PlM w w.heap.size v p := h.pl.more h.le
theorem Only.frozen (h : Only w w' lo hi) {a : Addr} (ha : a.block < w.heap.size) (ho : a.block < lo ∨ hi ≤ a.block) : w'.frozen? a = w.frozen? a := World.frozen?_of_block (h.block _ ha ho)
theorem TriW.only (h : TriW w b x y z) (hO : Only w w' lo hi) (hb : b < lo ∨ hi ≤ b) : TriW w' b x y z :=
  ⟨(hO.cell h.lt hb).trans h.c0, (hO.cell h.lt hb).trans h.c1, (hO.cell h.lt hb).trans h.c2, (hO.frozen h.lt hb).trans h.f0, (hO.frozen h.lt hb).trans h.f1, (hO.frozen h.lt hb).trans h.f2, Nat.lt_of_lt_of_le h.lt hO.size⟩
theorem QuaW.only (h : QuaW w b x y z u) (hO : Only w w' lo hi) (hb : b < lo ∨ hi ≤ b) : QuaW w' b x y z u :=
  ⟨(hO.cell h.lt hb).trans h.c0, (hO.cell h.lt hb).trans h.c1, (hO.cell h.lt hb).trans h.c2, (hO.cell h.lt hb).trans h.c3, (hO.frozen h.lt hb).trans h.f0, (hO.frozen h.lt hb).trans h.f1, (hO.frozen h.lt hb).trans h.f2, (hO.frozen h.lt hb).trans h.f3, Nat.lt_of_lt_of_le h.lt hO.size⟩
theorem belowSize {w0 : World} (hb : Below w0.heap.size w0 w) (hO : Only w w' lo hi) (hl : w0.heap.size ≤ lo) : Below w0.heap.size w0 w' := hO.below hb hl (Nat.le_refl _)
end
/-- The marks of a row, read. -/
theorem own_mrk {w : World} {base n c : Nat} {A : Option Addr} {zs : List Int} (h : Own w base (.slice A n c) zs) : n = zs.length := h.len
end Go.Proofs.YtkgfbmlhplclfaaGreatDoor
