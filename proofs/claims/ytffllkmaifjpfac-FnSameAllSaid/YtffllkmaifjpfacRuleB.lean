/-
  Contracts of chapter 4, the program's side: the closure of drawnByRule (a step of a fold over a struct).
-/
import Derived.Test.YtffllkmaifjpfacRuleA
import Derived.Test.YtffllkmaifjpfacZrule
import Derived.Test.YtffllkmaifjpfacZdraw
import Derived.Test.YtffllkmaifjpfacZoks
import Derived.Deep.RegionWith
namespace Go.Proofs.Ytffllkmaifjpfac
open Go.RowKit

/-- A block of two cells that may be written. -/
structure Two (w : World) (g : Nat) (x y : Value) : Prop where
  c0 : w.cell? ⟨g, 0, none⟩ = some x
  c1 : w.cell? ⟨g, 1, none⟩ = some y
  f0 : w.frozen? ⟨g, 0, none⟩ = false
  f1 : w.frozen? ⟨g, 1, none⟩ = false
  lt : g < w.heap.size
theorem Two.below {w w' : World} {B g : Nat} {x y : Value} (h : Two w g x y) (hb : Below B w w') (hg : g < B) : Two w' g x y :=
  ⟨(hb.cell (p := ⟨g, 0, none⟩) hg).trans h.c0, (hb.cell (p := ⟨g, 1, none⟩) hg).trans h.c1, (hb.frozen (p := ⟨g, 0, none⟩) hg).trans h.f0, (hb.frozen (p := ⟨g, 1, none⟩) hg).trans h.f1, Nat.lt_of_lt_of_le h.lt hb.size⟩
theorem Two.made (w : World) (x y : Value) (T : TypeId) : Two (w.alloc (.cells #[x, y] T)) w.heap.size x y :=
  ⟨by rw [World.cell?_alloc_new]; rfl, by rw [World.cell?_alloc_new]; rfl, World.frozen?_alloc_new w _ _ _, World.frozen?_alloc_new w _ _ _, by simp⟩
theorem Two.set2 {w : World} {g : Nat} {x y : Value} (h : Two w g x y) (u v : Value) : Two ((w.setCell ⟨g, 0, none⟩ u).setCell ⟨g, 1, none⟩ v) g u v := by
  refine ⟨?_, ?_, by simp [h.f0], by simp [h.f1], by simpa using h.lt⟩
  · rw [World.cell?_setCell_other _ _ _ _ (by simp)]
    exact World.cell?_setCell_same _ _ _ h.c0
  · exact World.cell?_setCell_same _ _ _ ((World.cell?_setCell_other _ _ _ _ (by simp)).trans h.c1)
theorem Two.setOther {w : World} {g : Nat} {x y : Value} (h : Two w g x y) {a : Addr} (hg : a.block ≠ g) (u : Value) : Two (w.setCell a u) g x y :=
  ⟨(World.cell?_setCell_other _ _ _ _ (fun e => hg (by rw [e]))).trans h.c0, (World.cell?_setCell_other _ _ _ _ (fun e => hg (by rw [e]))).trans h.c1, by simp [h.f0], by simp [h.f1], by simpa using h.lt⟩
theorem grown_two (w : World) (a : Addr) (u : Value) : w.grownBy (w.setCell a u) (some a.block) :=
  ⟨rfl, rfl, rfl, by simp, fun k _ hk => Below.heap_setCell _ _ _ k (fun e => hk (by rw [e]))⟩
theorem Own.setOther {w : World} {base : Nat} {v : Value} {zs : List Int} (h : Own w base v zs) {a : Addr} (hne : v.ownBlock ≠ some a.block) (u : Value) : Own (w.setCell a u) base v zs :=
  h.kept (grown_two w a u) (.inr hne)
theorem Own.setBelow {w : World} {base : Nat} {v : Value} {zs : List Int} (h : Own w base v zs) {a : Addr} (ha : a.block < base) (u : Value) : Own (w.setCell a u) base v zs := ⟨ownsRow_setCell_below h.row ha u, h.wf⟩

end Go.Proofs.Ytffllkmaifjpfac
