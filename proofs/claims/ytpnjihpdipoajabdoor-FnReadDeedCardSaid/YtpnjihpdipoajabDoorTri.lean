/-
  Blocks of three and of four cells that may be written. No program is named here.
-/
import Derived.Test.YtpnjihpdipoajabDoorZpl
namespace Go.Proofs.YtpnjihpdipoajabDoor
open Go.RowKit
set_option linter.unusedVariables false

/-- A block of three cells that may be written. -/
structure TriW (w : World) (g : Nat) (x y z : Value) : Prop where
  c0 : w.cell? ⟨g, 0, none⟩ = some x
  c1 : w.cell? ⟨g, 1, none⟩ = some y
  c2 : w.cell? ⟨g, 2, none⟩ = some z
  f0 : w.frozen? ⟨g, 0, none⟩ = false
  f1 : w.frozen? ⟨g, 1, none⟩ = false
  f2 : w.frozen? ⟨g, 2, none⟩ = false
  lt : g < w.heap.size
section
variable {w w' : World} {g B : Nat} {x y z : Value}
theorem TriW.made (w : World) (x y z : Value) (T : TypeId) : TriW (w.alloc (.cells #[x, y, z] T)) w.heap.size x y z :=
  ⟨by rw [World.cell?_alloc_new]; rfl, by rw [World.cell?_alloc_new]; rfl, by rw [World.cell?_alloc_new]; rfl, World.frozen?_alloc_new w _ _ _, World.frozen?_alloc_new w _ _ _, World.frozen?_alloc_new w _ _ _, by simp⟩
theorem TriW.below (h : TriW w g x y z) (hb : Below B w w') (hg : g < B) : TriW w' g x y z :=
  ⟨(hb.cell (p := ⟨g, 0, none⟩) hg).trans h.c0, (hb.cell (p := ⟨g, 1, none⟩) hg).trans h.c1, (hb.cell (p := ⟨g, 2, none⟩) hg).trans h.c2, (hb.frozen (p := ⟨g, 0, none⟩) hg).trans h.f0, (hb.frozen (p := ⟨g, 1, none⟩) hg).trans h.f1, (hb.frozen (p := ⟨g, 2, none⟩) hg).trans h.f2, Nat.lt_of_lt_of_le h.lt hb.size⟩
theorem TriW.up (h : TriW w g x y z) (hq : Below w.heap.size w w') : TriW w' g x y z := h.below hq h.lt
theorem TriW.grown {row : Option Nat} (h : TriW w g x y z) (hg : w.grownBy w' row) (hne : ∀ k, row = some k → k ≠ g) : TriW w' g x y z := by
  have hb := hg.block g h.lt (fun e => hne g e.symm rfl)
  have hc : ∀ o, w'.cell? ⟨g, o, none⟩ = w.cell? ⟨g, o, none⟩ := fun o => World.cell?_of_block hb
  have hf : ∀ o, w'.frozen? ⟨g, o, none⟩ = w.frozen? ⟨g, o, none⟩ := fun o => World.frozen?_of_block hb
  exact ⟨(hc 0).trans h.c0, (hc 1).trans h.c1, (hc 2).trans h.c2, (hf 0).trans h.f0, (hf 1).trans h.f1, (hf 2).trans h.f2, Nat.lt_of_lt_of_le h.lt hg.size⟩
theorem TriW.set0 (h : TriW w g x y z) (u : Value) : TriW (w.setCell ⟨g, 0, none⟩ u) g u y z :=
  ⟨World.cell?_setCell_same _ _ _ h.c0, (World.cell?_setCell_other _ _ _ _ (by simp)).trans h.c1, (World.cell?_setCell_other _ _ _ _ (by simp)).trans h.c2, by simp [h.f0], by simp [h.f1], by simp [h.f2], by simpa using h.lt⟩
theorem TriW.set1 (h : TriW w g x y z) (u : Value) : TriW (w.setCell ⟨g, 1, none⟩ u) g x u z :=
  ⟨(World.cell?_setCell_other _ _ _ _ (by simp)).trans h.c0, World.cell?_setCell_same _ _ _ h.c1, (World.cell?_setCell_other _ _ _ _ (by simp)).trans h.c2, by simp [h.f0], by simp [h.f1], by simp [h.f2], by simpa using h.lt⟩
theorem TriW.set2 (h : TriW w g x y z) (u : Value) : TriW (w.setCell ⟨g, 2, none⟩ u) g x y u :=
  ⟨(World.cell?_setCell_other _ _ _ _ (by simp)).trans h.c0, (World.cell?_setCell_other _ _ _ _ (by simp)).trans h.c1, World.cell?_setCell_same _ _ _ h.c2, by simp [h.f0], by simp [h.f1], by simp [h.f2], by simpa using h.lt⟩
theorem TriW.drew (h : TriW w g x y z) : TriW w.drew g x y z := ⟨h.c0, h.c1, h.c2, h.f0, h.f1, h.f2, h.lt⟩
theorem TriW.drewN (h : TriW w g x y z) (k : Nat) : TriW (w.drewN k) g x y z := ⟨h.c0, h.c1, h.c2, h.f0, h.f1, h.f2, h.lt⟩
theorem TriW.alloc (h : TriW w g x y z) (o : Obj) : TriW (w.alloc o) g x y z := h.up ((Below.refl _ _).alloc (Nat.le_refl _) o)
theorem TriW.other (h : TriW w g x y z) {a : Addr} (hg : a.block ≠ g) (u : Value) : TriW (w.setCell a u) g x y z :=
  ⟨(World.cell?_setCell_other _ _ _ _ (fun e => hg (by rw [e]))).trans h.c0, (World.cell?_setCell_other _ _ _ _ (fun e => hg (by rw [e]))).trans h.c1, (World.cell?_setCell_other _ _ _ _ (fun e => hg (by rw [e]))).trans h.c2, by simp [h.f0], by simp [h.f1], by simp [h.f2], by simpa using h.lt⟩
end


/-- A block of four cells that may be written. -/
structure QuaW (w : World) (g : Nat) (x y z u : Value) : Prop where
  c0 : w.cell? ⟨g, 0, none⟩ = some x
  c1 : w.cell? ⟨g, 1, none⟩ = some y
  c2 : w.cell? ⟨g, 2, none⟩ = some z
  c3 : w.cell? ⟨g, 3, none⟩ = some u
  f0 : w.frozen? ⟨g, 0, none⟩ = false
  f1 : w.frozen? ⟨g, 1, none⟩ = false
  f2 : w.frozen? ⟨g, 2, none⟩ = false
  f3 : w.frozen? ⟨g, 3, none⟩ = false
  lt : g < w.heap.size
section
variable {w w' : World} {g B : Nat} {x y z u : Value}
theorem QuaW.made (w : World) (x y z u : Value) (T : TypeId) : QuaW (w.alloc (.cells #[x, y, z, u] T)) w.heap.size x y z u :=
  ⟨by rw [World.cell?_alloc_new]; rfl, by rw [World.cell?_alloc_new]; rfl, by rw [World.cell?_alloc_new]; rfl, by rw [World.cell?_alloc_new]; rfl, World.frozen?_alloc_new w _ _ _, World.frozen?_alloc_new w _ _ _, World.frozen?_alloc_new w _ _ _, World.frozen?_alloc_new w _ _ _, by simp⟩
theorem QuaW.below (h : QuaW w g x y z u) (hb : Below B w w') (hg : g < B) : QuaW w' g x y z u :=
  ⟨(hb.cell (p := ⟨g, 0, none⟩) hg).trans h.c0, (hb.cell (p := ⟨g, 1, none⟩) hg).trans h.c1, (hb.cell (p := ⟨g, 2, none⟩) hg).trans h.c2, (hb.cell (p := ⟨g, 3, none⟩) hg).trans h.c3, (hb.frozen (p := ⟨g, 0, none⟩) hg).trans h.f0, (hb.frozen (p := ⟨g, 1, none⟩) hg).trans h.f1, (hb.frozen (p := ⟨g, 2, none⟩) hg).trans h.f2, (hb.frozen (p := ⟨g, 3, none⟩) hg).trans h.f3, Nat.lt_of_lt_of_le h.lt hb.size⟩
theorem QuaW.up (h : QuaW w g x y z u) (hq : Below w.heap.size w w') : QuaW w' g x y z u := h.below hq h.lt
theorem QuaW.grown {row : Option Nat} (h : QuaW w g x y z u) (hg : w.grownBy w' row) (hne : ∀ k, row = some k → k ≠ g) : QuaW w' g x y z u := by
  have hb := hg.block g h.lt (fun e => hne g e.symm rfl)
  have hc : ∀ o, w'.cell? ⟨g, o, none⟩ = w.cell? ⟨g, o, none⟩ := fun o => World.cell?_of_block hb
  have hf : ∀ o, w'.frozen? ⟨g, o, none⟩ = w.frozen? ⟨g, o, none⟩ := fun o => World.frozen?_of_block hb
  exact ⟨(hc 0).trans h.c0, (hc 1).trans h.c1, (hc 2).trans h.c2, (hc 3).trans h.c3, (hf 0).trans h.f0, (hf 1).trans h.f1, (hf 2).trans h.f2, (hf 3).trans h.f3, Nat.lt_of_lt_of_le h.lt hg.size⟩
theorem QuaW.set0 (h : QuaW w g x y z u) (v : Value) : QuaW (w.setCell ⟨g, 0, none⟩ v) g v y z u :=
  ⟨World.cell?_setCell_same _ _ _ h.c0, (World.cell?_setCell_other _ _ _ _ (by simp)).trans h.c1, (World.cell?_setCell_other _ _ _ _ (by simp)).trans h.c2, (World.cell?_setCell_other _ _ _ _ (by simp)).trans h.c3, by simp [h.f0], by simp [h.f1], by simp [h.f2], by simp [h.f3], by simpa using h.lt⟩
theorem QuaW.set1 (h : QuaW w g x y z u) (v : Value) : QuaW (w.setCell ⟨g, 1, none⟩ v) g x v z u :=
  ⟨(World.cell?_setCell_other _ _ _ _ (by simp)).trans h.c0, World.cell?_setCell_same _ _ _ h.c1, (World.cell?_setCell_other _ _ _ _ (by simp)).trans h.c2, (World.cell?_setCell_other _ _ _ _ (by simp)).trans h.c3, by simp [h.f0], by simp [h.f1], by simp [h.f2], by simp [h.f3], by simpa using h.lt⟩
theorem QuaW.set2 (h : QuaW w g x y z u) (v : Value) : QuaW (w.setCell ⟨g, 2, none⟩ v) g x y v u :=
  ⟨(World.cell?_setCell_other _ _ _ _ (by simp)).trans h.c0, (World.cell?_setCell_other _ _ _ _ (by simp)).trans h.c1, World.cell?_setCell_same _ _ _ h.c2, (World.cell?_setCell_other _ _ _ _ (by simp)).trans h.c3, by simp [h.f0], by simp [h.f1], by simp [h.f2], by simp [h.f3], by simpa using h.lt⟩
theorem QuaW.set3 (h : QuaW w g x y z u) (v : Value) : QuaW (w.setCell ⟨g, 3, none⟩ v) g x y z v :=
  ⟨(World.cell?_setCell_other _ _ _ _ (by simp)).trans h.c0, (World.cell?_setCell_other _ _ _ _ (by simp)).trans h.c1, (World.cell?_setCell_other _ _ _ _ (by simp)).trans h.c2, World.cell?_setCell_same _ _ _ h.c3, by simp [h.f0], by simp [h.f1], by simp [h.f2], by simp [h.f3], by simpa using h.lt⟩
theorem QuaW.drew (h : QuaW w g x y z u) : QuaW w.drew g x y z u := ⟨h.c0, h.c1, h.c2, h.c3, h.f0, h.f1, h.f2, h.f3, h.lt⟩
theorem QuaW.drewN (h : QuaW w g x y z u) (k : Nat) : QuaW (w.drewN k) g x y z u := ⟨h.c0, h.c1, h.c2, h.c3, h.f0, h.f1, h.f2, h.f3, h.lt⟩
theorem QuaW.alloc (h : QuaW w g x y z u) (o : Obj) : QuaW (w.alloc o) g x y z u := h.up ((Below.refl _ _).alloc (Nat.le_refl _) o)
theorem QuaW.other (h : QuaW w g x y z u) {a : Addr} (hg : a.block ≠ g) (v : Value) : QuaW (w.setCell a v) g x y z u :=
  ⟨(World.cell?_setCell_other _ _ _ _ (fun e => hg (by rw [e]))).trans h.c0, (World.cell?_setCell_other _ _ _ _ (fun e => hg (by rw [e]))).trans h.c1, (World.cell?_setCell_other _ _ _ _ (fun e => hg (by rw [e]))).trans h.c2, (World.cell?_setCell_other _ _ _ _ (fun e => hg (by rw [e]))).trans h.c3, by simp [h.f0], by simp [h.f1], by simp [h.f2], by simp [h.f3], by simpa using h.lt⟩
end
end Go.Proofs.YtpnjihpdipoajabDoor
