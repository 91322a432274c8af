/-
  Draws of chapter 14: a deed for a place (l20Deed).
-/
import Derived.Test.YtpkbmmepapgogabGreatDoorDrawPl
import Derived.Test.YtpkbmmepapgogabGreatDoorZpd
namespace Go.Proofs.YtpkbmmepapgogabGreatDoor
open Go.RowKit
set_option linter.unusedVariables false

/-- The reader, the place's block, and the result's block. -/
structure Bq (w0 W : World) (g m : Nat) (x y z : Value) : Prop where
  rd : Rd W g m
  gr : w0.grownBy W (some g)
  tri : Tri W w0.heap.size x y z
  t4 : TriW W (w0.heap.size + 1) (.int .i64 0) (.int .i64 0) (.int .i64 0)
  hg : g < w0.heap.size
section
variable {w0 W W' : World} {g m m' g5 : Nat} {x y z a b c : Value}
theorem Bq.grown {row : Option Nat} (h : Bq w0 W g m x y z) (hg : W.grownBy W' row) (hr : ∀ k, row = some k → w0.heap.size + 1 < k) : Bq w0 W' g m x y z := by
  have h6 := h.hg
  have hb := hg.block w0.heap.size h.tri.lt (fun e => by have := hr _ e.symm; omega)
  have hc : ∀ o, W'.cell? ⟨w0.heap.size, o, none⟩ = W.cell? ⟨w0.heap.size, o, none⟩ := fun o => World.cell?_of_block hb
  exact ⟨h.rd.kept hg (fun k e => by have := hr k e; omega), grown_new h.gr hg (fun j e => .inl (by have := hr j e; omega)), ⟨(hc 0).trans h.tri.c0, (hc 1).trans h.tri.c1, (hc 2).trans h.tri.c2, Nat.lt_of_lt_of_le h.tri.lt hg.size⟩, h.t4.grown hg (fun k e => by have := hr k e; omega), h6⟩
theorem Bq.alloc (h : Bq w0 W g m x y z) (o : Obj) : Bq w0 (W.alloc o) g m x y z := h.grown (row := none) (World.grownBy_alloc _ _ none) (fun _ e => by cases e)
theorem Bq.drew (h : Bq w0 W g m x y z) : Bq w0 W.drew g m x y z := h.grown (row := none) ⟨rfl, rfl, rfl, Nat.le_refl _, fun _ _ _ => rfl⟩ (fun _ e => by cases e)
theorem Bq.more (h : Bq w0 W g m x y z) (hm : m ≤ m') : Bq w0 W g m' x y z := ⟨h.rd.more hm, h.gr, h.tri, h.t4, h.hg⟩
theorem Bq.read (h : Bq w0 W g m x y z) (hr : Rd W' g m') (hg : W.grownBy W' (some g)) : Bq w0 W' g m' x y z := by
  have h6 := h.hg
  have hb := hg.block w0.heap.size h.tri.lt (fun e => by injection e with e; omega)
  have hc : ∀ o, W'.cell? ⟨w0.heap.size, o, none⟩ = W.cell? ⟨w0.heap.size, o, none⟩ := fun o => World.cell?_of_block hb
  exact ⟨hr, grown_new h.gr hg (fun _ _ => .inr rfl), ⟨(hc 0).trans h.tri.c0, (hc 1).trans h.tri.c1, (hc 2).trans h.tri.c2, Nat.lt_of_lt_of_le h.tri.lt hg.size⟩, h.t4.grown hg (fun k e => by injection e with e; omega), h6⟩
/-- The deed's own block is written. -/
theorem Bq.put (h : Bq w0 W g m x y z) (i : Nat) (u : Value) (h5 : w0.heap.size + 1 < g5) : Bq w0 (W.setCell ⟨g5, i, none⟩ u) g m x y z := h.grown (grown_atP W ⟨g5, i, none⟩ u) (fun k e => by have : g5 = k := Option.some.inj e; omega)
theorem Bq.fin (h : Bq w0 W g m x y z) (a b c : Value) : TriW (((W.setCell ⟨w0.heap.size + 1, 0, none⟩ a).setCell ⟨w0.heap.size + 1, 1, none⟩ b).setCell ⟨w0.heap.size + 1, 2, none⟩ c) (w0.heap.size + 1) a b c ∧ Rd (((W.setCell ⟨w0.heap.size + 1, 0, none⟩ a).setCell ⟨w0.heap.size + 1, 1, none⟩ b).setCell ⟨w0.heap.size + 1, 2, none⟩ c) g m ∧ w0.grownBy (((W.setCell ⟨w0.heap.size + 1, 0, none⟩ a).setCell ⟨w0.heap.size + 1, 1, none⟩ b).setCell ⟨w0.heap.size + 1, 2, none⟩ c) (some g) := by
  have h6 := h.hg
  have hr : ∀ {X : World} {i : Nat} {u : Value}, Rd X g m → Rd (X.setCell ⟨w0.heap.size + 1, i, none⟩ u) g m := fun {X i u} hX => hX.kept (row := some (w0.heap.size + 1)) (grown_atP X ⟨w0.heap.size + 1, i, none⟩ u) (fun k e => by injection e with e; omega)
  have hg : ∀ {X : World} {i : Nat} {u : Value}, w0.grownBy X (some g) → w0.grownBy (X.setCell ⟨w0.heap.size + 1, i, none⟩ u) (some g) := fun {X i u} hX => grown_new hX (q := some (w0.heap.size + 1)) (grown_atP X ⟨w0.heap.size + 1, i, none⟩ u) (fun j e => .inl (by injection e with e; omega))
  exact ⟨((h.t4.set0 a).set1 b).set2 c, hr (hr (hr h.rd)), hg (hg (hg h.gr))⟩
end
theorem TriW.far {W W' : World} {b g : Nat} {x y z : Value} (h : TriW W b x y z) (hg : W.grownBy W' (some g)) (hne : b ≠ g) : TriW W' b x y z := h.grown hg (fun k e => by injection e with e; omega)
theorem TriW.madeAt {W : World} {b : Nat} {x y z : Value} {T : TypeId} (hb : b = W.heap.size) : TriW (W.alloc (.cells #[x, y, z] T)) b x y z := by subst hb; exact TriW.made W x y z T
theorem TriW.fill {W : World} {b : Nat} {x y z x' y' z' : Value} (h : TriW W b x' y' z') : TriW (((W.setCell ⟨b, 0, none⟩ x).setCell ⟨b, 1, none⟩ y).setCell ⟨b, 2, none⟩ z) b x y z := ((h.set0 x).set1 y).set2 z
end Go.Proofs.YtpkbmmepapgogabGreatDoor
