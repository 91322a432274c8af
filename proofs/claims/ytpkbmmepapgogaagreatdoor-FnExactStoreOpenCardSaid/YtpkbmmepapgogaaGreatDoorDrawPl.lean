/-
  The drawn places of chapter 14 (written by wip/gen_e1.py).
-/
import Derived.Test.YtpkbmmepapgogaaGreatDoorPlaceS
import Derived.Test.YtpkbmmepapgogaaGreatDoorZpb
import Derived.Test.YtpkbmmepapgogaaGreatDoorZdraw
import Derived.Deep.DeepCutAuto
namespace Go.Proofs.YtpkbmmepapgogaaGreatDoor
open Go.RowKit
set_option linter.unusedVariables false

/-- The reader, a block of a place that may be written, and the two rows that the place has; all made behind w0, below 'hi'; block w0.heap.size is the result's. -/
structure Bp (w0 W : World) (hi g m g5 : Nat) (x y z : Value) (s t : List Int) : Prop where
  rd : Rd W g m
  gr : w0.grownBy W (some g)
  tri : TriW W g5 x y z
  t4 : TriW W w0.heap.size (.slice none 0 0) (.int .i64 0) (.slice none 0 0)
  os : Own W (w0.heap.size + 1) x s
  ow : Own W (g5 + 1) z t
  h5 : w0.heap.size + 1 ≤ g5 ∧ g5 < hi
  hg : g < w0.heap.size
  hx : ∀ k, x.ownBlock = some k → k < g5
  hz : ∀ k, z.ownBlock = some k → k < hi
  hs : hi ≤ W.heap.size
section
variable {w0 W W' : World} {hi g m m' g5 : Nat} {x y z : Value} {s t : List Int}
theorem grown_atP (w : World) (a : Addr) (u : Value) : w.grownBy (w.setCell a u) (some a.block) := ⟨rfl, rfl, rfl, by simp, fun k _ hk => Below.heap_setCell _ _ _ k (fun e => hk (by rw [e]))⟩
/-- Another block grows. -/
theorem Bp.grown {row : Option Nat} (h : Bp w0 W hi g m g5 x y z s t) (hg : W.grownBy W' row) (hr : ∀ k, row = some k → hi ≤ k) : Bp w0 W' hi g m g5 x y z s t := by
  have hne : ∀ v : Value, (∀ k, v.ownBlock = some k → k < hi) → v.ownBlock = none ∨ v.ownBlock ≠ row := fun v hv => by
    cases hk : v.ownBlock with
    | none => exact .inl rfl
    | some j => exact .inr fun e => by have a := hv j hk; have b := hr j e.symm; omega
  have h5 := h.h5
  have h6 := h.hg
  have h0 := h.gr.size
  exact ⟨h.rd.kept hg (fun k e => by have := hr k e; omega), grown_new h.gr hg (fun j e => .inl (by have := hr j e; omega)), h.tri.grown hg (fun k e => by have := hr k e; omega), h.t4.grown hg (fun k e => by have := hr k e; omega), h.os.kept hg (hne _ fun k e => by have := h.hx k e; omega), h.ow.kept hg (hne _ fun k e => h.hz k e), h5, h6, h.hx, h.hz, Nat.le_trans h.hs hg.size⟩
theorem Bp.alloc (h : Bp w0 W hi g m g5 x y z s t) (o : Obj) : Bp w0 (W.alloc o) hi g m g5 x y z s t := h.grown (row := none) (World.grownBy_alloc _ _ none) (fun _ e => by cases e)
theorem Bp.drew (h : Bp w0 W hi g m g5 x y z s t) : Bp w0 W.drew hi g m g5 x y z s t := h.grown (row := none) ⟨rfl, rfl, rfl, Nat.le_refl _, fun _ _ _ => rfl⟩ (fun _ e => by cases e)
theorem Bp.below (h : Bp w0 W hi g m g5 x y z s t) (hq : Below W.heap.size W W') : Bp w0 W' hi g m g5 x y z s t := h.grown (row := none) ⟨hq.os, hq.tape, hq.output, hq.size, fun k hk _ => hq.block k hk⟩ (fun _ e => by cases e)
theorem Bp.more (h : Bp w0 W hi g m g5 x y z s t) (hm : m ≤ m') : Bp w0 W hi g m' g5 x y z s t := ⟨h.rd.more hm, h.gr, h.tri, h.t4, h.os, h.ow, h.h5, h.hg, h.hx, h.hz, h.hs⟩
theorem Bp.wide {hi' : Nat} (h : Bp w0 W hi g m g5 x y z s t) (hh : hi ≤ hi') (hs : hi' ≤ W.heap.size) : Bp w0 W hi' g m g5 x y z s t := ⟨h.rd, h.gr, h.tri, h.t4, h.os, h.ow, ⟨h.h5.1, by have := h.h5.2; omega⟩, h.hg, h.hx, fun k e => by have := h.hz k e; omega, hs⟩
/-- The reader reads. -/
theorem Bp.read (h : Bp w0 W hi g m g5 x y z s t) (hr : Rd W' g m') (hg : W.grownBy W' (some g)) : Bp w0 W' hi g m' g5 x y z s t := by
  have h5 := h.h5
  have h6 := h.hg
  exact ⟨hr, grown_new h.gr hg (fun _ _ => .inr rfl), h.tri.grown hg (fun k e => by injection e with e; omega), h.t4.grown hg (fun k e => by injection e with e; omega), h.os.past hg (by omega), h.ow.past hg (by omega), h5, h6, h.hx, h.hz, Nat.le_trans h.hs hg.size⟩
end

end Go.Proofs.YtpkbmmepapgogaaGreatDoor
