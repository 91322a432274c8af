/-
  Draws of chapter 14: a deed for a place (l20Deed).
-/
import Derived.Test.YtkgfbmlhplclfaaGreatDoorDrawPl
import Derived.Test.YtkgfbmlhplclfaaGreatDoorDeedM
namespace Go.Proofs.YtkgfbmlhplclfaaGreatDoor
open Go.RowKit
set_option linter.unusedVariables false

/-- The reader, the place's block, and the result's block. -/
structure Bq (w0 W : World) (g m : Nat) (x y z : Value) : Prop where
  rd : Rd W g m
  gr : w0.grownBy W (some g)
  tri : Tri W w0.heap.size x y z
  t4 : TriW W (w0.heap.size + 1) (.int .i64 0) (.int .i64 0) (.int .i64 0)
  hg : g < w0.heap.size
section
variable {w0 W W' : World} {g m m' g5 : Nat} {x y z a b c : Value}
theorem Bq.grown {row : Option Nat} (h : Bq w0 W g m x y z) (hg : W.grownBy W' row) (hr : ∀ k, row = some k → w0.heap.size + 1 < k) : Bq w0 W' g m x y z := by
  have h6 := h.hg
  have hb := hg.block w0.heap.size h.tri.lt (fun e => by have := hr _ e.symm; omega)
  have hc : ∀ o, W'.cell? ⟨w0.heap.size, o, none⟩ = W.cell? ⟨w0.heap.size, o, none⟩ := fun o => World.cell?_of_block hb
  exact ⟨h.rd.kept hg (fun k e => by have := hr k e; omega), grown_new h.gr hg (fun j e => .inl (by have := hr j e; omega)), ⟨(hc 0).trans h.tri.c0, (hc 1).trans h.tri.c1, (hc 2).trans h.tri.c2, Nat.lt_of_lt_of_le h.tri.lt hg.size⟩, h.t4.grown hg (fun k e => by have := hr k e; omega), h6⟩
theorem Bq.alloc (h : Bq w0 W g m x y z) (o : Obj) : Bq w0 (W.alloc o) g m x y z := h.grown (row := none) (World.grownBy_alloc _ _ none) (fun _ e => by cases e)
theorem Bq.drew (h : Bq w0 W g m x y z) : Bq w0 W.drew g m x y z := h.grown (row := none) ⟨rfl, rfl, rfl, Nat.le_refl _, fun _ _ _ => rfl⟩ (fun _ e => by cases e)
theorem Bq.more (h : Bq w0 W g m x y z) (hm : m ≤ m') : Bq w0 W g m' x y z := ⟨h.rd.more hm, h.gr, h.tri, h.t4, h.hg⟩
theorem Bq.read (h : Bq w0 W g m x y z) (hr : Rd W' g m') (hg : W.grownBy W' (some g)) : Bq w0 W' g m' x y z := by
  have h6 := h.hg
  have hb := hg.block w0.heap.size h.tri.lt (fun e => by injection e with e; omega)
  have hc : ∀ o, W'.cell? ⟨w0.heap.size, o, none⟩ = W.cell? ⟨w0.heap.size, o, none⟩ := fun o => World.cell?_of_block hb
  exact ⟨hr, grown_new h.gr hg (fun _ _ => .inr rfl), ⟨(hc 0).trans h.tri.c0, (hc 1).trans h.tri.c1, (hc 2).trans h.tri.c2, Nat.lt_of_lt_of_le h.tri.lt hg.size⟩, h.t4.grown hg (fun k e => by injection e with e; omega), h6⟩
/-- The deed's own block is written. -/
theorem Bq.put (h : Bq w0 W g m x y z) (i : Nat) (u : Value) (h5 : w0.heap.size + 1 < g5) : Bq w0 (W.setCell ⟨g5, i, none⟩ u) g m x y z := h.grown (grown_atP W ⟨g5, i, none⟩ u) (fun k e => by have : g5 = k := Option.some.inj e; omega)
theorem Bq.fin (h : Bq w0 W g m x y z) (a b c : Value) : TriW (((W.setCell ⟨w0.heap.size + 1, 0, none⟩ a).setCell ⟨w0.heap.size + 1, 1, none⟩ b).setCell ⟨w0.heap.size + 1, 2, none⟩ c) (w0.heap.size + 1) a b c ∧ Rd (((W.setCell ⟨w0.heap.size + 1, 0, none⟩ a).setCell ⟨w0.heap.size + 1, 1, none⟩ b).setCell ⟨w0.heap.size + 1, 2, none⟩ c) g m ∧ w0.grownBy (((W.setCell ⟨w0.heap.size + 1, 0, none⟩ a).setCell ⟨w0.heap.size + 1, 1, none⟩ b).setCell ⟨w0.heap.size + 1, 2, none⟩ c) (some g) := by
  have h6 := h.hg
  have hr : ∀ {X : World} {i : Nat} {u : Value}, Rd X g m → Rd (X.setCell ⟨w0.heap.size + 1, i, none⟩ u) g m := fun {X i u} hX => hX.kept (row := some (w0.heap.size + 1)) (grown_atP X ⟨w0.heap.size + 1, i, none⟩ u) (fun k e => by injection e with e; omega)
  have hg : ∀ {X : World} {i : Nat} {u : Value}, w0.grownBy X (some g) → w0.grownBy (X.setCell ⟨w0.heap.size + 1, i, none⟩ u) (some g) := fun {X i u} hX => grown_new hX (q := some (w0.heap.size + 1)) (grown_atP X ⟨w0.heap.size + 1, i, none⟩ u) (fun j e => .inl (by injection e with e; omega))
  exact ⟨((h.t4.set0 a).set1 b).set2 c, hr (hr (hr h.rd)), hg (hg (hg h.gr))⟩
end
theorem farC {w w' : World} {g : Nat} (h : w.grownBy w' (some g)) : ∀ b o, b ≠ g → b < w.heap.size → w'.cell? ⟨b, o, none⟩ = w.cell? ⟨b, o, none⟩ := fun b o hb hl => World.cell?_of_block (h.block b hl (fun e => hb (Option.some.inj e)))
theorem farF {w w' : World} {g : Nat} (h : w.grownBy w' (some g)) : ∀ b o, b ≠ g → b < w.heap.size → w'.frozen? ⟨b, o, none⟩ = w.frozen? ⟨b, o, none⟩ := fun b o hb hl => World.frozen?_of_block (h.block b hl (fun e => hb (Option.some.inj e)))
theorem allocC (W : World) (o : Obj) (b i : Nat) (h : b < W.heap.size) : (W.alloc o).cell? ⟨b, i, none⟩ = W.cell? ⟨b, i, none⟩ := World.cell?_of_block ((al W o).block b h)
theorem allocF (W : World) (o : Obj) (b i : Nat) (h : b < W.heap.size) : (W.alloc o).frozen? ⟨b, i, none⟩ = W.frozen? ⟨b, i, none⟩ := World.frozen?_of_block ((al W o).block b h)
theorem TriW.madeS {W : World} {o : Obj} {x y z : Value} {T : TypeId} : TriW ((W.alloc o).alloc (.cells #[x, y, z] T)) (W.heap.size + 1) x y z := by have := TriW.made (W.alloc o) x y z T; simpa using this
theorem TriW.far {W W' : World} {b g : Nat} {x y z : Value} (h : TriW W b x y z) (hg : W.grownBy W' (some g)) (hne : b ≠ g) : TriW W' b x y z := h.grown hg (fun k e => by injection e with e; omega)
theorem TriW.madeAt {W : World} {b : Nat} {x y z : Value} {T : TypeId} (hb : b = W.heap.size) : TriW (W.alloc (.cells #[x, y, z] T)) b x y z := by subst hb; exact TriW.made W x y z T
theorem TriW.fill {W : World} {b : Nat} {x y z x' y' z' : Value} (h : TriW W b x' y' z') : TriW (((W.setCell ⟨b, 0, none⟩ x).setCell ⟨b, 1, none⟩ y).setCell ⟨b, 2, none⟩ z) b x y z := ((h.set0 x).set1 y).set2 z
def lit8 : Array Value := #[.int .i64 0, .int .i64 1, .int .i64 2, .int .i64 2, .int .i64 2, .int .i64 2, .int .i64 3, .int .i64 4]
abbrev litO : Obj := .cells #[.int .i64 0, .int .i64 1, .int .i64 2, .int .i64 2, .int .i64 2, .int .i64 2, .int .i64 3, .int .i64 4] 3
theorem lit8_at (X : Nat) (h : X < 8) : ∃ v : Int, lit8[X]? = some (.int .i64 v) ∧ 0 ≤ v ∧ v ≤ 4 := by
  rcases (show X = 0 ∨ X = 1 ∨ X = 2 ∨ X = 3 ∨ X = 4 ∨ X = 5 ∨ X = 6 ∨ X = 7 by omega) with rfl | rfl | rfl | rfl | rfl | rfl | rfl | rfl <;> exact ⟨_, rfl, by decide, by decide⟩
theorem lit8_cell {w : World} {X : Nat} {v : Int} (h : lit8[X]? = some (.int .i64 v)) : (w.alloc litO).cell? ⟨w.heap.size, X, none⟩ = some (.int .i64 v) := by
  rw [World.cell?_alloc_at _ _ _ _ rfl]; exact h
theorem lit8_get {X : Nat} {v : Int} (h : lit8[X]? = some (.int .i64 v)) (hX : X < [Value.int .i64 0, Value.int .i64 1, Value.int .i64 2, Value.int .i64 2, Value.int .i64 2, Value.int .i64 2, Value.int .i64 3, Value.int .i64 4].length) :
    [Value.int .i64 0, Value.int .i64 1, Value.int .i64 2, Value.int .i64 2, Value.int .i64 2, Value.int .i64 2, Value.int .i64 3, Value.int .i64 4][X] = .int .i64 v := by
  have e : lit8[X]? = ([Value.int .i64 0, Value.int .i64 1, Value.int .i64 2, Value.int .i64 2, Value.int .i64 2, Value.int .i64 2, Value.int .i64 3, Value.int .i64 4] : List Value)[X]? := by unfold lit8; simp
  rw [e, List.getElem?_eq_getElem hX] at h
  exact Option.some.inj h
theorem pickQ (g m n : Nat) (w : World) (h : Rd w g m) (hm : m ≤ 100000) (hn : 1 ≤ n) (hn2 : n ≤ 1000000) :
    Calls Tryz.prog 49 #[.pointer (some ⟨g, 0, none⟩), .int .i64 (n : Int)] w fun e w' => ∃ x : Nat, e = .returned (.int .i64 (x : Int)) ∧ x < n ∧ Rd w' g (m + 1) ∧ w.grownBy w' (some g) :=
  (pick_c g m (n : Int) w h hm (by omega) (by omega)).mono fun e w' ⟨x, h1, h2, h3, h4, h5⟩ => ⟨x.toNat, by rw [h1, Int.toNat_of_nonneg h2], by omega, h4, h5⟩
theorem pick8 (g m : Nat) (w : World) (h : Rd w g m) (hm : m ≤ 100000) :
    Calls Tryz.prog 49 #[.pointer (some ⟨g, 0, none⟩), .int .i64 8] w fun e w' => ∃ x : Nat, e = .returned (.int .i64 (x : Int)) ∧ x < 8 ∧ Rd w' g (m + 1) ∧ w.grownBy w' (some g) := pickQ g m 8 w h hm (by omega) (by omega)
theorem pick60 (g m : Nat) (w : World) (h : Rd w g m) (hm : m ≤ 100000) :
    Calls Tryz.prog 49 #[.pointer (some ⟨g, 0, none⟩), .int .i64 60] w fun e w' => ∃ x : Nat, e = .returned (.int .i64 (x : Int)) ∧ x < 60 ∧ Rd w' g (m + 1) ∧ w.grownBy w' (some g) := pickQ g m 60 w h hm (by omega) (by omega)

end Go.Proofs.YtkgfbmlhplclfaaGreatDoor
