/-
  Draws of chapter 14: a deed for a place (l20Deed).
-/
import Derived.Test.YtoafpokcbbncfaaDrawPl
import Derived.Test.YtoafpokcbbncfaaZpd
namespace Go.Proofs.Ytoafpokcbbncfaa
open Go.RowKit
set_option linter.unusedVariables false

section
variable {w0 W W' : World} {g m m' g5 : Nat} {x y z a b c : Value}
end
theorem farC {w w' : World} {g : Nat} (h : w.grownBy w' (some g)) : ∀ b o, b ≠ g → b < w.heap.size → w'.cell? ⟨b, o, none⟩ = w.cell? ⟨b, o, none⟩ := fun b o hb hl => World.cell?_of_block (h.block b hl (fun e => hb (Option.some.inj e)))
theorem farF {w w' : World} {g : Nat} (h : w.grownBy w' (some g)) : ∀ b o, b ≠ g → b < w.heap.size → w'.frozen? ⟨b, o, none⟩ = w.frozen? ⟨b, o, none⟩ := fun b o hb hl => World.frozen?_of_block (h.block b hl (fun e => hb (Option.some.inj e)))
theorem allocC (W : World) (o : Obj) (b i : Nat) (h : b < W.heap.size) : (W.alloc o).cell? ⟨b, i, none⟩ = W.cell? ⟨b, i, none⟩ := World.cell?_of_block ((al W o).block b h)
theorem allocF (W : World) (o : Obj) (b i : Nat) (h : b < W.heap.size) : (W.alloc o).frozen? ⟨b, i, none⟩ = W.frozen? ⟨b, i, none⟩ := World.frozen?_of_block ((al W o).block b h)
theorem TriW.madeS {W : World} {o : Obj} {x y z : Value} {T : TypeId} : TriW ((W.alloc o).alloc (.cells #[x, y, z] T)) (W.heap.size + 1) x y z := by have := TriW.made (W.alloc o) x y z T; simpa using this
theorem TriW.far {W W' : World} {b g : Nat} {x y z : Value} (h : TriW W b x y z) (hg : W.grownBy W' (some g)) (hne : b ≠ g) : TriW W' b x y z := h.grown hg (fun k e => by injection e with e; omega)
theorem TriW.madeAt {W : World} {b : Nat} {x y z : Value} {T : TypeId} (hb : b = W.heap.size) : TriW (W.alloc (.cells #[x, y, z] T)) b x y z := by subst hb; exact TriW.made W x y z T
theorem TriW.fill {W : World} {b : Nat} {x y z x' y' z' : Value} (h : TriW W b x' y' z') : TriW (((W.setCell ⟨b, 0, none⟩ x).setCell ⟨b, 1, none⟩ y).setCell ⟨b, 2, none⟩ z) b x y z := ((h.set0 x).set1 y).set2 z
def lit8 : Array Value := #[.int .i64 0, .int .i64 1, .int .i64 2, .int .i64 2, .int .i64 2, .int .i64 2, .int .i64 3, .int .i64 4]
abbrev litO : Obj := .cells #[.int .i64 0, .int .i64 1, .int .i64 2, .int .i64 2, .int .i64 2, .int .i64 2, .int .i64 3, .int .i64 4] 3
theorem lit8_at (X : Nat) (h : X < 8) : ∃ v : Int, lit8[X]? = some (.int .i64 v) ∧ 0 ≤ v ∧ v ≤ 4 := by
  rcases (show X = 0 ∨ X = 1 ∨ X = 2 ∨ X = 3 ∨ X = 4 ∨ X = 5 ∨ X = 6 ∨ X = 7 by omega) with rfl | rfl | rfl | rfl | rfl | rfl | rfl | rfl <;> exact ⟨_, rfl, by decide, by decide⟩
theorem lit8_cell {w : World} {X : Nat} {v : Int} (h : lit8[X]? = some (.int .i64 v)) : (w.alloc litO).cell? ⟨w.heap.size, X, none⟩ = some (.int .i64 v) := by
  rw [World.cell?_alloc_at _ _ _ _ rfl]; exact h
theorem lit8_get {X : Nat} {v : Int} (h : lit8[X]? = some (.int .i64 v)) (hX : X < [Value.int .i64 0, Value.int .i64 1, Value.int .i64 2, Value.int .i64 2, Value.int .i64 2, Value.int .i64 2, Value.int .i64 3, Value.int .i64 4].length) :
    [Value.int .i64 0, Value.int .i64 1, Value.int .i64 2, Value.int .i64 2, Value.int .i64 2, Value.int .i64 2, Value.int .i64 3, Value.int .i64 4][X] = .int .i64 v := by
  have e : lit8[X]? = ([Value.int .i64 0, Value.int .i64 1, Value.int .i64 2, Value.int .i64 2, Value.int .i64 2, Value.int .i64 2, Value.int .i64 3, Value.int .i64 4] : List Value)[X]? := by unfold lit8; simp
  rw [e, List.getElem?_eq_getElem hX] at h
  exact Option.some.inj h
end Go.Proofs.Ytoafpokcbbncfaa
