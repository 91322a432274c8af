/-
  What the library's package-level variables hold, that it stays; strconv.Itoa and numberOf.
-/
import Derived.Test.YtoafpokcbbncfaaZdraw
import Derived.Test.YtoafpokcbbncfaaZpb
import Derived.Test.YtoafpokcbbncfaaShelf
import Derived.Lib.AtoiAll
import Derived.Lib.AtoiAllCases
import Derived.Lib.AppendIntMem
import Derived.Lib.SmallJoins
namespace Go.Proofs.Ytoafpokcbbncfaa
open Go.RowKit
set_option linter.unusedVariables false

theorem cell_up {w w' : World} {p : Addr} {v : Value} (h : w.cell? p = some v) (hq : Below w.heap.size w w') : w'.cell? p = some v :=
  (hq.cell (World.block_lt_of_cell? w p h)).trans h
/-- The table alone. -/
structure LaidT (w : World) : Prop where
  tab : Lib.TabBelow Try.prog w.heap.size w "internal/strconv.uint64pow10" .u64 Lib.pow10Tab
theorem LaidT.up {w w' : World} (h : LaidT w) (hq : Below w.heap.size w w') : LaidT w' := ⟨fun w2 h2 => h.tab w2 (upB hq h2)⟩
/-- What numberOf tells of a text. -/
def endL (x : Lib.NumEnd Int) (z : Int) : Int := Lib.NumEnd.casesOn x (fun v => v) 0 z
def numL (l : Bs) : Int := endL (Lib.atoiAll l) (Lib.atoiSat l)
theorem numL_wf (l : Bs) : (Lit.int .i64 (numL l)).wf = true := by
  unfold numL
  rcases h : Lib.atoiAll l with v | _ | _
  · have := Lib.atoiAll_bounds h
    show (Lit.int .i64 v).wf = true
    exact wf_i64 (by omega)
  · show (Lit.int .i64 0).wf = true
    decide
  · show (Lit.int .i64 (Lib.atoiSat l)).wf = true
    unfold Lib.atoiSat
    split <;> decide
/-- Numbers of two digits at most, counted out. -/
theorem itoa_cnt : ((List.range 199).all fun n => decide (Lib.itoa ((n : Int) - 99) = stepT ((n : Int) - 99)) && decide (numL (stepT ((n : Int) - 99)) = (n : Int) - 99)) = true := by kernel_rfl
theorem itoa_at {z : Int} (h0 : -99 ≤ z) (h1 : z ≤ 99) : Lib.itoa z = stepT z ∧ numL (stepT z) = z := by
  have := List.all_eq_true.1 itoa_cnt (z + 99).toNat (List.mem_range.2 (by omega))
  rw [show (((z + 99).toNat : Nat) : Int) - 99 = z by omega] at this
  simp only [Bool.and_eq_true, decide_eq_true_eq] at this
  exact this
end Go.Proofs.Ytoafpokcbbncfaa
