/-
  What the library's package-level variables hold, that it stays; strconv.Itoa and numberOf.
-/
import Derived.Test.YtoafpokcbbncfaaDoorZdraw
import Derived.Test.YtoafpokcbbncfaaDoorZpb
import Derived.Test.YtoafpokcbbncfaaDoorShelf
import Derived.Lib.AtoiAll
import Derived.Lib.AtoiAllCases
import Derived.Lib.AppendIntMem
import Derived.Lib.SmallJoins
namespace Go.Proofs.YtoafpokcbbncfaaDoor
open Go.RowKit
set_option linter.unusedVariables false

structure LaidN (w : World) : Prop where
  max : ∃ m, w.cell? ⟨1, 0, none⟩ = some (.int .i64 m)
  syn : ∃ te pe, w.cell? ⟨3, 0, none⟩ = some (.iface te pe)
  rng : ∃ te pe, w.cell? ⟨4, 0, none⟩ = some (.iface te pe)
  tab : Lib.TabBelow Tryd.prog w.heap.size w "internal/strconv.uint64pow10" .u64 Lib.pow10Tab
theorem cell_up {w w' : World} {p : Addr} {v : Value} (h : w.cell? p = some v) (hq : Below w.heap.size w w') : w'.cell? p = some v :=
  (hq.cell (World.block_lt_of_cell? w p h)).trans h
theorem LaidN.up {w w' : World} (h : LaidN w) (hq : Below w.heap.size w w') : LaidN w' := by
  obtain ⟨⟨m, hm⟩, ⟨t1, p1, h1⟩, ⟨t2, p2, h2⟩, ht⟩ := h
  exact ⟨⟨m, cell_up hm hq⟩, ⟨t1, p1, cell_up h1 hq⟩, ⟨t2, p2, cell_up h2 hq⟩, fun w2 h2 => ht w2 (upB hq h2)⟩

/-- The table alone. -/
structure LaidT (w : World) : Prop where
  tab : Lib.TabBelow Tryd.prog w.heap.size w "internal/strconv.uint64pow10" .u64 Lib.pow10Tab
theorem LaidT.up {w w' : World} (h : LaidT w) (hq : Below w.heap.size w w') : LaidT w' := ⟨fun w2 h2 => h.tab w2 (upB hq h2)⟩
theorem LaidN.t {w : World} (h : LaidN w) : LaidT w := ⟨h.tab⟩
end Go.Proofs.YtoafpokcbbncfaaDoor
