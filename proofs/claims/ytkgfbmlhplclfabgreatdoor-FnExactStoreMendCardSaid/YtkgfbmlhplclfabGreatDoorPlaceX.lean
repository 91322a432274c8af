/-
  Contracts of the exact laws' helpers over places: toPlace, szPlace, eqPlace (written by wip/gen_e7.py).
-/
import Derived.Test.YtkgfbmlhplclfabGreatDoorPlaceS
import Derived.Test.YtkgfbmlhplclfabGreatDoorZrows
import Derived.Test.YtkgfbmlhplclfabGreatDoorZpd
import Derived.Test.YtkgfbmlhplclfabGreatDoorZpb
import Derived.Deep.RegionHeld3
namespace Go.Proofs.YtkgfbmlhplclfabGreatDoor
open Go.RowKit
set_option linter.unusedVariables false

/-- What toPlace hands back: a place whose two rows the call made. -/
structure PlO (w : World) (base : Nat) (v : Value) (p : Plc) : Prop where
  ex : ∃ g n c g' n' c', v = .agg #[.slice (some ⟨g, 0, none⟩) n c, .int .i64 p.step, .slice (some ⟨g', 0, none⟩) n' c'] ∧ Own w base (.slice (some ⟨g, 0, none⟩) n c) p.start ∧ Own w base (.slice (some ⟨g', 0, none⟩) n' c') p.word ∧ g ≠ g' ∧ (Lit.int .i64 p.step).wf = true
theorem PlO.up {w w' : World} {base : Nat} {v : Value} {p : Plc} (h : PlO w base v p) (hq : Below w.heap.size w w') : PlO w' base v p := by
  obtain ⟨g, n, c, g', n', c', e, h1, h2, h3, h4⟩ := h.ex
  exact ⟨g, n, c, g', n', c', e, h1.up hq, h2.up hq, h3, h4⟩
theorem PlO.plM {w : World} {base : Nat} {v : Value} {p : Plc} (h : PlO w base v p) : PlM w w.heap.size v p := by
  obtain ⟨g, n, c, g', n', c', rfl, h1, h2, h3, h4⟩ := h.ex
  exact plM_mk h1.ints h2.ints h4
theorem PlO.down {w : World} {base base' : Nat} {v : Value} {p : Plc} (h : PlO w base v p) (hb : base' ≤ base) : PlO w base' v p := by
  obtain ⟨g, n, c, g', n', c', e, h1, h2, h3, h4⟩ := h.ex
  exact ⟨g, n, c, g', n', c', e, h1.down hb, h2.down hb, h3, h4⟩
theorem PlO.setLow {w : World} {base : Nat} {v : Value} {p : Plc} (h : PlO w base v p) {a : Addr} (ha : a.block < base) (u : Value) : PlO (w.setCell a u) base v p := by
  obtain ⟨g, n, c, g', n', c', e, h1, h2, h3, h4⟩ := h.ex
  exact ⟨g, n, c, g', n', c', e, h1.setLow ha u, h2.setLow ha u, h3, h4⟩

/-- Whether two places read alike. -/
def sameP (p q : Plc) : Bool := sameL p.start q.start && decide (p.step = q.step) && sameL p.word q.word
theorem sameP_refl (p : Plc) : sameP p p = true := by simp [sameP, sameL_refl]
end Go.Proofs.YtkgfbmlhplclfabGreatDoor
