/-
  Words, plain lemmas and contracts that belong together, joined into one file.
-/
import Derived.Test.YtpkbmmepapgogabGreatDoorZcs
import Derived.Test.YtpkbmmepapgogabGreatDoorZpd
import Derived.Test.YtpkbmmepapgogabGreatDoorZoks
namespace Go.Proofs.YtpkbmmepapgogabGreatDoor
open Go.RowKit
set_option linter.unusedVariables false

/-- What l15Made hands back. -/
structure PlY (w : World) (base : Nat) (v : Value) (p : Plc) : Prop where
  ex : ∃ A n c A' n' c', v = .agg #[.slice A n c, .int .i64 p.step, .slice A' n' c'] ∧ Own w base (.slice A n c) p.start ∧ OwnZ w base (.slice A' n' c') p.word ∧ (Lit.int .i64 p.step).wf = true
theorem PlY.up {w w' : World} {base : Nat} {v : Value} {p : Plc} (h : PlY w base v p) (hq : Below w.heap.size w w') : PlY w' base v p := by
  obtain ⟨A, n, c, A', n', c', e, h1, h2, h3⟩ := h.ex
  exact ⟨A, n, c, A', n', c', e, h1.up hq, h2.up hq, h3⟩
theorem PlY.down {w : World} {base base' : Nat} {v : Value} {p : Plc} (h : PlY w base v p) (hb : base' ≤ base) : PlY w base' v p := by
  obtain ⟨A, n, c, A', n', c', e, h1, h2, h3⟩ := h.ex
  exact ⟨A, n, c, A', n', c', e, h1.down hb, h2.down hb, h3⟩
theorem PlY.setLow {w : World} {base : Nat} {v : Value} {p : Plc} (h : PlY w base v p) {a : Addr} (ha : a.block < base) (u : Value) : PlY (w.setCell a u) base v p := by
  obtain ⟨A, n, c, A', n', c', e, h1, h2, h3⟩ := h.ex
  exact ⟨A, n, c, A', n', c', e, h1.setLow ha u, h2.setLow ha u, h3⟩
theorem PlY.kept {w w' : World} {base b m : Nat} {v r : Value} {p : Plc} {xs : List Value} (h : PlY w base v p) (hr : w.ownsRow b 31 3 r m xs) (hg : w.grownBy w' r.ownBlock) : PlY w' base v p := by
  obtain ⟨A, n, c, A', n', c', e, h1, h2, h3⟩ := h.ex
  exact ⟨A, n, c, A', n', c', e, h1.kept hg (own_neP hr h1), h2.kept hg (fun l hl => own_neP hr hl), h3⟩
theorem plZ_zero {w : World} {base : Nat} : PlY w base (.agg #[.slice none 0 0, .int .i64 0, .slice none 0 0]) noPlc :=
  ⟨_, _, _, _, _, _, rfl, Own.none_, .inl Own.none_, by decide⟩

end Go.Proofs.YtpkbmmepapgogabGreatDoor

namespace Go.Proofs.YtpkbmmepapgogabGreatDoor
open Go.RowKit
set_option linter.unusedVariables false

/-- A block of a desk is no block of a row of ints, or of places. -/
theorem row_neDesk {w : World} {base g n size : Nat} {e : TypeId} {v : Value} {xs : List Value} {cs : Array Value} (he : e ≠ 37) (h : w.ownsRow base e size v n xs) (hb : w.heap[g]? = some (.cells cs 37 (0, 0))) : v.ownBlock ≠ some g := by
  intro e'
  rcases h.2 with ⟨rfl, _⟩ | ⟨g', cap, cur, rfl, _, hg, _⟩
  · cases e'
  · simp only [Value.ownBlock, Option.some.injEq] at e'
    subst e'
    rw [hb] at hg
    injection hg with hg
    injection hg with _ h2
    exact he h2.symm
theorem grown_at (w : World) (a : Addr) (u : Value) : w.grownBy (w.setCell a u) (some a.block) :=
  ⟨rfl, rfl, rfl, by simp, fun k _ hk => Below.heap_setCell _ _ _ k (fun e => hk (by rw [e]))⟩
section
variable {w : World} {base : Nat} {v : Value} {zs : List Int} {p : Plc} {ps : List Plc} {a : Addr} {cs : Array Value}
theorem Own.setDesk (h : Own w base v zs) (hb : w.heap[a.block]? = some (.cells cs 37 (0, 0))) (u : Value) : Own (w.setCell a u) base v zs := h.kept (grown_at w a u) (.inr (row_neDesk (by decide) h.row hb))
theorem OwnZ.setDesk (h : OwnZ w base v zs) (hb : w.heap[a.block]? = some (.cells cs 37 (0, 0))) (u : Value) : OwnZ (w.setCell a u) base v zs := by
  rcases h with h | h
  · exact .inl (h.setDesk hb u)
  · exact .inr h
theorem PlY.setDesk (h : PlY w base v p) (hb : w.heap[a.block]? = some (.cells cs 37 (0, 0))) (u : Value) : PlY (w.setCell a u) base v p := by
  obtain ⟨A, n, c, A', n', c', e, h1, h2, h3⟩ := h.ex
  exact ⟨A, n, c, A', n', c', e, h1.setDesk hb u, h2.setDesk hb u, h3⟩
theorem PlZ.setDesk (h : PlZ w base v p) (hb : w.heap[a.block]? = some (.cells cs 37 (0, 0))) (u : Value) : PlZ (w.setCell a u) base v p := by
  obtain ⟨A, n, c, A', n', c', e, h1, h2, h3, h4⟩ := h.ex
  exact ⟨A, n, c, A', n', c', e, h1.setDesk hb u, h2.setDesk hb u, h3, h4⟩
theorem PsZ.setDesk (h : PsZ w base v ps) (hb : w.heap[a.block]? = some (.cells cs 37 (0, 0))) (x : Value) : PsZ (w.setCell a x) base v ps := by
  obtain ⟨us, h1, h2, h3⟩ := h.ex
  exact ⟨us, h1, h2.kept (grown_at w a x) (.inr (row_neDesk (by decide) h2 hb)), fun j u p hu hp => (h3 j u p hu hp).setDesk hb x⟩
/-- A store into a block of a desk leaves it one. -/
theorem desk_stays (hb : w.heap[a.block]? = some (.cells cs 37 (0, 0))) (u : Value) : ∃ cs', (w.setCell a u).heap[a.block]? = some (.cells cs' 37 (0, 0)) := by
  simp only [World.setCell, Array.getElem?_modify, if_true, hb, Option.map_some]
  exact ⟨_, rfl⟩
theorem PlY.ints {A A' : Option Addr} {n c n' c' : Nat} {z : Int} (h : PlY w base (.agg #[.slice A n c, .int .i64 z, .slice A' n' c']) p) : Ints w w.heap.size A n c p.start ∧ Ints w w.heap.size A' n' c' p.word ∧ z = p.step ∧ (Lit.int .i64 p.step).wf = true := by
  obtain ⟨B, m, d, B', m', d', e, h1, h2, h3⟩ := h.ex
  injection e with e
  injection e with e
  simp only [List.cons.injEq, Value.slice.injEq, Value.int.injEq, and_true, true_and] at e
  obtain ⟨⟨rfl, rfl, rfl⟩, rfl, rfl, rfl, rfl⟩ := e
  exact ⟨h1.ints, h2.ints, rfl, h3⟩
theorem PlY.plM {u : Value} (h : PlY w base u p) : PlM w w.heap.size u p := by
  obtain ⟨B, m, d, B', m', d', e, h1, h2, h3⟩ := h.ex
  subst e
  exact plM_mk h1.ints h2.ints h3
end
end Go.Proofs.YtpkbmmepapgogabGreatDoor
