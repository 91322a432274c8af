/-
  Words, plain lemmas and contracts that belong together, joined into one file.
-/
import Derived.Test.YtoafpokcbbncfaaDkR
import Derived.Test.YtoafpokcbbncfaaPlaceI
import Derived.Test.YtoafpokcbbncfaaCloneA
import Derived.Test.YtoafpokcbbncfaaZoks
import Derived.Test.YtoafpokcbbncfaaEqD
import Derived.Deep.RegionHeld3
import Derived.Test.YtoafpokcbbncfaaZpx
import Derived.StillTailTactics
namespace Go.Proofs.Ytoafpokcbbncfaa
open Go.RowKit
set_option linter.unusedVariables false

/-- What a deed other than the way back makes of a place, and whether it can be done. -/
def afterP (p : Plc) (q : Ded) : Plc :=
  if (q.k = 0 ∨ q.k = 1) ∧ p.word ≠ [] then noPlc
  else if q.k = 0 then ⟨putL p.start q.a q.b, p.step, p.word⟩
  else if q.k = 1 then ⟨p.start, q.a, p.word⟩
  else if q.k = 2 then ⟨p.start, p.step, p.word ++ [q.a]⟩
  else ⟨p.start, p.step, []⟩
def afterB (p : Plc) (q : Ded) : Bool := placeOk (afterP p q) && !sameP p (afterP p q)
theorem sameP_iff {p q : Plc} : sameP p q = true ↔ p = q := by
  unfold sameP sameL
  obtain ⟨a, b, c⟩ := p
  obtain ⟨a', b', c'⟩ := q
  simp [Plc.mk.injEq, and_assoc]
theorem after_new {p : Plc} {q : Ded} (hp : placeOk p = true) (h0 : 0 ≤ q.k) (h3 : q.k ≤ 3) (hb : q.k ≠ 0 → q.b = 0) (ha : q.k = 3 → q.a = 0) : afterP p q = madeP p q ∧ afterB p q = (placeOk (madeP p q) && decide (placeT (madeP p q) ≠ placeT p)) := by
  have e : afterP p q = madeP p q := by
    unfold afterP madeP
    obtain ⟨k, a, b⟩ := q
    simp only at h0 h3 hb ha ⊢
    rcases (show k = 0 ∨ k = 1 ∨ k = 2 ∨ k = 3 by omega) with rfl | rfl | rfl | rfl
    · by_cases hw : p.word = [] <;> simp [hw]
    · have := hb (by omega)
      subst this
      by_cases hw : p.word = [] <;> simp [hw]
    · have := hb (by omega)
      subst this
      simp
    · have := hb (by omega)
      subst this
      have := ha rfl
      subst this
      simp
  refine ⟨e, ?_⟩
  unfold afterB
  rw [e]
  cases hok : placeOk (madeP p q) with
  | false => rfl
  | true =>
    rw [Bool.true_and, Bool.true_and]
    by_cases hs : p = madeP p q
    · rw [sameP_iff.2 hs, ← hs]
      simp
    · have h1 : sameP p (madeP p q) = false := by
        cases hx : sameP p (madeP p q) with
        | false => rfl
        | true => exact absurd (sameP_iff.1 hx) hs
      rw [h1]
      exact (decide_eq_true (p := placeT (madeP p q) ≠ placeT p) (fun e => hs (placeT_inj hp e.symm))).symm
/-- A block of a place stands with its tag. -/
structure PTag (w : World) (g : Nat) : Prop where
  ob : ∃ cs, w.heap[g]? = some (.cells cs 26 (0, 0))
theorem PTag.lt {w : World} {g : Nat} (h : PTag w g) : g < w.heap.size := by
  obtain ⟨cs, e⟩ := h.ob
  exact (Array.getElem?_eq_some_iff.1 e).1
theorem PTag.up {w w' : World} {g : Nat} (h : PTag w g) (hq : Below w.heap.size w w') : PTag w' g := by
  obtain ⟨cs, e⟩ := h.ob
  exact ⟨cs, (hq.block g h.lt).trans e⟩
theorem PTag.made (w : World) (cs : Array Value) : PTag (w.alloc (.cells cs 26)) w.heap.size := ⟨cs, by show (w.heap.push _)[w.heap.size]? = _; simp⟩
/-- A store into a block of a place leaves rows as they are. -/
theorem GrP.setP {w : World} {g : Nat} (h : PTag w g) (i : Nat) (x : Value) : GrP 0 w (w.setCell ⟨g, i, none⟩ x) := by
  obtain ⟨cs, e⟩ := h.ob
  exact .of_grown (grown_set w g i x) fun k hk => by
    injection hk with hk
    subst hk
    exact ⟨Nat.zero_le _, cs, e⟩

theorem plQ_mk {w : World} {lo : Nat} {A A' : Option Addr} {n c n' c' : Nat} {p : Plc} {z : Int} (h1 : Own w lo (.slice A n c) p.start) (h2 : Own w lo (.slice A' n' c') p.word) (hne : Ap (.slice A n c) (.slice A' n' c')) (hz : z = p.step) (hw : (Lit.int .i64 p.step).wf = true) : PlQ w lo (.agg #[.slice A n c, .int .i64 z, .slice A' n' c']) p := by
  subst hz
  exact ⟨A, n, c, A', n', c', rfl, h1, h2, hne.or, hw⟩
theorem PTag.set {w : World} {g : Nat} (h : PTag w g) (i : Nat) (x : Value) : PTag (w.setCell ⟨g, i, none⟩ x) g := by
  obtain ⟨cs, e⟩ := h.ob
  exact ⟨_, heap_setCell_same w g i cs _ x e⟩
theorem PTag.at {w : World} {g b i : Nat} (h : PTag w g) (x : Value) : PTag (w.setCell ⟨b, i, none⟩ x) g := by
  by_cases hg : g = b
  · subst hg; exact h.set i x
  · obtain ⟨cs, e⟩ := h.ob
    exact ⟨cs, (heap_setCell_other w ⟨b, i, none⟩ g x hg).trans e⟩
theorem PTag.grown {w w' : World} {g : Nat} {row : Option Nat} (h : PTag w g) (hg : w.grownBy w' row) (hne : ∀ k, row = some k → k ≠ g) : PTag w' g := by
  obtain ⟨cs, e⟩ := h.ob
  exact ⟨cs, (hg.block g h.lt (fun e => hne g e.symm rfl)).trans e⟩
theorem set3_plQ {w : World} {lo g : Nat} {v : Value} {p : Plc} (h : PlQ w lo v p) (hg : PTag w g) (x y z : Value) : PlQ (((w.setCell ⟨g, 0, none⟩ x).setCell ⟨g, 1, none⟩ y).setCell ⟨g, 2, none⟩ z) lo v p :=
  ((h.gr (GrP.setP hg 0 x)).gr (GrP.setP (hg.set 0 x) 1 y)).gr (GrP.setP ((hg.set 0 x).set 1 y) 2 z)

end Go.Proofs.Ytoafpokcbbncfaa

namespace Go.Proofs.Ytoafpokcbbncfaa
open Go.RowKit
set_option linter.unusedVariables false

/-- A desk of the call, laid open. -/
theorem DkR.open_ {w : World} {lo : Nat} {v : Value} {d : Dsk} (h : DkR w lo v d) : ∃ A1 n1 c1 A2 n2 c2 A n c ts, v = .agg #[.slice A1 n1 c1, .int .i64 d.now.step, .slice A2 n2 c2, .slice A n c] ∧ plcs ts = d.past ∧ n = ts.length ∧ SlO w lo A n c (cellsT ts) ∧ RowsT w lo ((.slice A1 n1 c1, .slice A2 n2 c2, d.now) :: ts) := by
  obtain ⟨⟨a, b, p⟩, ts, A, n, c, rfl, h1, h2, h3, h4, h5⟩ := h.ex
  have ho := h5.one _ List.mem_cons_self
  obtain ⟨A1, c1, e1⟩ := ho.s.slice
  obtain ⟨A2, c2, e2⟩ := ho.d.slice
  simp only at e1 e2 h1
  subst e1; subst e2; subst h1
  exact ⟨_, _, _, _, _, _, A, n, c, ts, rfl, h2, h3, h4, h5⟩
theorem OneT.shape {w : World} {lo : Nat} {t : Trp} (h : OneT w lo t) : ∃ A1 n1 c1 A2 n2 c2, t = (.slice A1 n1 c1, .slice A2 n2 c2, t.2.2) := by
  obtain ⟨a, b, p⟩ := t
  obtain ⟨A1, c1, e1⟩ := h.s.slice
  obtain ⟨A2, c2, e2⟩ := h.d.slice
  simp only at e1 e2
  subst e1; subst e2
  exact ⟨_, _, _, _, _, _, rfl⟩

end Go.Proofs.Ytoafpokcbbncfaa

namespace Go.Proofs.Ytoafpokcbbncfaa
open Go.RowKit
set_option linter.unusedVariables false

end Go.Proofs.Ytoafpokcbbncfaa

namespace Go.Proofs.Ytoafpokcbbncfaa
open Go.RowKit
set_option linter.unusedVariables false

end Go.Proofs.Ytoafpokcbbncfaa

namespace Go.Proofs.Ytoafpokcbbncfaa
open Go.RowKit
set_option linter.unusedVariables false

end Go.Proofs.Ytoafpokcbbncfaa

namespace Go.Proofs.Ytoafpokcbbncfaa
open Go.RowKit
set_option linter.unusedVariables false

end Go.Proofs.Ytoafpokcbbncfaa

namespace Go.Proofs.Ytoafpokcbbncfaa
open Go.RowKit
set_option linter.unusedVariables false

end Go.Proofs.Ytoafpokcbbncfaa
