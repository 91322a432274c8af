/-
  Words for places, slices of places and desks: what such values read as, and how that is carried over draws, new blocks and calls.
-/
import Derived.Test.YtoafpokcbbncfaaDoorZpb
import Derived.Test.YtoafpokcbbncfaaDoorZdraw
namespace Go.Proofs.YtoafpokcbbncfaaDoor
open Go.RowKit
set_option linter.unusedVariables false

/-- The value v is the place p; its slices' cells lie below block B. -/
structure PlM (w : World) (B : Nat) (v : Value) (p : Plc) : Prop where
  ex : ∃ A n c A' n' c', v = .agg #[.slice A n c, .int .i64 p.step, .slice A' n' c'] ∧ Ints w B A n c p.start ∧ Ints w B A' n' c' p.word ∧ (Lit.int .i64 p.step).wf = true
/-- The three cells from 'a' on are the place p. -/
structure PlC (w : World) (B b o : Nat) (p : Plc) : Prop where
  ex : ∃ A n c A' n' c', w.cell? ⟨b, o, none⟩ = some (.slice A n c) ∧ w.cell? ⟨b, o + 1, none⟩ = some (.int .i64 p.step) ∧ w.cell? ⟨b, o + 2, none⟩ = some (.slice A' n' c') ∧ Ints w B A n c p.start ∧ Ints w B A' n' c' p.word ∧ (Lit.int .i64 p.step).wf = true
/-- The slice '.slice A n c' holds the places ps; all cells lie below block B. -/
structure PsM (w : World) (B : Nat) (A : Option Addr) (n c : Nat) (ps : List Plc) : Prop where
  len : ps.length = n
  le : n ≤ c
  big : c ≤ maxLen
  cells : 0 < n → ∃ b off, A = some ⟨b, off, none⟩ ∧ b < B ∧ ∀ j p, ps[j]? = some p → PlC w B b (off + j * 3) p
  nil0 : A = none → c = 0
/-- The value v is the desk d. -/
structure DkM (w : World) (B : Nat) (v : Value) (d : Dsk) : Prop where
  ex : ∃ A n c A' n' c' A3 n3 c3, v = .agg #[.slice A n c, .int .i64 d.now.step, .slice A' n' c', .slice A3 n3 c3] ∧ Ints w B A n c d.now.start ∧ Ints w B A' n' c' d.now.word ∧ (Lit.int .i64 d.now.step).wf = true ∧ PsM w B A3 n3 c3 d.past

section
variable {w w' : World} {B B' n c k b o : Nat} {A : Option Addr} {v : Value} {p : Plc} {ps : List Plc} {d : Dsk}
theorem PlM.keep (h : PlM w B v p) (hk : ∀ q : Addr, q.block < B → w'.cell? q = w.cell? q) : PlM w' B v p := by
  obtain ⟨A, n, c, A', n', c', e, h1, h2, h3⟩ := h.ex
  exact ⟨A, n, c, A', n', c', e, h1.keep hk, h2.keep hk, h3⟩
theorem PlM.more (h : PlM w B v p) (hB : B ≤ B') : PlM w B' v p := by
  obtain ⟨A, n, c, A', n', c', e, h1, h2, h3⟩ := h.ex
  exact ⟨A, n, c, A', n', c', e, h1.more hB, h2.more hB, h3⟩
theorem PlC.keep (h : PlC w B b o p) (hb : b < B) (hk : ∀ q : Addr, q.block < B → w'.cell? q = w.cell? q) : PlC w' B b o p := by
  obtain ⟨A, n, c, A', n', c', e1, e2, e3, h1, h2, h3⟩ := h.ex
  exact ⟨A, n, c, A', n', c', (hk _ hb).trans e1, (hk _ hb).trans e2, (hk _ hb).trans e3, h1.keep hk, h2.keep hk, h3⟩
theorem PlC.more (h : PlC w B b o p) (hB : B ≤ B') : PlC w B' b o p := by
  obtain ⟨A, n, c, A', n', c', e1, e2, e3, h1, h2, h3⟩ := h.ex
  exact ⟨A, n, c, A', n', c', e1, e2, e3, h1.more hB, h2.more hB, h3⟩
theorem PsM.keep (h : PsM w B A n c ps) (hk : ∀ q : Addr, q.block < B → w'.cell? q = w.cell? q) : PsM w' B A n c ps :=
  ⟨h.len, h.le, h.big, fun hn => by
    obtain ⟨b, off, e, hb, hc⟩ := h.cells hn
    exact ⟨b, off, e, hb, fun j p hp => (hc j p hp).keep hb hk⟩, h.nil0⟩
theorem PsM.more (h : PsM w B A n c ps) (hB : B ≤ B') : PsM w B' A n c ps :=
  ⟨h.len, h.le, h.big, fun hn => by
    obtain ⟨b, off, e, hb, hc⟩ := h.cells hn
    exact ⟨b, off, e, by omega, fun j p hp => (hc j p hp).more hB⟩, h.nil0⟩
theorem PsM.nb (h : PsM w B A n c ps) : n ≤ 9223372036854775807 := by have := h.le; have := h.big; unfold maxLen at this; omega
theorem PsM.look (h : PsM w B A n c ps) (hk : k < n) : ∃ b off p, A = some ⟨b, off, none⟩ ∧ b < B ∧ Hid (ps[k]? = some p) ∧ PlC w B b (off + k * 3) p := by
  obtain ⟨b, off, e, hb, hc⟩ := h.cells (by omega)
  have hl : k < ps.length := by have := h.len; omega
  exact ⟨b, off, ps[k], e, hb, hide (List.getElem?_eq_getElem hl), hc k _ (List.getElem?_eq_getElem hl)⟩
theorem PsM.nil : PsM w B none 0 0 [] := ⟨rfl, Nat.le_refl _, Nat.zero_le _, fun h => absurd h (by omega), fun _ => rfl⟩
theorem DkM.keep (h : DkM w B v d) (hk : ∀ q : Addr, q.block < B → w'.cell? q = w.cell? q) : DkM w' B v d := by
  obtain ⟨A, n, c, A', n', c', A3, n3, c3, e, h1, h2, h3, h4⟩ := h.ex
  exact ⟨A, n, c, A', n', c', A3, n3, c3, e, h1.keep hk, h2.keep hk, h3, h4.keep hk⟩
theorem DkM.more (h : DkM w B v d) (hB : B ≤ B') : DkM w B' v d := by
  obtain ⟨A, n, c, A', n', c', A3, n3, c3, e, h1, h2, h3, h4⟩ := h.ex
  exact ⟨A, n, c, A', n', c', A3, n3, c3, e, h1.more hB, h2.more hB, h3, h4.more hB⟩
theorem PlM.below (h : PlM w B v p) (hb : Below B w w') : PlM w' B v p := h.keep fun _ hq => hb.cell hq
theorem PsM.below (h : PsM w B A n c ps) (hb : Below B w w') : PsM w' B A n c ps := h.keep fun _ hq => hb.cell hq
theorem DkM.below (h : DkM w B v d) (hb : Below B w w') : DkM w' B v d := h.keep fun _ hq => hb.cell hq
theorem PlM.up (h : PlM w w.heap.size v p) (hq : Below w.heap.size w w') : PlM w' w'.heap.size v p := (h.below hq).more hq.size
theorem PsM.up (h : PsM w w.heap.size A n c ps) (hq : Below w.heap.size w w') : PsM w' w'.heap.size A n c ps := (h.below hq).more hq.size
theorem DkM.up (h : DkM w w.heap.size v d) (hq : Below w.heap.size w w') : DkM w' w'.heap.size v d := (h.below hq).more hq.size
theorem PlM.to (h : PlM w B v p) (hB : B ≤ w.heap.size) (hq : Below w.heap.size w w') : PlM w' w'.heap.size v p := (h.more hB).up hq
theorem DkM.to (h : DkM w B v d) (hB : B ≤ w.heap.size) (hq : Below w.heap.size w w') : DkM w' w'.heap.size v d := (h.more hB).up hq
theorem PlM.drewN (h : PlM w B v p) (k : Nat) : PlM (w.drewN k) B v p := h.keep fun _ _ => rfl
theorem DkM.drewN (h : DkM w B v d) (k : Nat) : DkM (w.drewN k) B v d := h.keep fun _ _ => rfl
theorem PlC.plM (h : PlC w B b o p) : ∃ A n c A' n' c', w.cell? ⟨b, o, none⟩ = some (.slice A n c) ∧ w.cell? ⟨b, o + 1, none⟩ = some (.int .i64 p.step) ∧ w.cell? ⟨b, o + 2, none⟩ = some (.slice A' n' c') ∧ PlM w B (.agg #[.slice A n c, .int .i64 p.step, .slice A' n' c']) p := by
  obtain ⟨A, n, c, A', n', c', e1, e2, e3, h1, h2, h3⟩ := h.ex
  exact ⟨A, n, c, A', n', c', e1, e2, e3, A, n, c, A', n', c', rfl, h1, h2, h3⟩
theorem plM_mk {A' : Option Addr} {n' c' : Nat} (h1 : Ints w B A n c p.start) (h2 : Ints w B A' n' c' p.word) (h3 : (Lit.int .i64 p.step).wf = true) : PlM w B (.agg #[.slice A n c, .int .i64 p.step, .slice A' n' c']) p := ⟨A, n, c, A', n', c', rfl, h1, h2, h3⟩
theorem noDkM : DkM w B (.agg #[.slice none 0 0, .int .i64 0, .slice none 0 0, .slice none 0 0]) noDsk := ⟨none, 0, 0, none, 0, 0, none, 0, 0, rfl, Ints.nil, Ints.nil, by decide, PsM.nil⟩
end
end Go.Proofs.YtoafpokcbbncfaaDoor
