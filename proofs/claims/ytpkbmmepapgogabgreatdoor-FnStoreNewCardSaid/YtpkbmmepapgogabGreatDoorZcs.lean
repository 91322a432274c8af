/-
  Words, plain lemmas and contracts that belong together, joined into one file.
-/
import Derived.Test.YtpkbmmepapgogabGreatDoorPlaceS
import Derived.Test.YtpkbmmepapgogabGreatDoorZpd
import Derived.Test.YtpkbmmepapgogabGreatDoorCopy
import Derived.Test.YtpkbmmepapgogabGreatDoorZpb
import Derived.Deep.RegionHeld3
import Derived.Deep.AppendLies
import Derived.Test.YtpkbmmepapgogabGreatDoorZtx
namespace Go.Proofs.YtpkbmmepapgogabGreatDoor
open Go.RowKit
set_option linter.unusedVariables false

theorem TriW.tri {w : World} {g : Nat} {x y z : Value} (h : TriW w g x y z) : Tri w g x y z := ⟨h.c0, h.c1, h.c2, h.lt⟩
/-- What l15Place hands back. -/
structure PlZ (w : World) (base : Nat) (v : Value) (p : Plc) : Prop where
  ex : ∃ A n c A' n' c', v = .agg #[.slice A n c, .int .i64 p.step, .slice A' n' c'] ∧ Own w base (.slice A n c) p.start ∧ OwnZ w base (.slice A' n' c') p.word ∧ ((p.word ≠ [] → (Value.slice A n c).ownBlock ≠ (Value.slice A' n' c').ownBlock) ∧ (p.word = [] → ∃ b0, Value.slice A' n' c' = .slice (some b0) 0 0)) ∧ (Lit.int .i64 p.step).wf = true

end Go.Proofs.YtpkbmmepapgogabGreatDoor

namespace Go.Proofs.YtpkbmmepapgogabGreatDoor
open Go.RowKit
set_option linter.unusedVariables false

theorem OwnZ.ints {w : World} {base n c : Nat} {A : Option Addr} {zs : List Int} (h : OwnZ w base (.slice A n c) zs) : Ints w w.heap.size A n c zs := by
  rcases h with h | ⟨rfl, b0, e⟩
  · exact h.ints
  · injection e with e1 e2 e3
    subst e1; subst e2; subst e3
    exact ⟨rfl, Nat.le_refl _, Nat.zero_le _, fun h => absurd h (by omega), (fun _ h => by cases h), fun e => by cases e⟩
theorem OwnZ.setLow {w : World} {base : Nat} {v : Value} {zs : List Int} (h : OwnZ w base v zs) {a : Addr} (ha : a.block < base) (u : Value) : OwnZ (w.setCell a u) base v zs := by
  rcases h with h | h
  · exact .inl (h.setLow ha u)
  · exact .inr h
theorem PlZ.plM {w : World} {base : Nat} {v : Value} {p : Plc} (h : PlZ w base v p) : PlM w w.heap.size v p := by
  obtain ⟨A, n, c, A', n', c', rfl, h1, h2, _, h3⟩ := h.ex
  exact plM_mk h1.ints h2.ints h3
def newDsk (p : Plc) : Dsk := if placeOk p then ⟨p, []⟩ else noDsk
end Go.Proofs.YtpkbmmepapgogabGreatDoor

namespace Go.Proofs.YtpkbmmepapgogabGreatDoor
open Go.RowKit
set_option linter.unusedVariables false

/-- A row of places never shares its block with a slice of ints. -/
theorem own_neP {w : World} {b b' n : Nat} {v u : Value} {xs : List Value} {l : List Int} (h : w.ownsRow b 31 3 v n xs) (k : Own w b' u l) : u.ownBlock = none ∨ u.ownBlock ≠ v.ownBlock := by
  rcases k.row.2 with ⟨rfl, _⟩ | ⟨g, cap, cur, rfl, _, hg, _⟩
  · exact .inl rfl
  · refine .inr fun e => ?_
    rcases h.2 with ⟨rfl, _⟩ | ⟨g', cap', cur', rfl, _, hg', _⟩
    · simp [Value.ownBlock] at e
    · simp [Value.ownBlock] at e
      subst e
      rw [hg] at hg'
      simp at hg'
section
variable {w w' : World} {base base' n c : Nat} {v u : Value} {A : Option Addr} {p : Plc} {ps : List Plc} {zs : List Int}
theorem OwnZ.kept {row : Option Nat} (h : OwnZ w base v zs) (hg : w.grownBy w' row) (hne : ∀ l, Own w base v l → v.ownBlock = none ∨ v.ownBlock ≠ row) : OwnZ w' base v zs := by
  rcases h with h | h
  · exact .inl (h.kept hg (hne _ h))
  · exact .inr h
theorem OwnZ.up (h : OwnZ w base v zs) (hq : Below w.heap.size w w') : OwnZ w' base v zs := by
  rcases h with h | h
  · exact .inl (h.up hq)
  · exact .inr h
theorem OwnZ.down (h : OwnZ w base v zs) (hb : base' ≤ base) : OwnZ w base' v zs := by
  rcases h with h | h
  · exact .inl (h.down hb)
  · exact .inr h
theorem PlZ.up (h : PlZ w base v p) (hq : Below w.heap.size w w') : PlZ w' base v p := by
  obtain ⟨A, n, c, A', n', c', e, h1, h2, h3, h4⟩ := h.ex
  exact ⟨A, n, c, A', n', c', e, h1.up hq, h2.up hq, h3, h4⟩
theorem PlZ.down (h : PlZ w base v p) (hb : base' ≤ base) : PlZ w base' v p := by
  obtain ⟨A, n, c, A', n', c', e, h1, h2, h3, h4⟩ := h.ex
  exact ⟨A, n, c, A', n', c', e, h1.down hb, h2.down hb, h3, h4⟩
theorem PlZ.setLow (h : PlZ w base v p) {a : Addr} (ha : a.block < base) (u : Value) : PlZ (w.setCell a u) base v p := by
  obtain ⟨A, n, c, A', n', c', e, h1, h2, h3, h4⟩ := h.ex
  exact ⟨A, n, c, A', n', c', e, h1.setLow ha u, h2.setLow ha u, h3, h4⟩
/-- Over a growth of a row of places the copies stay. -/
theorem PlZ.kept {b m : Nat} {r : Value} {xs : List Value} (h : PlZ w base v p) (hr : w.ownsRow b 31 3 r m xs) (hg : w.grownBy w' r.ownBlock) : PlZ w' base v p := by
  obtain ⟨A, n, c, A', n', c', e, h1, h2, h3, h4⟩ := h.ex
  exact ⟨A, n, c, A', n', c', e, h1.kept hg (own_neP hr h1), h2.kept hg (fun l hl => own_neP hr hl), h3, h4⟩
def cellsP (us : List Value) : List Value := us.flatMap fun u => u.cells.toList
theorem cellsP_append (a b : List Value) : cellsP (a ++ b) = cellsP a ++ cellsP b := by unfold cellsP; simp
/-- What the call itself made: the slice v owns just the places ps, each one a copy. -/
structure PsZ (w : World) (base : Nat) (v : Value) (ps : List Plc) : Prop where
  ex : ∃ us : List Value, us.length = ps.length ∧ w.ownsRow base 31 3 v ps.length (cellsP us) ∧ ∀ (j : Nat) u p, us[j]? = some u → ps[j]? = some p → PlZ w base u p
theorem PsZ.row (h : PsZ w base (.slice A n c) ps) : n = ps.length ∧ ∃ xs, w.ownsRow base 31 3 (.slice A n c) ps.length xs := by
  obtain ⟨us, h1, h2, h3⟩ := h.ex
  obtain ⟨A', c', e⟩ := row_slice h2
  injection e with e1 e2 e3
  exact ⟨e2, _, h2⟩
theorem PsZ.up (h : PsZ w base v ps) (hq : Below w.heap.size w w') : PsZ w' base v ps := by
  obtain ⟨us, h1, h2, h3⟩ := h.ex
  exact ⟨us, h1, h2.kept (row := none) ⟨hq.os, hq.tape, hq.output, hq.size, fun k hk _ => hq.block k hk⟩ (by cases v.ownBlock <;> simp), fun j u p hu hp => (h3 j u p hu hp).up hq⟩
theorem PsZ.setLow (h : PsZ w base v ps) {a : Addr} (ha : a.block < base) (x : Value) : PsZ (w.setCell a x) base v ps := by
  obtain ⟨us, h1, h2, h3⟩ := h.ex
  exact ⟨us, h1, ownsRow_setCell_below h2 ha x, fun j u p hu hp => (h3 j u p hu hp).setLow ha x⟩
theorem PsZ.none_ : PsZ w base (.slice none 0 0) [] := ⟨[], rfl, World.ownsRow_nil _ _ _ _, fun _ _ _ h => by simp at h⟩
/-- One place more behind the others. -/
theorem PsZ.push {c' : Nat} {A' : Option Addr} {us : List Value} (h1 : us.length = ps.length) (h2 : w.ownsRow base 31 3 v ps.length (cellsP us)) (h3 : ∀ (j : Nat) u p, us[j]? = some u → ps[j]? = some p → PlZ w base u p)
    (hu : PlZ w base u p) (hr : w'.ownsRow base 31 3 (.slice A' (ps.length + 1) c') (ps.length + 1) (cellsP us ++ u.cells.toList)) (hg : w.grownBy w' v.ownBlock) : PsZ w' base (.slice A' (ps.length + 1) c') (ps ++ [p]) := by
  refine ⟨us ++ [u], by simp [h1], ?_, fun j x q hx hq => ?_⟩
  · rw [List.length_append, cellsP_append]
    have : cellsP [u] = u.cells.toList := by unfold cellsP; simp
    rw [this]
    exact hr
  · rcases Nat.lt_or_ge j us.length with hj | hj
    · rw [List.getElem?_append_left hj] at hx
      rw [List.getElem?_append_left (by omega)] at hq
      exact (h3 j x q hx hq).kept h2 hg
    · have hj2 : j = us.length := by
        have := (List.getElem?_eq_some_iff.1 hx).1
        rw [List.length_append] at this
        simp at this
        omega
      subst hj2
      rw [List.getElem?_concat_length] at hx
      rw [h1, List.getElem?_concat_length] at hq
      injection hx with hx
      injection hq with hq
      subst hx; subst hq
      exact hu.kept h2 hg
theorem cellsP_at {us : List Value} (h : ∀ u ∈ us, u.cells.size = 3) {j : Nat} {x y z : Value} (hj : us[j]? = some (.agg #[x, y, z])) : (cellsP us)[j * 3]? = some x ∧ (cellsP us)[j * 3 + 1]? = some y ∧ (cellsP us)[j * 3 + 2]? = some z := by
  induction us generalizing j with
  | nil => simp at hj
  | cons a r ih =>
    have ha := h a List.mem_cons_self
    have hc : cellsP (a :: r) = a.cells.toList ++ cellsP r := by unfold cellsP; simp
    rw [hc]
    cases j with
    | zero =>
      simp at hj
      subst hj
      exact ⟨rfl, rfl, rfl⟩
    | succ j =>
      have hl : a.cells.toList.length = 3 := by rw [Array.length_toList]; exact ha
      have ih2 := ih (fun u hu => h u (List.mem_cons_of_mem _ hu)) (j := j) (by simpa using hj)
      have e : ∀ i, (a.cells.toList ++ cellsP r)[(j + 1) * 3 + i]? = (cellsP r)[j * 3 + i]? := fun i => by
        rw [List.getElem?_append_right (by rw [hl]; omega), hl]
        congr 1
        omega
      refine ⟨(e 0).trans ih2.1, (e 1).trans ih2.2.1, (e 2).trans ih2.2.2⟩
theorem PsZ.psM (h : PsZ w base (.slice A n c) ps) : PsM w w.heap.size A n c ps := by
  obtain ⟨us, h1, h2, h3⟩ := h.ex
  have h3e : ∀ u ∈ us, u.cells.size = 3 := by
    intro u hu
    obtain ⟨j, hj, rfl⟩ := List.getElem_of_mem hu
    obtain ⟨A1, n1, c1, A2, n2, c2, e, _⟩ := (h3 j _ _ (List.getElem?_eq_getElem hj) (List.getElem?_eq_getElem (by omega))).ex
    rw [e]; rfl
  rcases row_shape h2 with ⟨hv, h0⟩ | ⟨g, cap, hv, hg, hh, hn, hm⟩
  · injection hv with e1 e2 e3
    subst e1; subst e2; subst e3
    obtain rfl := List.eq_nil_of_length_eq_zero h0
    exact PsM.nil
  · injection hv with e1 e2 e3
    subst e1; subst e2; subst e3
    refine ⟨rfl, hn, hm, fun hp => ⟨g, 0, rfl, hh, fun j p hp => ?_⟩, fun e => by cases e⟩
    have hj : j < ps.length := (List.getElem?_eq_some_iff.1 hp).1
    obtain ⟨A1, n1, c1, A2, n2, c2, e, i1, i2, _, hwf⟩ := (h3 j _ p (List.getElem?_eq_getElem (by omega)) hp).ex
    have hat := cellsP_at h3e (j := j) (x := .slice A1 n1 c1) (y := .int .i64 p.step) (z := .slice A2 n2 c2) (by rw [List.getElem?_eq_getElem (by omega), e])
    have hlen := h2.1
    refine ⟨A1, n1, c1, A2, n2, c2, ?_, ?_, ?_, i1.ints, i2.ints, hwf⟩
    · rw [Nat.zero_add, h2.cellAt _ (by omega)]; exact hat.1
    · rw [Nat.zero_add, h2.cellAt _ (by omega)]; exact hat.2.1
    · rw [Nat.zero_add, h2.cellAt _ (by omega)]; exact hat.2.2
end
end Go.Proofs.YtpkbmmepapgogabGreatDoor

namespace Go.Proofs.YtpkbmmepapgogabGreatDoor
open Go.RowKit
set_option linter.unusedVariables false

theorem PsZ.down {w : World} {base base' : Nat} {v : Value} {ps : List Plc} (h : PsZ w base v ps) (hb : base' ≤ base) : PsZ w base' v ps := by
  obtain ⟨us, h1, h2, h3⟩ := h.ex
  exact ⟨us, h1, ownsRow_down h2 hb, fun j u p hu hp => (h3 j u p hu hp).down hb⟩
theorem PlZ.drew {w : World} {base : Nat} {v : Value} {p : Plc} (h : PlZ w base v p) : PlZ w.drew base v p := h.up (Below.refl _ _).drew
theorem PlZ.alloc {w : World} {base : Nat} {v : Value} {p : Plc} (h : PlZ w base v p) (o : Obj) : PlZ (w.alloc o) base v p := h.up (al w o)
end Go.Proofs.YtpkbmmepapgogabGreatDoor
