/-
  What the specification's desks hand back: a desk all of whose rows the call made, and how it is carried over draws (writes into a block that lies lower).
-/
import Derived.Test.YtpnjihpdipoajaaDeskM
namespace Go.Proofs.Ytpnjihpdipoajaa
open Go.RowKit
set_option linter.unusedVariables false

section
variable {w w' : World} {base base' n c g : Nat} {v u : Value} {A : Option Addr} {p : Plc} {ps : List Plc} {zs : List Int} {d : Dsk}
theorem row_far {b : Nat} {e : TypeId} {sz m : Nat} {xs : List Value} (h : w.ownsRow b e sz v m xs) (hlt : g < b) : v.ownBlock = none ∨ v.ownBlock ≠ some g := by
  cases hk : v.ownBlock with
  | none => exact .inl rfl
  | some k => exact .inr fun e => by injection e with e; have := (h.lt k hk).1; omega
theorem OwnZ.far (h : OwnZ w base v zs) (hg : w.grownBy w' (some g)) (hlt : g < base) : OwnZ w' base v zs := h.kept hg fun l hl => row_far hl.row hlt
theorem PlZ.far (h : PlZ w base v p) (hg : w.grownBy w' (some g)) (hlt : g < base) : PlZ w' base v p := by
  obtain ⟨A, n, c, A', n', c', e, h1, h2, h3, h4⟩ := h.ex
  exact ⟨A, n, c, A', n', c', e, h1.kept hg (row_far h1.row hlt), h2.far hg hlt, h3, h4⟩
theorem PlY.far (h : PlY w base v p) (hg : w.grownBy w' (some g)) (hlt : g < base) : PlY w' base v p := by
  obtain ⟨A, n, c, A', n', c', e, h1, h2, h3⟩ := h.ex
  exact ⟨A, n, c, A', n', c', e, h1.kept hg (row_far h1.row hlt), h2.far hg hlt, h3⟩
theorem PsZ.far (h : PsZ w base v ps) (hg : w.grownBy w' (some g)) (hlt : g < base) : PsZ w' base v ps := by
  obtain ⟨us, h1, h2, h3⟩ := h.ex
  exact ⟨us, h1, h2.kept hg (row_far h2 hlt), fun j u p hu hp => (h3 j u p hu hp).far hg hlt⟩
/-- The places of before: a slice that the call made, or all but the first one of such a slice. -/
def PsW (w : World) (base : Nat) (v : Value) (ps : List Plc) : Prop := PsZ w base v ps ∨ ∃ g n c ps0, PsZ w base (.slice (some ⟨g, 0, none⟩) n c) ps0 ∧ 1 ≤ n ∧ v = .slice (some ⟨g, 3, none⟩) (n - 1) (c - 1) ∧ ps = ps0.drop 1 ∧ 8 ≤ ps.length
theorem PsW.up (h : PsW w base v ps) (hq : Below w.heap.size w w') : PsW w' base v ps := by
  rcases h with h | ⟨g, n, c, ps0, h1, h2⟩
  · exact .inl (h.up hq)
  · exact .inr ⟨g, n, c, ps0, h1.up hq, h2⟩
theorem PsW.far (h : PsW w base v ps) (hg : w.grownBy w' (some g)) (hlt : g < base) : PsW w' base v ps := by
  rcases h with h | ⟨g, n, c, ps0, h1, h2⟩
  · exact .inl (h.far hg hlt)
  · exact .inr ⟨g, n, c, ps0, h1.far hg hlt, h2⟩
theorem PsW.down (h : PsW w base v ps) (hb : base' ≤ base) : PsW w base' v ps := by
  rcases h with h | ⟨g, n, c, ps0, h1, h2⟩
  · exact .inl (h.down hb)
  · exact .inr ⟨g, n, c, ps0, h1.down hb, h2⟩
theorem PsM.drop0 {B b off n c h : Nat} {ps : List Plc} (hz : PsM w B (some ⟨b, off, none⟩) n c ps) (hh : h ≤ n) : PsM w B (some ⟨b, off + h * 3, none⟩) (n - h) (c - h) (ps.drop h) :=
  ⟨by rw [List.length_drop, hz.len], by have := hz.le; omega, by have := hz.big; omega, fun hp => by
    obtain ⟨b', off', e, hb, hc⟩ := hz.cells (by omega)
    injection e with e
    injection e with e1 e2
    subst e1; subst e2
    refine ⟨b, off + h * 3, rfl, hb, fun j x hx => ?_⟩
    rw [List.getElem?_drop] at hx
    have := hc _ x hx
    rwa [show off + h * 3 + j * 3 = off + (h + j) * 3 by omega], fun e => by cases e⟩
theorem PsZ.shapeZ (h : PsZ w base v ps) : ∃ A n c, v = .slice A n c := by
  obtain ⟨us, h1, h2, h3⟩ := h.ex
  rcases h2.2 with ⟨hv, _⟩ | ⟨g, cap, cur, hv, _⟩
  · exact ⟨_, _, _, hv⟩
  · exact ⟨_, _, _, hv⟩
theorem PsW.psM (h : PsW w base (.slice A n c) ps) : PsM w w.heap.size A n c ps := by
  rcases h with h | ⟨g, n, c, ps0, h1, h2, e, rfl, _⟩
  · exact h.psM
  · injection e with e1 e2 e3
    subst e1; subst e2; subst e3
    exact h1.psM.drop0 (h := 1) h2
/-- A desk all of whose rows the call made. -/
structure DkS (w : World) (base : Nat) (v : Value) (d : Dsk) : Prop where
  ex : ∃ A n c A' n' c' A3 n3 c3, v = .agg #[.slice A n c, .int .i64 d.now.step, .slice A' n' c', .slice A3 n3 c3] ∧ PlY w base (.agg #[.slice A n c, .int .i64 d.now.step, .slice A' n' c']) d.now ∧ PsW w base (.slice A3 n3 c3) d.past
theorem DkS.up (h : DkS w base v d) (hq : Below w.heap.size w w') : DkS w' base v d := by
  obtain ⟨A, n, c, A', n', c', A3, n3, c3, e, h1, h2⟩ := h.ex
  exact ⟨A, n, c, A', n', c', A3, n3, c3, e, h1.up hq, h2.up hq⟩
theorem DkS.down (h : DkS w base v d) (hb : base' ≤ base) : DkS w base' v d := by
  obtain ⟨A, n, c, A', n', c', A3, n3, c3, e, h1, h2⟩ := h.ex
  exact ⟨A, n, c, A', n', c', A3, n3, c3, e, h1.down hb, h2.down hb⟩
theorem DkS.far (h : DkS w base v d) (hg : w.grownBy w' (some g)) (hlt : g < base) : DkS w' base v d := by
  obtain ⟨A, n, c, A', n', c', A3, n3, c3, e, h1, h2⟩ := h.ex
  exact ⟨A, n, c, A', n', c', A3, n3, c3, e, h1.far hg hlt, h2.far hg hlt⟩
theorem dkS_mk {A A' A3 : Option Addr} {n c n' c' n3 c3 : Nat} {z : Int} {p : Plc} {ps : List Plc} (h : PlY w base (.agg #[.slice A n c, .int .i64 z, .slice A' n' c']) p) (h2 : PsW w base (.slice A3 n3 c3) ps) : DkS w base (.agg #[.slice A n c, .int .i64 z, .slice A' n' c', .slice A3 n3 c3]) ⟨p, ps⟩ := by
  obtain ⟨_, _, hz, _⟩ := h.ints
  · obtain ⟨_, _, e, _⟩ := h.ints
    subst e
    exact ⟨_, _, _, _, _, _, _, _, _, rfl, h, h2⟩
theorem DkS.dkM (h : DkS w base v d) : DkM w w.heap.size v d := by
  obtain ⟨A, n, c, A', n', c', A3, n3, c3, rfl, h1, h2⟩ := h.ex
  obtain ⟨i1, i2, _, hw⟩ := h1.ints
  exact ⟨A, n, c, A', n', c', A3, n3, c3, rfl, i1, i2, hw, h2.psM⟩
theorem DkS.none_ : DkS w base (.agg #[.slice none 0 0, .int .i64 0, .slice none 0 0, .slice none 0 0]) noDsk := ⟨none, 0, 0, none, 0, 0, none, 0, 0, rfl, plZ_zero, .inl PsZ.none_⟩
end
end Go.Proofs.Ytpnjihpdipoajaa
