/-
  Words, plain lemmas and contracts that belong together, joined into one file.
-/
import Derived.Test.YtpkbmmepapgogabGreatDoorZms
import Derived.Deep.DeepCutAuto
import Derived.Test.YtpkbmmepapgogabGreatDoorZcs
import Derived.Test.YtpkbmmepapgogabGreatDoorDrawDd
import Derived.Test.YtpkbmmepapgogabGreatDoorZpd
namespace Go.Proofs.YtpkbmmepapgogabGreatDoor
open Go.RowKit
set_option linter.unusedVariables false

section
variable {w w' : World} {base base' n c g : Nat} {v u : Value} {A : Option Addr} {p : Plc} {ps : List Plc} {zs : List Int} {d : Dsk}
theorem row_far {b : Nat} {e : TypeId} {sz m : Nat} {xs : List Value} (h : w.ownsRow b e sz v m xs) (hlt : g < b) : v.ownBlock = none ∨ v.ownBlock ≠ some g := by
  cases hk : v.ownBlock with
  | none => exact .inl rfl
  | some k => exact .inr fun e => by injection e with e; have := (h.lt k hk).1; omega
theorem OwnZ.far (h : OwnZ w base v zs) (hg : w.grownBy w' (some g)) (hlt : g < base) : OwnZ w' base v zs := h.kept hg fun l hl => row_far hl.row hlt
theorem PlZ.far (h : PlZ w base v p) (hg : w.grownBy w' (some g)) (hlt : g < base) : PlZ w' base v p := by
  obtain ⟨A, n, c, A', n', c', e, h1, h2, h3, h4⟩ := h.ex
  exact ⟨A, n, c, A', n', c', e, h1.kept hg (row_far h1.row hlt), h2.far hg hlt, h3, h4⟩
theorem PlY.far (h : PlY w base v p) (hg : w.grownBy w' (some g)) (hlt : g < base) : PlY w' base v p := by
  obtain ⟨A, n, c, A', n', c', e, h1, h2, h3⟩ := h.ex
  exact ⟨A, n, c, A', n', c', e, h1.kept hg (row_far h1.row hlt), h2.far hg hlt, h3⟩
theorem PsZ.far (h : PsZ w base v ps) (hg : w.grownBy w' (some g)) (hlt : g < base) : PsZ w' base v ps := by
  obtain ⟨us, h1, h2, h3⟩ := h.ex
  exact ⟨us, h1, h2.kept hg (row_far h2 hlt), fun j u p hu hp => (h3 j u p hu hp).far hg hlt⟩
/-- The places of before: a slice that the call made, or all but the first one of such a slice. -/
def PsW (w : World) (base : Nat) (v : Value) (ps : List Plc) : Prop := PsZ w base v ps ∨ ∃ g n c ps0, PsZ w base (.slice (some ⟨g, 0, none⟩) n c) ps0 ∧ 1 ≤ n ∧ v = .slice (some ⟨g, 3, none⟩) (n - 1) (c - 1) ∧ ps = ps0.drop 1 ∧ 8 ≤ ps.length
theorem PsW.up (h : PsW w base v ps) (hq : Below w.heap.size w w') : PsW w' base v ps := by
  rcases h with h | ⟨g, n, c, ps0, h1, h2⟩
  · exact .inl (h.up hq)
  · exact .inr ⟨g, n, c, ps0, h1.up hq, h2⟩
theorem PsW.far (h : PsW w base v ps) (hg : w.grownBy w' (some g)) (hlt : g < base) : PsW w' base v ps := by
  rcases h with h | ⟨g, n, c, ps0, h1, h2⟩
  · exact .inl (h.far hg hlt)
  · exact .inr ⟨g, n, c, ps0, h1.far hg hlt, h2⟩
theorem PsW.down (h : PsW w base v ps) (hb : base' ≤ base) : PsW w base' v ps := by
  rcases h with h | ⟨g, n, c, ps0, h1, h2⟩
  · exact .inl (h.down hb)
  · exact .inr ⟨g, n, c, ps0, h1.down hb, h2⟩
theorem PsM.drop0 {B b off n c h : Nat} {ps : List Plc} (hz : PsM w B (some ⟨b, off, none⟩) n c ps) (hh : h ≤ n) : PsM w B (some ⟨b, off + h * 3, none⟩) (n - h) (c - h) (ps.drop h) :=
  ⟨by rw [List.length_drop, hz.len], by have := hz.le; omega, by have := hz.big; omega, fun hp => by
    obtain ⟨b', off', e, hb, hc⟩ := hz.cells (by omega)
    injection e with e
    injection e with e1 e2
    subst e1; subst e2
    refine ⟨b, off + h * 3, rfl, hb, fun j x hx => ?_⟩
    rw [List.getElem?_drop] at hx
    have := hc _ x hx
    rwa [show off + h * 3 + j * 3 = off + (h + j) * 3 by omega], fun e => by cases e⟩
theorem PsW.psM (h : PsW w base (.slice A n c) ps) : PsM w w.heap.size A n c ps := by
  rcases h with h | ⟨g, n, c, ps0, h1, h2, e, rfl, _⟩
  · exact h.psM
  · injection e with e1 e2 e3
    subst e1; subst e2; subst e3
    exact h1.psM.drop0 (h := 1) h2
/-- A desk all of whose rows the call made. -/
structure DkS (w : World) (base : Nat) (v : Value) (d : Dsk) : Prop where
  ex : ∃ A n c A' n' c' A3 n3 c3, v = .agg #[.slice A n c, .int .i64 d.now.step, .slice A' n' c', .slice A3 n3 c3] ∧ PlY w base (.agg #[.slice A n c, .int .i64 d.now.step, .slice A' n' c']) d.now ∧ PsW w base (.slice A3 n3 c3) d.past
theorem DkS.up (h : DkS w base v d) (hq : Below w.heap.size w w') : DkS w' base v d := by
  obtain ⟨A, n, c, A', n', c', A3, n3, c3, e, h1, h2⟩ := h.ex
  exact ⟨A, n, c, A', n', c', A3, n3, c3, e, h1.up hq, h2.up hq⟩
theorem DkS.down (h : DkS w base v d) (hb : base' ≤ base) : DkS w base' v d := by
  obtain ⟨A, n, c, A', n', c', A3, n3, c3, e, h1, h2⟩ := h.ex
  exact ⟨A, n, c, A', n', c', A3, n3, c3, e, h1.down hb, h2.down hb⟩
theorem DkS.far (h : DkS w base v d) (hg : w.grownBy w' (some g)) (hlt : g < base) : DkS w' base v d := by
  obtain ⟨A, n, c, A', n', c', A3, n3, c3, e, h1, h2⟩ := h.ex
  exact ⟨A, n, c, A', n', c', A3, n3, c3, e, h1.far hg hlt, h2.far hg hlt⟩
theorem DkS.dkM (h : DkS w base v d) : DkM w w.heap.size v d := by
  obtain ⟨A, n, c, A', n', c', A3, n3, c3, rfl, h1, h2⟩ := h.ex
  obtain ⟨i1, i2, _, hw⟩ := h1.ints
  exact ⟨A, n, c, A', n', c', A3, n3, c3, rfl, i1, i2, hw, h2.psM⟩
theorem DkS.none_ : DkS w base (.agg #[.slice none 0 0, .int .i64 0, .slice none 0 0, .slice none 0 0]) noDsk := ⟨none, 0, 0, none, 0, 0, none, 0, 0, rfl, plZ_zero, .inl PsZ.none_⟩
end
end Go.Proofs.YtpkbmmepapgogabGreatDoor

namespace Go.Proofs.YtpkbmmepapgogabGreatDoor
open Go.RowKit
set_option linter.unusedVariables false

/-- What is owned from 'base' on stays. -/
structure KP (base : Nat) (X Y : World) : Prop where
  pl : ∀ v p, PlY X base v p → PlY Y base v p
  ps : ∀ v ps, PsZ X base v ps → PsZ Y base v ps
theorem KP.refl {base : Nat} {X : World} : KP base X X := ⟨fun _ _ h => h, fun _ _ h => h⟩
theorem KP.up {base : Nat} {X Y Z : World} (h : KP base X Y) (hq : Below Y.heap.size Y Z) : KP base X Z := ⟨fun v p hp => (h.pl v p hp).up hq, fun v ps hp => (h.ps v ps hp).up hq⟩
theorem KP.low {base : Nat} {X Y : World} (h : KP base X Y) {a : Addr} (ha : a.block < base) (u : Value) : KP base X (Y.setCell a u) := ⟨fun v p hp => (h.pl v p hp).setLow ha u, fun v ps hp => (h.ps v ps hp).setLow ha u⟩
theorem KP.desk {base : Nat} {X Y : World} (h : KP base X Y) {a : Addr} {cs : Array Value} (hb : Y.heap[a.block]? = some (.cells cs 37 (0, 0))) (u : Value) : KP base X (Y.setCell a u) := ⟨fun v p hp => (h.pl v p hp).setDesk hb u, fun v ps hp => (h.ps v ps hp).setDesk hb u⟩
/-- What is owned from 'base' on stays, and block g is a desk still. -/
structure KD (base g : Nat) (X Y : World) : Prop where
  kp : KP base X Y
  ob : ∃ cs, Y.heap[g]? = some (.cells cs 37 (0, 0))
theorem KD.set {base g : Nat} {X Y : World} (h : KD base g X Y) (i : Nat) (u : Value) : KD base g X (Y.setCell ⟨g, i, none⟩ u) := by
  obtain ⟨cs, e⟩ := h.ob
  exact ⟨h.kp.desk (a := ⟨g, i, none⟩) e u, desk_stays (a := ⟨g, i, none⟩) e u⟩
theorem obj_made (w : World) (o : Obj) : (w.alloc o).heap[w.heap.size]? = some o := by show (w.heap.push o)[w.heap.size]? = some o; simp
theorem rowCut3 {w : World} {base n c k g : Nat} {e : TypeId} {vs : List Value} (h : w.ownsRow base e 3 (.slice (some ⟨g, 0, none⟩) n c) n vs) (hk : k ≤ n) : w.ownsRow base e 3 (.slice (some ⟨g, 0, none⟩) k c) k (vs.take (k * 3)) := by
  obtain ⟨h1, h2⟩ := h
  rcases h2 with ⟨e, _⟩ | ⟨g', cap, cur, e, hg, hh, hn, hm, hs, ht⟩
  · cases e
  · injection e with e1 e2 e3
    injection e1 with e1
    injection e1 with e1
    subst e1; subst e3
    refine ⟨by rw [List.length_take]; omega, .inr ⟨_, _, cur, rfl, hg, hh, by omega, hm, hs, ?_⟩⟩
    rw [← ht, List.take_take, Nat.min_eq_left (by omega)]
theorem cellsP_take {us : List Value} (h : ∀ u ∈ us, u.cells.size = 3) (k : Nat) : (cellsP us).take (k * 3) = cellsP (us.take k) := by
  induction us generalizing k with
  | nil => simp [cellsP]
  | cons u r ih =>
    cases k with
    | zero => simp [cellsP]
    | succ k =>
      have hl : u.cells.toList.length = 3 := by rw [Array.length_toList]; exact h u List.mem_cons_self
      have e : ∀ l, cellsP (u :: l) = u.cells.toList ++ cellsP l := fun l => by unfold cellsP; simp
      rw [List.take_succ_cons, e, e, ← ih (fun x hx => h x (List.mem_cons_of_mem _ hx)) k, show (k + 1) * 3 = u.cells.toList.length + k * 3 by omega, List.take_length_add_append]
theorem PsZ.cut {w : World} {base n c k g : Nat} {ps : List Plc} (h : PsZ w base (.slice (some ⟨g, 0, none⟩) n c) ps) (hn : n = ps.length) (hk : k ≤ n) : PsZ w base (.slice (some ⟨g, 0, none⟩) k c) (ps.take k) := by
  obtain ⟨us, h1, h2, h3⟩ := h.ex
  subst hn
  have h3e : ∀ u ∈ us, u.cells.size = 3 := by
    intro u hu
    obtain ⟨i, hi, rfl⟩ := List.getElem_of_mem hu
    obtain ⟨A1, n1, c1, A2, n2, c2, e, _⟩ := (h3 i _ _ (List.getElem?_eq_getElem hi) (List.getElem?_eq_getElem (by omega))).ex
    rw [e]; rfl
  have hlk : (ps.take k).length = k := by rw [List.length_take]; omega
  refine ⟨us.take k, by rw [List.length_take, List.length_take, h1], ?_, fun j u p hu hp => ?_⟩
  · rw [hlk, ← cellsP_take h3e]
    exact rowCut3 h2 hk
  · have hj : j < k := by have := (List.getElem?_eq_some_iff.1 hp).1; omega
    rw [List.getElem?_take_of_lt hj] at hu hp
    exact h3 j u p hu hp
theorem DkM.now {w : World} {B : Nat} {d : Dsk} {A A' A3 : Option Addr} {n c n' c' n3 c3 : Nat} {z : Int} (h : DkM w B (.agg #[.slice A n c, .int .i64 z, .slice A' n' c', .slice A3 n3 c3]) d) : PlM w B (.agg #[.slice A n c, .int .i64 z, .slice A' n' c']) d.now := by
  obtain ⟨B1, m, e, B', m', e', B3, m3, e3, q, h3, h4, h5, _⟩ := h.ex
  injection q with q
  injection q with q
  simp only [List.cons.injEq, Value.slice.injEq, Value.int.injEq, and_true, true_and] at q
  obtain ⟨⟨rfl, rfl, rfl⟩, rfl, ⟨rfl, rfl, rfl⟩, rfl, rfl, rfl⟩ := q
  exact plM_mk h3 h4 h5
end Go.Proofs.YtpkbmmepapgogabGreatDoor

namespace Go.Proofs.YtpkbmmepapgogabGreatDoor
open Go.RowKit
set_option linter.unusedVariables false

end Go.Proofs.YtpkbmmepapgogabGreatDoor

namespace Go.Proofs.YtpkbmmepapgogabGreatDoor
open Go.RowKit
set_option linter.unusedVariables false

section
variable {w w' : World} {base base' n c g : Nat} {v u : Value} {A : Option Addr} {p : Plc} {ps : List Plc} {zs : List Int} {d : Dsk} {a : Addr} {cs : Array Value}
theorem PsW.setDesk (h : PsW w base v ps) (hb : w.heap[a.block]? = some (.cells cs 37 (0, 0))) (x : Value) : PsW (w.setCell a x) base v ps := by
  rcases h with h | ⟨g, n, c, ps0, h1, h2⟩
  · exact .inl (h.setDesk hb x)
  · exact .inr ⟨g, n, c, ps0, h1.setDesk hb x, h2⟩
theorem DkS.setDesk (h : DkS w base v d) (hb : w.heap[a.block]? = some (.cells cs 37 (0, 0))) (x : Value) : DkS (w.setCell a x) base v d := by
  obtain ⟨A, n, c, A', n', c', A3, n3, c3, e, h1, h2⟩ := h.ex
  exact ⟨A, n, c, A', n', c', A3, n3, c3, e, h1.setDesk hb x, h2.setDesk hb x⟩
/-- The places of before, each one made by the call. -/
structure PsY (w : World) (base : Nat) (v : Value) (ps : List Plc) : Prop where
  ex : ∃ us : List Value, us.length = ps.length ∧ w.ownsRow base 31 3 v ps.length (cellsP us) ∧ ∀ (j : Nat) u p, us[j]? = some u → ps[j]? = some p → PlY w base u p
theorem PsY.up (h : PsY w base v ps) (hq : Below w.heap.size w w') : PsY w' base v ps := by
  obtain ⟨us, h1, h2, h3⟩ := h.ex
  exact ⟨us, h1, h2.kept (row := none) ⟨hq.os, hq.tape, hq.output, hq.size, fun k hk _ => hq.block k hk⟩ (by cases v.ownBlock <;> simp), fun j u p hu hp => (h3 j u p hu hp).up hq⟩
theorem PsY.far (h : PsY w base v ps) (hg : w.grownBy w' (some g)) (hlt : g < base) : PsY w' base v ps := by
  obtain ⟨us, h1, h2, h3⟩ := h.ex
  exact ⟨us, h1, h2.kept hg (row_far h2 hlt), fun j u p hu hp => (h3 j u p hu hp).far hg hlt⟩
theorem PsY.down (h : PsY w base v ps) (hb : base' ≤ base) : PsY w base' v ps := by
  obtain ⟨us, h1, h2, h3⟩ := h.ex
  exact ⟨us, h1, ownsRow_down h2 hb, fun j u p hu hp => (h3 j u p hu hp).down hb⟩
theorem PsY.setDesk (h : PsY w base v ps) (hb : w.heap[a.block]? = some (.cells cs 37 (0, 0))) (x : Value) : PsY (w.setCell a x) base v ps := by
  obtain ⟨us, h1, h2, h3⟩ := h.ex
  exact ⟨us, h1, h2.kept (grown_at w a x) (.inr (row_neDesk (by decide) h2 hb)), fun j u p hu hp => (h3 j u p hu hp).setDesk hb x⟩
theorem PsY.psM (h : PsY w base (.slice A n c) ps) : PsM w w.heap.size A n c ps := by
  obtain ⟨us, h1, h2, h3⟩ := h.ex
  have h3e : ∀ u ∈ us, u.cells.size = 3 := by
    intro u hu
    obtain ⟨j, hj, rfl⟩ := List.getElem_of_mem hu
    obtain ⟨A1, n1, c1, A2, n2, c2, e, _⟩ := (h3 j _ _ (List.getElem?_eq_getElem hj) (List.getElem?_eq_getElem (by omega))).ex
    rw [e]; rfl
  rcases row_shape h2 with ⟨hv, h0⟩ | ⟨g, cap, hv, hg, hh, hn, hm⟩
  · injection hv with e1 e2 e3
    subst e1; subst e2; subst e3
    obtain rfl := List.eq_nil_of_length_eq_zero h0
    exact PsM.nil
  · injection hv with e1 e2 e3
    subst e1; subst e2; subst e3
    refine ⟨rfl, hn, hm, fun hp => ⟨g, 0, rfl, hh, fun j p hp => ?_⟩, fun e => by cases e⟩
    have hj : j < ps.length := (List.getElem?_eq_some_iff.1 hp).1
    obtain ⟨A1, n1, c1, A2, n2, c2, e, i1, i2, hwf⟩ := (h3 j _ p (List.getElem?_eq_getElem (by omega)) hp).ex
    have hat := cellsP_at h3e (j := j) (x := .slice A1 n1 c1) (y := .int .i64 p.step) (z := .slice A2 n2 c2) (by rw [List.getElem?_eq_getElem (by omega), e])
    have hlen := h2.1
    refine ⟨A1, n1, c1, A2, n2, c2, ?_, ?_, ?_, i1.ints, i2.ints, hwf⟩
    · rw [Nat.zero_add, h2.cellAt _ (by omega)]; exact hat.1
    · rw [Nat.zero_add, h2.cellAt _ (by omega)]; exact hat.2.1
    · rw [Nat.zero_add, h2.cellAt _ (by omega)]; exact hat.2.2
/-- A desk as a draw hands it back. -/
def PsF (w : World) (base : Nat) (v : Value) (ps : List Plc) : Prop := PsY w base v ps ∨ PsW w base v ps
theorem PsF.psM (h : PsF w base (.slice A n c) ps) : PsM w w.heap.size A n c ps := by
  rcases h with h | h
  · exact h.psM
  · exact h.psM
structure DkF (w : World) (base : Nat) (v : Value) (d : Dsk) : Prop where
  ex : ∃ A n c A' n' c' A3 n3 c3, v = .agg #[.slice A n c, .int .i64 d.now.step, .slice A' n' c', .slice A3 n3 c3] ∧ PlY w base (.agg #[.slice A n c, .int .i64 d.now.step, .slice A' n' c']) d.now ∧ PsF w base (.slice A3 n3 c3) d.past
theorem DkF.up (h : DkF w base v d) (hq : Below w.heap.size w w') : DkF w' base v d := by
  obtain ⟨A, n, c, A', n', c', A3, n3, c3, e, h1, h2⟩ := h.ex
  exact ⟨A, n, c, A', n', c', A3, n3, c3, e, h1.up hq, by rcases h2 with h2 | h2; exact .inl (h2.up hq); exact .inr (h2.up hq)⟩
theorem DkF.far (h : DkF w base v d) (hg : w.grownBy w' (some g)) (hlt : g < base) : DkF w' base v d := by
  obtain ⟨A, n, c, A', n', c', A3, n3, c3, e, h1, h2⟩ := h.ex
  exact ⟨A, n, c, A', n', c', A3, n3, c3, e, h1.far hg hlt, by rcases h2 with h2 | h2; exact .inl (h2.far hg hlt); exact .inr (h2.far hg hlt)⟩
theorem DkF.down (h : DkF w base v d) (hb : base' ≤ base) : DkF w base' v d := by
  obtain ⟨A, n, c, A', n', c', A3, n3, c3, e, h1, h2⟩ := h.ex
  exact ⟨A, n, c, A', n', c', A3, n3, c3, e, h1.down hb, by rcases h2 with h2 | h2; exact .inl (h2.down hb); exact .inr (h2.down hb)⟩
theorem DkF.setDesk (h : DkF w base v d) (hb : w.heap[a.block]? = some (.cells cs 37 (0, 0))) (x : Value) : DkF (w.setCell a x) base v d := by
  obtain ⟨A, n, c, A', n', c', A3, n3, c3, e, h1, h2⟩ := h.ex
  exact ⟨A, n, c, A', n', c', A3, n3, c3, e, h1.setDesk hb x, by rcases h2 with h2 | h2; exact .inl (h2.setDesk hb x); exact .inr (h2.setDesk hb x)⟩
theorem DkF.dkM (h : DkF w base v d) : DkM w w.heap.size v d := by
  obtain ⟨A, n, c, A', n', c', A3, n3, c3, rfl, h1, h2⟩ := h.ex
  obtain ⟨i1, i2, _, hw⟩ := h1.ints
  exact ⟨A, n, c, A', n', c', A3, n3, c3, rfl, i1, i2, hw, h2.psM⟩
end
/-- A block of a desk that may be written. -/
structure DBox (W : World) (b : Nat) (x y z u : Value) : Prop where
  qua : QuaW W b x y z u
  ob : ∃ cs, W.heap[b]? = some (.cells cs 37 (0, 0))
section
variable {W W' : World} {b g : Nat} {x y z u x' y' z' u' : Value}
theorem DBox.madeAt (hb : b = W.heap.size) : DBox (W.alloc (.cells #[x, y, z, u] 37)) b x y z u := by
  subst hb
  exact ⟨QuaW.made W x y z u _, _, obj_made W _⟩
theorem DBox.lt (h : DBox W b x y z u) : b < W.heap.size := h.qua.lt
theorem DBox.grown {row : Option Nat} (h : DBox W b x y z u) (hg : W.grownBy W' row) (hne : ∀ k, row = some k → k ≠ b) : DBox W' b x y z u := by
  obtain ⟨cs, e⟩ := h.ob
  exact ⟨h.qua.grown hg hne, cs, (hg.block b h.lt (fun e => hne b e.symm rfl)).trans e⟩
theorem DBox.up (h : DBox W b x y z u) (hq : Below W.heap.size W W') : DBox W' b x y z u := by
  obtain ⟨cs, e⟩ := h.ob
  exact ⟨h.qua.up hq, cs, (hq.block b h.lt).trans e⟩
theorem DBox.drew (h : DBox W b x y z u) : DBox W.drew b x y z u := h.up (Below.refl _ _).drew
theorem DBox.set (h : DBox W b x' y' z' u') (x y z u : Value) : DBox ((((W.setCell ⟨b, 0, none⟩ x).setCell ⟨b, 1, none⟩ y).setCell ⟨b, 2, none⟩ z).setCell ⟨b, 3, none⟩ u) b x y z u := by
  obtain ⟨cs, e⟩ := h.ob
  obtain ⟨c1, e1⟩ := desk_stays (a := ⟨b, 0, none⟩) e x
  obtain ⟨c2, e2⟩ := desk_stays (a := ⟨b, 1, none⟩) e1 y
  obtain ⟨c3, e3⟩ := desk_stays (a := ⟨b, 2, none⟩) e2 z
  exact ⟨(((h.qua.set0 x).set1 y).set2 z).set3 u, desk_stays (a := ⟨b, 3, none⟩) e3 u⟩
theorem DBox.other (h : DBox W b x y z u) {a : Addr} (ha : a.block ≠ b) (v : Value) : DBox (W.setCell a v) b x y z u := h.grown (grown_at W a v) (fun k e => by injection e with e; omega)
/-- What survives stores into a block of a desk. -/
theorem dks_set4 {base : Nat} {v : Value} {d : Dsk} (h : DkF W base v d) (hb : DBox W b x' y' z' u') (x y z u : Value) : DkF ((((W.setCell ⟨b, 0, none⟩ x).setCell ⟨b, 1, none⟩ y).setCell ⟨b, 2, none⟩ z).setCell ⟨b, 3, none⟩ u) base v d := by
  obtain ⟨cs, e⟩ := hb.ob
  obtain ⟨c1, e1⟩ := desk_stays (a := ⟨b, 0, none⟩) e x
  obtain ⟨c2, e2⟩ := desk_stays (a := ⟨b, 1, none⟩) e1 y
  obtain ⟨c3, e3⟩ := desk_stays (a := ⟨b, 2, none⟩) e2 z
  exact (((h.setDesk (a := ⟨b, 0, none⟩) e x).setDesk (a := ⟨b, 1, none⟩) e1 y).setDesk (a := ⟨b, 2, none⟩) e2 z).setDesk (a := ⟨b, 3, none⟩) e3 u
theorem dkS_set4 {base : Nat} {v : Value} {d : Dsk} (h : DkS W base v d) (hb : DBox W b x' y' z' u') (x y z u : Value) : DkS ((((W.setCell ⟨b, 0, none⟩ x).setCell ⟨b, 1, none⟩ y).setCell ⟨b, 2, none⟩ z).setCell ⟨b, 3, none⟩ u) base v d := by
  obtain ⟨cs, e⟩ := hb.ob
  obtain ⟨c1, e1⟩ := desk_stays (a := ⟨b, 0, none⟩) e x
  obtain ⟨c2, e2⟩ := desk_stays (a := ⟨b, 1, none⟩) e1 y
  obtain ⟨c3, e3⟩ := desk_stays (a := ⟨b, 2, none⟩) e2 z
  exact (((h.setDesk (a := ⟨b, 0, none⟩) e x).setDesk (a := ⟨b, 1, none⟩) e1 y).setDesk (a := ⟨b, 2, none⟩) e2 z).setDesk (a := ⟨b, 3, none⟩) e3 u
theorem grown_set4 {w0 : World} {row : Option Nat} (h : w0.grownBy W row) (hb : w0.heap.size ≤ b) (x y z u : Value) : w0.grownBy ((((W.setCell ⟨b, 0, none⟩ x).setCell ⟨b, 1, none⟩ y).setCell ⟨b, 2, none⟩ z).setCell ⟨b, 3, none⟩ u) row := by
  have s : ∀ {X : World} {i : Nat} {v : Value}, w0.grownBy X row → w0.grownBy (X.setCell ⟨b, i, none⟩ v) row := fun {X i v} hX => grown_new hX (grown_at X ⟨b, i, none⟩ v) (fun j e => .inl (by have e2 : b = j := Option.some.inj e; omega))
  exact s (s (s (s h)))
theorem rd_set4 {g m : Nat} (h : Rd W g m) (hb : g < b) (x y z u : Value) : Rd ((((W.setCell ⟨b, 0, none⟩ x).setCell ⟨b, 1, none⟩ y).setCell ⟨b, 2, none⟩ z).setCell ⟨b, 3, none⟩ u) g m := by
  have s : ∀ {X : World} {i : Nat} {v : Value}, Rd X g m → Rd (X.setCell ⟨b, i, none⟩ v) g m := fun {X i v} hX => hX.kept (grown_at X ⟨b, i, none⟩ v) (fun k e => by have e2 : b = k := Option.some.inj e; omega)
  exact s (s (s (s h)))
theorem DBox.other4 {b' : Nat} (h : DBox W b' x' y' z' u') (hne : b ≠ b') (x y z u : Value) : DBox ((((W.setCell ⟨b, 0, none⟩ x).setCell ⟨b, 1, none⟩ y).setCell ⟨b, 2, none⟩ z).setCell ⟨b, 3, none⟩ u) b' x' y' z' u' :=
  (((h.other (a := ⟨b, 0, none⟩) hne x).other (a := ⟨b, 1, none⟩) hne y).other (a := ⟨b, 2, none⟩) hne z).other (a := ⟨b, 3, none⟩) hne u
end
/-- The state of a draw of a desk: the reader, the result's block, and the desk's block with what it holds. -/
structure Kq (w0 W : World) (g m b : Nat) (A : Option Addr) (n c : Nat) (A' : Option Addr) (n' c' : Nat) (A3 : Option Addr) (n3 c3 : Nat) (d : Dsk) : Prop where
  rd : Rd W g m
  gr : w0.grownBy W (some g)
  hg : g < w0.heap.size
  hb : w0.heap.size < b
  res : DBox W w0.heap.size (.slice none 0 0) (.int .i64 0) (.slice none 0 0) (.slice none 0 0)
  box : DBox W b (.slice A n c) (.int .i64 d.now.step) (.slice A' n' c') (.slice A3 n3 c3)
  dk : DkS W w0.heap.size (.agg #[.slice A n c, .int .i64 d.now.step, .slice A' n' c', .slice A3 n3 c3]) d
section
variable {w0 W W' : World} {g m m' b n c n' c' n3 c3 : Nat} {A A' A3 : Option Addr} {d : Dsk}
theorem Kq.below (h : Kq w0 W g m b A n c A' n' c' A3 n3 c3 d) (hq : Below W.heap.size W W') : Kq w0 W' g m b A n c A' n' c' A3 n3 c3 d :=
  have hg : W.grownBy W' none := ⟨hq.os, hq.tape, hq.output, hq.size, fun k hk _ => hq.block k hk⟩
  ⟨h.rd.kept hg (fun k e => by cases e), grown_new h.gr hg (fun j e => by cases e), h.hg, h.hb, h.res.up hq, h.box.up hq, h.dk.up hq⟩
theorem Kq.alloc (h : Kq w0 W g m b A n c A' n' c' A3 n3 c3 d) (o : Obj) : Kq w0 (W.alloc o) g m b A n c A' n' c' A3 n3 c3 d := h.below (al W o)
theorem Kq.drew (h : Kq w0 W g m b A n c A' n' c' A3 n3 c3 d) : Kq w0 W.drew g m b A n c A' n' c' A3 n3 c3 d := h.below (Below.refl _ _).drew
theorem Kq.more (h : Kq w0 W g m b A n c A' n' c' A3 n3 c3 d) (hm : m ≤ m') : Kq w0 W g m' b A n c A' n' c' A3 n3 c3 d := ⟨h.rd.more hm, h.gr, h.hg, h.hb, h.res, h.box, h.dk⟩
theorem Kq.read (h : Kq w0 W g m b A n c A' n' c' A3 n3 c3 d) (hr : Rd W' g m') (hg : W.grownBy W' (some g)) : Kq w0 W' g m' b A n c A' n' c' A3 n3 c3 d := by
  have h1 := h.hg
  have h2 := h.hb
  exact ⟨hr, grown_new h.gr hg (fun _ _ => .inr rfl), h.hg, h.hb, h.res.grown hg (fun k e => by injection e with e; omega), h.box.grown hg (fun k e => by injection e with e; omega), h.dk.far hg h.hg⟩
/-- Another desk's block is written. -/
theorem Kq.put {b8 : Nat} {x' y' z' u' : Value} (h : Kq w0 W g m b A n c A' n' c' A3 n3 c3 d) (h8 : DBox W b8 x' y' z' u') (hl : w0.heap.size < b8) (hne : b8 ≠ b) (x y z u : Value) : Kq w0 ((((W.setCell ⟨b8, 0, none⟩ x).setCell ⟨b8, 1, none⟩ y).setCell ⟨b8, 2, none⟩ z).setCell ⟨b8, 3, none⟩ u) g m b A n c A' n' c' A3 n3 c3 d :=
  have h1 := h.hg
  ⟨rd_set4 h.rd (by omega) x y z u, grown_set4 h.gr (by omega) x y z u, h.hg, h.hb, h.res.other4 (by omega) x y z u, h.box.other4 hne x y z u, dkS_set4 h.dk h8 x y z u⟩
/-- The desk's own block is written. -/
theorem Kq.setD {B1 B2 B3 : Option Addr} {n1 c1 n2 c2 n5 c5 : Nat} {e : Dsk} (h : Kq w0 W g m b A n c A' n' c' A3 n3 c3 d) (hd : DkS W w0.heap.size (.agg #[.slice B1 n1 c1, .int .i64 e.now.step, .slice B2 n2 c2, .slice B3 n5 c5]) e) :
    Kq w0 ((((W.setCell ⟨b, 0, none⟩ (.slice B1 n1 c1)).setCell ⟨b, 1, none⟩ (.int .i64 e.now.step)).setCell ⟨b, 2, none⟩ (.slice B2 n2 c2)).setCell ⟨b, 3, none⟩ (.slice B3 n5 c5)) g m b B1 n1 c1 B2 n2 c2 B3 n5 c5 e :=
  have h1 := h.hg
  have h2 := h.hb
  ⟨rd_set4 h.rd (by omega) _ _ _ _, grown_set4 h.gr (by omega) _ _ _ _, h.hg, h.hb, h.res.other4 (by omega) _ _ _ _, h.box.set _ _ _ _, dkS_set4 hd h.box _ _ _ _⟩
end
end Go.Proofs.YtpkbmmepapgogabGreatDoor

namespace Go.Proofs.YtpkbmmepapgogabGreatDoor
open Go.RowKit
set_option linter.unusedVariables false

theorem DkF.set4 {w : World} {lo g : Nat} {v : Value} {d : Dsk} {x' y' z' u' : Value} (h : DkF w lo v d) (hb : DBox w g x' y' z' u') (x y z u : Value) : DkF ((((w.setCell ⟨g, 0, none⟩ x).setCell ⟨g, 1, none⟩ y).setCell ⟨g, 2, none⟩ z).setCell ⟨g, 3, none⟩ u) lo v d := dks_set4 h hb x y z u
theorem DkF.open_ {w : World} {lo : Nat} {v : Value} {d : Dsk} (h : DkF w lo v d) : ∃ A n c A' n' c' A3 n3 c3, v = .agg #[.slice A n c, .int .i64 d.now.step, .slice A' n' c', .slice A3 n3 c3] := by
  obtain ⟨A, n, c, A', n', c', A3, n3, c3, e, _⟩ := h.ex
  exact ⟨A, n, c, A', n', c', A3, n3, c3, e⟩
end Go.Proofs.YtpkbmmepapgogabGreatDoor
