/-
  Desks as draws hand them back (rows that the call made), blocks of desks, and the state of a draw of a desk.
-/
import Derived.Test.YtpnjihpdipoajaaDeskD
import Derived.Test.YtpnjihpdipoajaaDeskNS
import Derived.Test.YtpnjihpdipoajaaDrawDd
namespace Go.Proofs.Ytpnjihpdipoajaa
open Go.RowKit
set_option linter.unusedVariables false

section
variable {w w' : World} {base base' n c g : Nat} {v u : Value} {A : Option Addr} {p : Plc} {ps : List Plc} {zs : List Int} {d : Dsk} {a : Addr} {cs : Array Value}
theorem PsW.setDesk (h : PsW w base v ps) (hb : w.heap[a.block]? = some (.cells cs 32 (0, 0))) (x : Value) : PsW (w.setCell a x) base v ps := by
  rcases h with h | ⟨g, n, c, ps0, h1, h2⟩
  · exact .inl (h.setDesk hb x)
  · exact .inr ⟨g, n, c, ps0, h1.setDesk hb x, h2⟩
theorem DkS.setDesk (h : DkS w base v d) (hb : w.heap[a.block]? = some (.cells cs 32 (0, 0))) (x : Value) : DkS (w.setCell a x) base v d := by
  obtain ⟨A, n, c, A', n', c', A3, n3, c3, e, h1, h2⟩ := h.ex
  exact ⟨A, n, c, A', n', c', A3, n3, c3, e, h1.setDesk hb x, h2.setDesk hb x⟩
/-- The places of before, each one made by the call. -/
structure PsY (w : World) (base : Nat) (v : Value) (ps : List Plc) : Prop where
  ex : ∃ us : List Value, us.length = ps.length ∧ w.ownsRow base 25 3 v ps.length (cellsP us) ∧ ∀ (j : Nat) u p, us[j]? = some u → ps[j]? = some p → PlY w base u p
theorem PsZ.toY (h : PsZ w base v ps) : PsY w base v ps := by
  obtain ⟨us, h1, h2, h3⟩ := h.ex
  exact ⟨us, h1, h2, fun j u p hu hp => (h3 j u p hu hp).toY⟩
theorem PsY.up (h : PsY w base v ps) (hq : Below w.heap.size w w') : PsY w' base v ps := by
  obtain ⟨us, h1, h2, h3⟩ := h.ex
  exact ⟨us, h1, h2.kept (row := none) ⟨hq.os, hq.tape, hq.output, hq.size, fun k hk _ => hq.block k hk⟩ (by cases v.ownBlock <;> simp), fun j u p hu hp => (h3 j u p hu hp).up hq⟩
theorem PsY.far (h : PsY w base v ps) (hg : w.grownBy w' (some g)) (hlt : g < base) : PsY w' base v ps := by
  obtain ⟨us, h1, h2, h3⟩ := h.ex
  exact ⟨us, h1, h2.kept hg (row_far h2 hlt), fun j u p hu hp => (h3 j u p hu hp).far hg hlt⟩
theorem PsY.down (h : PsY w base v ps) (hb : base' ≤ base) : PsY w base' v ps := by
  obtain ⟨us, h1, h2, h3⟩ := h.ex
  exact ⟨us, h1, ownsRow_down h2 hb, fun j u p hu hp => (h3 j u p hu hp).down hb⟩
theorem PsY.setDesk (h : PsY w base v ps) (hb : w.heap[a.block]? = some (.cells cs 32 (0, 0))) (x : Value) : PsY (w.setCell a x) base v ps := by
  obtain ⟨us, h1, h2, h3⟩ := h.ex
  exact ⟨us, h1, h2.kept (grown_at w a x) (.inr (row_neDesk (by decide) h2 hb)), fun j u p hu hp => (h3 j u p hu hp).setDesk hb x⟩
theorem PsY.psM (h : PsY w base (.slice A n c) ps) : PsM w w.heap.size A n c ps := by
  obtain ⟨us, h1, h2, h3⟩ := h.ex
  have h3e : ∀ u ∈ us, u.cells.size = 3 := by
    intro u hu
    obtain ⟨j, hj, rfl⟩ := List.getElem_of_mem hu
    obtain ⟨A1, n1, c1, A2, n2, c2, e, _⟩ := (h3 j _ _ (List.getElem?_eq_getElem hj) (List.getElem?_eq_getElem (by omega))).ex
    rw [e]; rfl
  rcases row_shape h2 with ⟨hv, h0⟩ | ⟨g, cap, hv, hg, hh, hn, hm⟩
  · injection hv with e1 e2 e3
    subst e1; subst e2; subst e3
    obtain rfl := List.eq_nil_of_length_eq_zero h0
    exact PsM.nil
  · injection hv with e1 e2 e3
    subst e1; subst e2; subst e3
    refine ⟨rfl, hn, hm, fun hp => ⟨g, 0, rfl, hh, fun j p hp => ?_⟩, fun e => by cases e⟩
    have hj : j < ps.length := (List.getElem?_eq_some_iff.1 hp).1
    obtain ⟨A1, n1, c1, A2, n2, c2, e, i1, i2, hwf⟩ := (h3 j _ p (List.getElem?_eq_getElem (by omega)) hp).ex
    have hat := cellsP_at h3e (j := j) (x := .slice A1 n1 c1) (y := .int .i64 p.step) (z := .slice A2 n2 c2) (by rw [List.getElem?_eq_getElem (by omega), e])
    have hlen := h2.1
    refine ⟨A1, n1, c1, A2, n2, c2, ?_, ?_, ?_, i1.ints, i2.ints, hwf⟩
    · rw [Nat.zero_add, h2.cellAt _ (by omega)]; exact hat.1
    · rw [Nat.zero_add, h2.cellAt _ (by omega)]; exact hat.2.1
    · rw [Nat.zero_add, h2.cellAt _ (by omega)]; exact hat.2.2
theorem PsY.pushM {m c' : Nat} {A' : Option Addr} {us : List Value} (hm : m = ps.length) (h1 : us.length = ps.length) (h2 : w.ownsRow base 25 3 v m (cellsP us)) (h3 : ∀ (j : Nat) u p, us[j]? = some u → ps[j]? = some p → PlY w base u p)
    (hu : PlY w base u p) (hr : w'.ownsRow base 25 3 (.slice A' (m + 1) c') (m + 1) (cellsP us ++ u.cells.toList)) (hg : w.grownBy w' v.ownBlock) : PsY w' base (.slice A' (m + 1) c') (ps ++ [p]) := by
  subst hm
  refine ⟨us ++ [u], by simp [h1], ?_, fun j x q hx hq => ?_⟩
  · rw [List.length_append, cellsP_append]
    have : cellsP [u] = u.cells.toList := by unfold cellsP; simp
    rw [this]
    exact hr
  · rcases Nat.lt_or_ge j us.length with hj | hj
    · rw [List.getElem?_append_left hj] at hx
      rw [List.getElem?_append_left (by omega)] at hq
      exact (h3 j x q hx hq).kept h2 hg
    · rw [List.getElem?_append_right hj] at hx
      rw [List.getElem?_append_right (by omega)] at hq
      have hj0 : j - us.length = 0 := by have := (List.getElem?_eq_some_iff.1 hx).1; simp at this; omega
      rw [hj0] at hx
      rw [show j - ps.length = 0 by omega] at hq
      simp at hx hq
      subst hx; subst hq
      exact hu.kept h2 hg
/-- A desk as a draw hands it back. -/
def PsF (w : World) (base : Nat) (v : Value) (ps : List Plc) : Prop := PsY w base v ps ∨ PsW w base v ps
theorem PsF.psM (h : PsF w base (.slice A n c) ps) : PsM w w.heap.size A n c ps := by
  rcases h with h | h
  · exact h.psM
  · exact h.psM
structure DkF (w : World) (base : Nat) (v : Value) (d : Dsk) : Prop where
  ex : ∃ A n c A' n' c' A3 n3 c3, v = .agg #[.slice A n c, .int .i64 d.now.step, .slice A' n' c', .slice A3 n3 c3] ∧ PlY w base (.agg #[.slice A n c, .int .i64 d.now.step, .slice A' n' c']) d.now ∧ PsF w base (.slice A3 n3 c3) d.past
theorem DkS.toF (h : DkS w base v d) : DkF w base v d := by
  obtain ⟨A, n, c, A', n', c', A3, n3, c3, e, h1, h2⟩ := h.ex
  exact ⟨A, n, c, A', n', c', A3, n3, c3, e, h1, .inr h2⟩
theorem DkF.up (h : DkF w base v d) (hq : Below w.heap.size w w') : DkF w' base v d := by
  obtain ⟨A, n, c, A', n', c', A3, n3, c3, e, h1, h2⟩ := h.ex
  exact ⟨A, n, c, A', n', c', A3, n3, c3, e, h1.up hq, by rcases h2 with h2 | h2; exact .inl (h2.up hq); exact .inr (h2.up hq)⟩
theorem DkF.far (h : DkF w base v d) (hg : w.grownBy w' (some g)) (hlt : g < base) : DkF w' base v d := by
  obtain ⟨A, n, c, A', n', c', A3, n3, c3, e, h1, h2⟩ := h.ex
  exact ⟨A, n, c, A', n', c', A3, n3, c3, e, h1.far hg hlt, by rcases h2 with h2 | h2; exact .inl (h2.far hg hlt); exact .inr (h2.far hg hlt)⟩
theorem DkF.down (h : DkF w base v d) (hb : base' ≤ base) : DkF w base' v d := by
  obtain ⟨A, n, c, A', n', c', A3, n3, c3, e, h1, h2⟩ := h.ex
  exact ⟨A, n, c, A', n', c', A3, n3, c3, e, h1.down hb, by rcases h2 with h2 | h2; exact .inl (h2.down hb); exact .inr (h2.down hb)⟩
theorem DkF.setDesk (h : DkF w base v d) (hb : w.heap[a.block]? = some (.cells cs 32 (0, 0))) (x : Value) : DkF (w.setCell a x) base v d := by
  obtain ⟨A, n, c, A', n', c', A3, n3, c3, e, h1, h2⟩ := h.ex
  exact ⟨A, n, c, A', n', c', A3, n3, c3, e, h1.setDesk hb x, by rcases h2 with h2 | h2; exact .inl (h2.setDesk hb x); exact .inr (h2.setDesk hb x)⟩
theorem DkF.dkM (h : DkF w base v d) : DkM w w.heap.size v d := by
  obtain ⟨A, n, c, A', n', c', A3, n3, c3, rfl, h1, h2⟩ := h.ex
  obtain ⟨i1, i2, _, hw⟩ := h1.ints
  exact ⟨A, n, c, A', n', c', A3, n3, c3, rfl, i1, i2, hw, h2.psM⟩
end
/-- A block of a desk that may be written. -/
structure DBox (W : World) (b : Nat) (x y z u : Value) : Prop where
  qua : QuaW W b x y z u
  ob : ∃ cs, W.heap[b]? = some (.cells cs 32 (0, 0))
section
variable {W W' : World} {b g : Nat} {x y z u x' y' z' u' : Value}
theorem DBox.madeAt (hb : b = W.heap.size) : DBox (W.alloc (.cells #[x, y, z, u] 32)) b x y z u := by
  subst hb
  exact ⟨QuaW.made W x y z u _, _, obj_made W _⟩
theorem DBox.lt (h : DBox W b x y z u) : b < W.heap.size := h.qua.lt
theorem DBox.grown {row : Option Nat} (h : DBox W b x y z u) (hg : W.grownBy W' row) (hne : ∀ k, row = some k → k ≠ b) : DBox W' b x y z u := by
  obtain ⟨cs, e⟩ := h.ob
  exact ⟨h.qua.grown hg hne, cs, (hg.block b h.lt (fun e => hne b e.symm rfl)).trans e⟩
theorem DBox.up (h : DBox W b x y z u) (hq : Below W.heap.size W W') : DBox W' b x y z u := by
  obtain ⟨cs, e⟩ := h.ob
  exact ⟨h.qua.up hq, cs, (hq.block b h.lt).trans e⟩
theorem ne_blk {g b : Nat} (h : g < b) : ∀ k, some g = some k → k ≠ b := fun k e => by have e2 : g = k := Option.some.inj e; omega
theorem DBox.drew (h : DBox W b x y z u) : DBox W.drew b x y z u := h.up (Below.refl _ _).drew
theorem DBox.set (h : DBox W b x' y' z' u') (x y z u : Value) : DBox ((((W.setCell ⟨b, 0, none⟩ x).setCell ⟨b, 1, none⟩ y).setCell ⟨b, 2, none⟩ z).setCell ⟨b, 3, none⟩ u) b x y z u := by
  obtain ⟨cs, e⟩ := h.ob
  obtain ⟨c1, e1⟩ := desk_stays (a := ⟨b, 0, none⟩) e x
  obtain ⟨c2, e2⟩ := desk_stays (a := ⟨b, 1, none⟩) e1 y
  obtain ⟨c3, e3⟩ := desk_stays (a := ⟨b, 2, none⟩) e2 z
  exact ⟨(((h.qua.set0 x).set1 y).set2 z).set3 u, desk_stays (a := ⟨b, 3, none⟩) e3 u⟩
theorem DBox.other (h : DBox W b x y z u) {a : Addr} (ha : a.block ≠ b) (v : Value) : DBox (W.setCell a v) b x y z u := h.grown (grown_at W a v) (fun k e => by injection e with e; omega)
/-- What survives stores into a block of a desk. -/
theorem dks_set4 {base : Nat} {v : Value} {d : Dsk} (h : DkF W base v d) (hb : DBox W b x' y' z' u') (x y z u : Value) : DkF ((((W.setCell ⟨b, 0, none⟩ x).setCell ⟨b, 1, none⟩ y).setCell ⟨b, 2, none⟩ z).setCell ⟨b, 3, none⟩ u) base v d := by
  obtain ⟨cs, e⟩ := hb.ob
  obtain ⟨c1, e1⟩ := desk_stays (a := ⟨b, 0, none⟩) e x
  obtain ⟨c2, e2⟩ := desk_stays (a := ⟨b, 1, none⟩) e1 y
  obtain ⟨c3, e3⟩ := desk_stays (a := ⟨b, 2, none⟩) e2 z
  exact (((h.setDesk (a := ⟨b, 0, none⟩) e x).setDesk (a := ⟨b, 1, none⟩) e1 y).setDesk (a := ⟨b, 2, none⟩) e2 z).setDesk (a := ⟨b, 3, none⟩) e3 u
theorem dkS_set4 {base : Nat} {v : Value} {d : Dsk} (h : DkS W base v d) (hb : DBox W b x' y' z' u') (x y z u : Value) : DkS ((((W.setCell ⟨b, 0, none⟩ x).setCell ⟨b, 1, none⟩ y).setCell ⟨b, 2, none⟩ z).setCell ⟨b, 3, none⟩ u) base v d := by
  obtain ⟨cs, e⟩ := hb.ob
  obtain ⟨c1, e1⟩ := desk_stays (a := ⟨b, 0, none⟩) e x
  obtain ⟨c2, e2⟩ := desk_stays (a := ⟨b, 1, none⟩) e1 y
  obtain ⟨c3, e3⟩ := desk_stays (a := ⟨b, 2, none⟩) e2 z
  exact (((h.setDesk (a := ⟨b, 0, none⟩) e x).setDesk (a := ⟨b, 1, none⟩) e1 y).setDesk (a := ⟨b, 2, none⟩) e2 z).setDesk (a := ⟨b, 3, none⟩) e3 u
theorem grown_set4 {w0 : World} {row : Option Nat} (h : w0.grownBy W row) (hb : w0.heap.size ≤ b) (x y z u : Value) : w0.grownBy ((((W.setCell ⟨b, 0, none⟩ x).setCell ⟨b, 1, none⟩ y).setCell ⟨b, 2, none⟩ z).setCell ⟨b, 3, none⟩ u) row := by
  have s : ∀ {X : World} {i : Nat} {v : Value}, w0.grownBy X row → w0.grownBy (X.setCell ⟨b, i, none⟩ v) row := fun {X i v} hX => grown_new hX (grown_at X ⟨b, i, none⟩ v) (fun j e => .inl (by have e2 : b = j := Option.some.inj e; omega))
  exact s (s (s (s h)))
theorem rd_set4 {g m : Nat} (h : Rd W g m) (hb : g < b) (x y z u : Value) : Rd ((((W.setCell ⟨b, 0, none⟩ x).setCell ⟨b, 1, none⟩ y).setCell ⟨b, 2, none⟩ z).setCell ⟨b, 3, none⟩ u) g m := by
  have s : ∀ {X : World} {i : Nat} {v : Value}, Rd X g m → Rd (X.setCell ⟨b, i, none⟩ v) g m := fun {X i v} hX => hX.kept (grown_at X ⟨b, i, none⟩ v) (fun k e => by have e2 : b = k := Option.some.inj e; omega)
  exact s (s (s (s h)))
theorem DBox.other4 {b' : Nat} (h : DBox W b' x' y' z' u') (hne : b ≠ b') (x y z u : Value) : DBox ((((W.setCell ⟨b, 0, none⟩ x).setCell ⟨b, 1, none⟩ y).setCell ⟨b, 2, none⟩ z).setCell ⟨b, 3, none⟩ u) b' x' y' z' u' :=
  (((h.other (a := ⟨b, 0, none⟩) hne x).other (a := ⟨b, 1, none⟩) hne y).other (a := ⟨b, 2, none⟩) hne z).other (a := ⟨b, 3, none⟩) hne u
end
/-- The state of a draw of a desk: the reader, the result's block, and the desk's block with what it holds. -/
structure Kq (w0 W : World) (g m b : Nat) (A : Option Addr) (n c : Nat) (A' : Option Addr) (n' c' : Nat) (A3 : Option Addr) (n3 c3 : Nat) (d : Dsk) : Prop where
  rd : Rd W g m
  gr : w0.grownBy W (some g)
  hg : g < w0.heap.size
  hb : w0.heap.size < b
  res : DBox W w0.heap.size (.slice none 0 0) (.int .i64 0) (.slice none 0 0) (.slice none 0 0)
  box : DBox W b (.slice A n c) (.int .i64 d.now.step) (.slice A' n' c') (.slice A3 n3 c3)
  dk : DkS W w0.heap.size (.agg #[.slice A n c, .int .i64 d.now.step, .slice A' n' c', .slice A3 n3 c3]) d
section
variable {w0 W W' : World} {g m m' b n c n' c' n3 c3 : Nat} {A A' A3 : Option Addr} {d : Dsk}
theorem Kq.below (h : Kq w0 W g m b A n c A' n' c' A3 n3 c3 d) (hq : Below W.heap.size W W') : Kq w0 W' g m b A n c A' n' c' A3 n3 c3 d :=
  have hg : W.grownBy W' none := ⟨hq.os, hq.tape, hq.output, hq.size, fun k hk _ => hq.block k hk⟩
  ⟨h.rd.kept hg (fun k e => by cases e), grown_new h.gr hg (fun j e => by cases e), h.hg, h.hb, h.res.up hq, h.box.up hq, h.dk.up hq⟩
theorem Kq.alloc (h : Kq w0 W g m b A n c A' n' c' A3 n3 c3 d) (o : Obj) : Kq w0 (W.alloc o) g m b A n c A' n' c' A3 n3 c3 d := h.below (al W o)
theorem Kq.drew (h : Kq w0 W g m b A n c A' n' c' A3 n3 c3 d) : Kq w0 W.drew g m b A n c A' n' c' A3 n3 c3 d := h.below (Below.refl _ _).drew
theorem Kq.more (h : Kq w0 W g m b A n c A' n' c' A3 n3 c3 d) (hm : m ≤ m') : Kq w0 W g m' b A n c A' n' c' A3 n3 c3 d := ⟨h.rd.more hm, h.gr, h.hg, h.hb, h.res, h.box, h.dk⟩
theorem Kq.read (h : Kq w0 W g m b A n c A' n' c' A3 n3 c3 d) (hr : Rd W' g m') (hg : W.grownBy W' (some g)) : Kq w0 W' g m' b A n c A' n' c' A3 n3 c3 d := by
  have h1 := h.hg
  have h2 := h.hb
  exact ⟨hr, grown_new h.gr hg (fun _ _ => .inr rfl), h.hg, h.hb, h.res.grown hg (fun k e => by injection e with e; omega), h.box.grown hg (fun k e => by injection e with e; omega), h.dk.far hg h.hg⟩
/-- Another desk's block is written. -/
theorem Kq.put {b8 : Nat} {x' y' z' u' : Value} (h : Kq w0 W g m b A n c A' n' c' A3 n3 c3 d) (h8 : DBox W b8 x' y' z' u') (hl : w0.heap.size < b8) (hne : b8 ≠ b) (x y z u : Value) : Kq w0 ((((W.setCell ⟨b8, 0, none⟩ x).setCell ⟨b8, 1, none⟩ y).setCell ⟨b8, 2, none⟩ z).setCell ⟨b8, 3, none⟩ u) g m b A n c A' n' c' A3 n3 c3 d :=
  have h1 := h.hg
  ⟨rd_set4 h.rd (by omega) x y z u, grown_set4 h.gr (by omega) x y z u, h.hg, h.hb, h.res.other4 (by omega) x y z u, h.box.other4 hne x y z u, dkS_set4 h.dk h8 x y z u⟩
/-- The desk's own block is written. -/
theorem Kq.setD {B1 B2 B3 : Option Addr} {n1 c1 n2 c2 n5 c5 : Nat} {e : Dsk} (h : Kq w0 W g m b A n c A' n' c' A3 n3 c3 d) (hd : DkS W w0.heap.size (.agg #[.slice B1 n1 c1, .int .i64 e.now.step, .slice B2 n2 c2, .slice B3 n5 c5]) e) :
    Kq w0 ((((W.setCell ⟨b, 0, none⟩ (.slice B1 n1 c1)).setCell ⟨b, 1, none⟩ (.int .i64 e.now.step)).setCell ⟨b, 2, none⟩ (.slice B2 n2 c2)).setCell ⟨b, 3, none⟩ (.slice B3 n5 c5)) g m b B1 n1 c1 B2 n2 c2 B3 n5 c5 e :=
  have h1 := h.hg
  have h2 := h.hb
  ⟨rd_set4 h.rd (by omega) _ _ _ _, grown_set4 h.gr (by omega) _ _ _ _, h.hg, h.hb, h.res.other4 (by omega) _ _ _ _, h.box.set _ _ _ _, dkS_set4 hd h.box _ _ _ _⟩
end
theorem deskOk_start {d : Dsk} (h : deskOk d = true ∨ d = noDsk) : d.now.start.length ≤ 3 ∧ d.now.word.length ≤ 6 := by
  rcases h with h | rfl
  · obtain ⟨⟨_, g⟩, _, _, g2, _⟩ := placeOk_yes (deskOk_yes h).2.1
    exact ⟨g, g2⟩
  · exact ⟨Nat.zero_le _, Nat.zero_le _⟩
theorem deskX_or {d : Dsk} {q : Ded} (h : deskOk d = true ∨ d = noDsk) : deskOk (deskX d q) = true ∨ deskX d q = noDsk := by
  rcases h with h | rfl
  · exact .inl (deskX_ok h)
  · exact .inr (deskX_no noDsk_no)
theorem deskX_past {d : Dsk} {q : Ded} : (deskX d q).past.length ≤ d.past.length + 1 := by
  unfold deskX
  split
  · unfold deskD
    split
    · show d.past.dropLast.length ≤ _
      rw [List.length_dropLast]; omega
    · split
      · show (pushP d.past d.now).length ≤ _
        unfold pushP
        split
        · simp
        · simp
      · omega
  · exact Nat.zero_le _
theorem newDsk_or (p : Plc) : deskOk (newDsk p) = true ∨ newDsk p = noDsk := by
  unfold newDsk
  cases h : placeOk p with
  | true => exact .inl (deskOk_mk (by simp) h (by simp))
  | false => exact .inr rfl
/-- A deed for the desk's place, and the desk after a deed, as the draw asks them. -/
theorem l20Deed_q {w0 W : World} {g m b n c n' c' n3 c3 : Nat} {A A' A3 : Option Addr} {d : Dsk} (h : Kq w0 W g m b A n c A' n' c' A3 n3 c3 d) (hm : m ≤ 50000) (hn : n ≤ 1000000) :
    Calls Try.prog 61 #[.pointer (some ⟨g, 0, none⟩), .agg #[.slice A n c, .int .i64 d.now.step, .slice A' n' c']] W fun e w' => ∃ x y z : Int, e = .returned (.agg #[.int .i64 x, .int .i64 y, .int .i64 z]) ∧ wfD ⟨x, y, z⟩ ∧ Kq w0 w' g (m + 10) b A n c A' n' c' A3 n3 c3 d ∧ W.grownBy w' (some g) ∧
      w'.cell? ⟨b, 0, none⟩ = some (.slice A n c) ∧ w'.cell? ⟨b, 1, none⟩ = some (.int .i64 d.now.step) ∧ w'.cell? ⟨b, 2, none⟩ = some (.slice A' n' c') ∧ w'.cell? ⟨b, 3, none⟩ = some (.slice A3 n3 c3) :=
  (l20Deed_c g m A n c d.now.step A' n' c' W h.rd hm hn).mono fun e w' ⟨x, y, z, e1, h1, h2, h3, h4, h5⟩ =>
    have hk := h.read h4 h5
    ⟨x, y, z, e1, ⟨wf_i64 (z := x) (by omega), wf_i64 (z := y) (by omega), wf_i64 (z := z) (by omega)⟩, hk, h5, hk.box.qua.c0, hk.box.qua.c1, hk.box.qua.c2, hk.box.qua.c3⟩
theorem deskDo_q {w0 W : World} {g m b n c n' c' n3 c3 : Nat} {A A' A3 : Option Addr} {d : Dsk} {x y z : Int} (h : Kq w0 W g m b A n c A' n' c' A3 n3 c3 d) (hw : wfD ⟨x, y, z⟩) :
    Calls Try.prog 60 #[.agg #[.slice A n c, .int .i64 d.now.step, .slice A' n' c', .slice A3 n3 c3], .agg #[.int .i64 x, .int .i64 y, .int .i64 z]] W fun e w' => ∃ B1 n1 c1 B2 n2 c2 B3 n5 c5, e = .returned (.tuple #[.agg #[.slice B1 n1 c1, .int .i64 (deskX d ⟨x, y, z⟩).now.step, .slice B2 n2 c2, .slice B3 n5 c5], .bool (deskB d ⟨x, y, z⟩)]) ∧
      DkS w' w0.heap.size (.agg #[.slice B1 n1 c1, .int .i64 (deskX d ⟨x, y, z⟩).now.step, .slice B2 n2 c2, .slice B3 n5 c5]) (deskX d ⟨x, y, z⟩) ∧ Kq w0 w' g m b A n c A' n' c' A3 n3 c3 d ∧ Below W.heap.size W w' ∧
      w'.cell? ⟨b, 0, none⟩ = some (.slice A n c) ∧ w'.cell? ⟨b, 1, none⟩ = some (.int .i64 d.now.step) ∧ w'.cell? ⟨b, 2, none⟩ = some (.slice A' n' c') ∧ w'.cell? ⟨b, 3, none⟩ = some (.slice A3 n3 c3) :=
  (deskDo_spec _ d ⟨x, y, z⟩ _ W h.dk.dkM (Nat.le_refl _) hw.2.1 hw.2.2).mono fun e w' ⟨u, e1, hd, hq⟩ => by
    have hk := h.below hq
    have hd' := hd
    obtain ⟨B1, n1, c1, B2, n2, c2, B3, n5, c5, rfl, _⟩ := hd.ex
    exact ⟨B1, n1, c1, B2, n2, c2, B3, n5, c5, e1, hd'.down (Nat.le_of_lt (Nat.lt_trans h.hb h.box.lt)), hk, hq, hk.box.qua.c0, hk.box.qua.c1, hk.box.qua.c2, hk.box.qua.c3⟩
end Go.Proofs.Ytpnjihpdipoajaa
