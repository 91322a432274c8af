/-
  Words, plain lemmas and contracts that belong together, joined into one file.
-/
import Derived.Test.YtoafpokcbbncfaaZms
import Derived.Test.YtoafpokcbbncfaaZcs
import Derived.Deep.DeepCutAuto
import Derived.Test.YtoafpokcbbncfaaDrawDd
import Derived.Test.YtoafpokcbbncfaaZpd
namespace Go.Proofs.Ytoafpokcbbncfaa
open Go.RowKit
set_option linter.unusedVariables false

section
variable {w w' : World} {base base' n c g : Nat} {v u : Value} {A : Option Addr} {p : Plc} {ps : List Plc} {zs : List Int} {d : Dsk}
theorem row_far {b : Nat} {e : TypeId} {sz m : Nat} {xs : List Value} (h : w.ownsRow b e sz v m xs) (hlt : g < b) : v.ownBlock = none ∨ v.ownBlock ≠ some g := by
  cases hk : v.ownBlock with
  | none => exact .inl rfl
  | some k => exact .inr fun e => by injection e with e; have := (h.lt k hk).1; omega
theorem OwnZ.far (h : OwnZ w base v zs) (hg : w.grownBy w' (some g)) (hlt : g < base) : OwnZ w' base v zs := h.kept hg fun l hl => row_far hl.row hlt
theorem PlZ.far (h : PlZ w base v p) (hg : w.grownBy w' (some g)) (hlt : g < base) : PlZ w' base v p := by
  obtain ⟨A, n, c, A', n', c', e, h1, h2, h3, h4⟩ := h.ex
  exact ⟨A, n, c, A', n', c', e, h1.kept hg (row_far h1.row hlt), h2.far hg hlt, h3, h4⟩
theorem PlY.far (h : PlY w base v p) (hg : w.grownBy w' (some g)) (hlt : g < base) : PlY w' base v p := by
  obtain ⟨A, n, c, A', n', c', e, h1, h2, h3⟩ := h.ex
  exact ⟨A, n, c, A', n', c', e, h1.kept hg (row_far h1.row hlt), h2.far hg hlt, h3⟩
theorem PsZ.far (h : PsZ w base v ps) (hg : w.grownBy w' (some g)) (hlt : g < base) : PsZ w' base v ps := by
  obtain ⟨us, h1, h2, h3⟩ := h.ex
  exact ⟨us, h1, h2.kept hg (row_far h2 hlt), fun j u p hu hp => (h3 j u p hu hp).far hg hlt⟩
/-- The places of before: a slice that the call made, or all but the first one of such a slice. -/
def PsW (w : World) (base : Nat) (v : Value) (ps : List Plc) : Prop := PsZ w base v ps ∨ ∃ g n c ps0, PsZ w base (.slice (some ⟨g, 0, none⟩) n c) ps0 ∧ 1 ≤ n ∧ v = .slice (some ⟨g, 3, none⟩) (n - 1) (c - 1) ∧ ps = ps0.drop 1 ∧ 8 ≤ ps.length
theorem PsW.up (h : PsW w base v ps) (hq : Below w.heap.size w w') : PsW w' base v ps := by
  rcases h with h | ⟨g, n, c, ps0, h1, h2⟩
  · exact .inl (h.up hq)
  · exact .inr ⟨g, n, c, ps0, h1.up hq, h2⟩
theorem PsW.far (h : PsW w base v ps) (hg : w.grownBy w' (some g)) (hlt : g < base) : PsW w' base v ps := by
  rcases h with h | ⟨g, n, c, ps0, h1, h2⟩
  · exact .inl (h.far hg hlt)
  · exact .inr ⟨g, n, c, ps0, h1.far hg hlt, h2⟩
theorem PsW.down (h : PsW w base v ps) (hb : base' ≤ base) : PsW w base' v ps := by
  rcases h with h | ⟨g, n, c, ps0, h1, h2⟩
  · exact .inl (h.down hb)
  · exact .inr ⟨g, n, c, ps0, h1.down hb, h2⟩
theorem PsM.drop0 {B b off n c h : Nat} {ps : List Plc} (hz : PsM w B (some ⟨b, off, none⟩) n c ps) (hh : h ≤ n) : PsM w B (some ⟨b, off + h * 3, none⟩) (n - h) (c - h) (ps.drop h) :=
  ⟨by rw [List.length_drop, hz.len], by have := hz.le; omega, by have := hz.big; omega, fun hp => by
    obtain ⟨b', off', e, hb, hc⟩ := hz.cells (by omega)
    injection e with e
    injection e with e1 e2
    subst e1; subst e2
    refine ⟨b, off + h * 3, rfl, hb, fun j x hx => ?_⟩
    rw [List.getElem?_drop] at hx
    have := hc _ x hx
    rwa [show off + h * 3 + j * 3 = off + (h + j) * 3 by omega], fun e => by cases e⟩
theorem PsZ.shapeZ (h : PsZ w base v ps) : ∃ A n c, v = .slice A n c := by
  obtain ⟨us, h1, h2, h3⟩ := h.ex
  rcases h2.2 with ⟨hv, _⟩ | ⟨g, cap, cur, hv, _⟩
  · exact ⟨_, _, _, hv⟩
  · exact ⟨_, _, _, hv⟩
theorem PsW.psM (h : PsW w base (.slice A n c) ps) : PsM w w.heap.size A n c ps := by
  rcases h with h | ⟨g, n, c, ps0, h1, h2, e, rfl, _⟩
  · exact h.psM
  · injection e with e1 e2 e3
    subst e1; subst e2; subst e3
    exact h1.psM.drop0 (h := 1) h2
/-- A desk all of whose rows the call made. -/
structure DkS (w : World) (base : Nat) (v : Value) (d : Dsk) : Prop where
  ex : ∃ A n c A' n' c' A3 n3 c3, v = .agg #[.slice A n c, .int .i64 d.now.step, .slice A' n' c', .slice A3 n3 c3] ∧ PlY w base (.agg #[.slice A n c, .int .i64 d.now.step, .slice A' n' c']) d.now ∧ PsW w base (.slice A3 n3 c3) d.past
theorem DkS.up (h : DkS w base v d) (hq : Below w.heap.size w w') : DkS w' base v d := by
  obtain ⟨A, n, c, A', n', c', A3, n3, c3, e, h1, h2⟩ := h.ex
  exact ⟨A, n, c, A', n', c', A3, n3, c3, e, h1.up hq, h2.up hq⟩
theorem DkS.down (h : DkS w base v d) (hb : base' ≤ base) : DkS w base' v d := by
  obtain ⟨A, n, c, A', n', c', A3, n3, c3, e, h1, h2⟩ := h.ex
  exact ⟨A, n, c, A', n', c', A3, n3, c3, e, h1.down hb, h2.down hb⟩
theorem DkS.far (h : DkS w base v d) (hg : w.grownBy w' (some g)) (hlt : g < base) : DkS w' base v d := by
  obtain ⟨A, n, c, A', n', c', A3, n3, c3, e, h1, h2⟩ := h.ex
  exact ⟨A, n, c, A', n', c', A3, n3, c3, e, h1.far hg hlt, h2.far hg hlt⟩
theorem dkS_mk {A A' A3 : Option Addr} {n c n' c' n3 c3 : Nat} {z : Int} {p : Plc} {ps : List Plc} (h : PlY w base (.agg #[.slice A n c, .int .i64 z, .slice A' n' c']) p) (h2 : PsW w base (.slice A3 n3 c3) ps) : DkS w base (.agg #[.slice A n c, .int .i64 z, .slice A' n' c', .slice A3 n3 c3]) ⟨p, ps⟩ := by
  obtain ⟨_, _, hz, _⟩ := h.ints
  · obtain ⟨_, _, e, _⟩ := h.ints
    subst e
    exact ⟨_, _, _, _, _, _, _, _, _, rfl, h, h2⟩
theorem DkS.dkM (h : DkS w base v d) : DkM w w.heap.size v d := by
  obtain ⟨A, n, c, A', n', c', A3, n3, c3, rfl, h1, h2⟩ := h.ex
  obtain ⟨i1, i2, _, hw⟩ := h1.ints
  exact ⟨A, n, c, A', n', c', A3, n3, c3, rfl, i1, i2, hw, h2.psM⟩
theorem DkS.none_ : DkS w base (.agg #[.slice none 0 0, .int .i64 0, .slice none 0 0, .slice none 0 0]) noDsk := ⟨none, 0, 0, none, 0, 0, none, 0, 0, rfl, plZ_zero, .inl PsZ.none_⟩
end
end Go.Proofs.Ytoafpokcbbncfaa

namespace Go.Proofs.Ytoafpokcbbncfaa
open Go.RowKit
set_option linter.unusedVariables false

set_option maxRecDepth 100000 in
set_option maxHeartbeats 3200000 in
theorem deskNew_specS (v : Value) (p : Plc) (B : Nat) (w : World) (h : PlM w B v p) (hB : B ≤ w.heap.size) :
    Calls Try.prog 5 #[v] w fun e w' => ∃ u, e = .returned (.tuple #[u, .bool (placeOk p)]) ∧ DkS w' w.heap.size u (newDsk p) ∧ Below w.heap.size w w' := by
  obtain ⟨A, n, c, A', n', c', rfl, h1, h2, hwf⟩ := h.ex
  have hq0 := hide (show Below w.heap.size w ((w.alloc (.cells #[.slice A n c, .int .i64 p.step, .slice A' n' c'] 26)).alloc (.cells #[.slice none 0 0, .int .i64 0, .slice none 0 0, .slice none 0 0] 29)) from (al w _).alloc (by simp) _)
  have ht := hide (show Tri ((w.alloc (.cells #[.slice A n c, .int .i64 p.step, .slice A' n' c'] 26)).alloc (.cells #[.slice none 0 0, .int .i64 0, .slice none 0 0, .slice none 0 0] 29)) w.heap.size (.slice A n c) (.int .i64 p.step) (.slice A' n' c') from (Tri.made w _ _ _ _).up (al _ _))
  have hz := hide (show QuaW ((w.alloc (.cells #[.slice A n c, .int .i64 p.step, .slice A' n' c'] 26)).alloc (.cells #[.slice none 0 0, .int .i64 0, .slice none 0 0, .slice none 0 0] 29)) (w.heap.size + 1) (.slice none 0 0) (.int .i64 0) (.slice none 0 0) (.slice none 0 0) from by have := QuaW.made (w.alloc (.cells #[.slice A n c, .int .i64 p.step, .slice A' n' c'] 26)) (.slice none 0 0) (.int .i64 0) (.slice none 0 0) (.slice none 0 0) 29; simpa using this)
  obtain ⟨W0, hW0⟩ : ∃ W0, Hid ((w.alloc (.cells #[.slice A n c, .int .i64 p.step, .slice A' n' c'] 26)).alloc (.cells #[.slice none 0 0, .int .i64 0, .slice none 0 0, .slice none 0 0] 29) = W0) := ⟨_, hide rfl⟩
  rw [hW0.out] at hq0 ht hz
  have hgs := hide (show w.heap.size + 2 = W0.heap.size by rw [← hW0.out]; simp)
  have i1 := hide ((h1.more hB).up hq0.out)
  have i2 := hide ((h2.more hB).up hq0.out)
  have HO := hide (placeOk_spec _ p _ W0 (plM_mk i1.out i2.out hwf) (Nat.le_refl _))
  cases hok : placeOk p with
  | false =>
    rw [hok] at HO
    have e2 := hide (show newDsk p = noDsk by unfold newDsk; rw [hok]; rfl)
    clear hok
    have hW1 := hW0.out
    subst hW1
    go_enter Try.func5, Try.ntmps5
    go_wp2_with (go_at_call 14; refine HO.out.mono ?_; rintro e w2 ⟨rfl, hq⟩; have hz2 := hide (hz.out.up hq); have hb := hide (upB hq0.out hq); obtain ⟨x0, x1, x2, x3, y0, y1, y2, y3, _⟩ := hz2.out; clear hq)
    obtain ⟨k0, k1, k2, k3, _, _, _, _, _⟩ := (((hz2.out.set0 (.slice none 0 0)).set1 (.int .i64 0)).set2 (.slice none 0 0)).set3 (.slice none 0 0)
    exact bodyPost_ret (v := .tuple #[.agg #[.slice none 0 0, .int .i64 0, .slice none 0 0, .slice none 0 0], .bool false]) (by simp [results, Try.results5, go_sem, k0, k1, k2, k3]) rfl ⟨_, rfl, by rw [e2.out]; exact DkS.none_, (((hb.out.setCell (Nat.le_succ _) _).setCell (Nat.le_succ _) _).setCell (Nat.le_succ _) _).setCell (Nat.le_succ _) _⟩
  | true =>
    rw [hok] at HO
    have e2 := hide (show newDsk p = ⟨p, []⟩ by unfold newDsk; rw [hok]; rfl)
    obtain ⟨⟨g1, g3⟩, _, _, g6, _⟩ := placeOk_yes hok
    have HC := hide (fun (W : World) (hq : Below W0.heap.size W0 W) => l15Place_c _ p _ W (plM_mk (i1.out.up hq) (i2.out.up hq) hwf) (Nat.le_refl _) g1 (by omega) (by omega))
    clear hok
    have hW1 := hW0.out
    subst hW1
    go_enter Try.func5, Try.ntmps5
    go_wp2_with (go_at_call 14; refine HO.out.mono ?_; rintro e w2 ⟨rfl, hq⟩; have hz2 := hide (hz.out.up hq); have hb := hide (upB hq0.out hq); obtain ⟨t0, t1, t2, _⟩ := ht.out.up hq; replace HC := hide (HC.out _ hq))
    refine HC.out.mono ?_
    rintro e w3 ⟨u, rfl, hp, hq3⟩
    obtain ⟨A3, n3, c3, A4, n4, c4, rfl, ho3, ho4, _, _⟩ := hp.ex
    have hz3 := hide (hz2.out.up hq3)
    have hb3 := hide (upB hb.out hq3)
    obtain ⟨x0, x1, x2, x3, y0, y1, y2, y3, hlt3⟩ := hz3.out
    have hsz := hide (show w.heap.size + 1 < w2.heap.size from hz2.out.lt)
    have hs2 := hide (show w.heap.size ≤ w2.heap.size from by have := hsz.out; omega)
    have hF3 := hide ((((ho3.setLow (a := ⟨w.heap.size + 1, 0, none⟩) hsz.out (.slice A3 n3 c3)).setLow (a := ⟨w.heap.size + 1, 1, none⟩) hsz.out (.int .i64 p.step)).setLow (a := ⟨w.heap.size + 1, 2, none⟩) hsz.out (.slice A4 n4 c4)).setLow (a := ⟨w.heap.size + 1, 3, none⟩) hsz.out (.slice none 0 0))
    have hF4 := hide ((((ho4.setLow (a := ⟨w.heap.size + 1, 0, none⟩) hsz.out (.slice A3 n3 c3)).setLow (a := ⟨w.heap.size + 1, 1, none⟩) hsz.out (.int .i64 p.step)).setLow (a := ⟨w.heap.size + 1, 2, none⟩) hsz.out (.slice A4 n4 c4)).setLow (a := ⟨w.heap.size + 1, 3, none⟩) hsz.out (.slice none 0 0))
    go_wp2_with fail
    obtain ⟨k0, k1, k2, k3, _, _, _, _, _⟩ := (((hz3.out.set0 (.slice A3 n3 c3)).set1 (.int .i64 p.step)).set2 (.slice A4 n4 c4)).set3 (.slice none 0 0)
    exact bodyPost_ret (v := .tuple #[.agg #[.slice A3 n3 c3, .int .i64 p.step, .slice A4 n4 c4, .slice none 0 0], .bool true]) (by simp [results, Try.results5, go_sem, k0, k1, k2, k3]) rfl ⟨_, rfl, by rw [e2.out]; exact dkS_mk (p := p) ⟨A3, n3, c3, A4, n4, c4, rfl, hF3.out.down hs2.out, hF4.out.down hs2.out, hwf⟩ (.inl PsZ.none_), (((hb3.out.setCell (Nat.le_succ _) _).setCell (Nat.le_succ _) _).setCell (Nat.le_succ _) _).setCell (Nat.le_succ _) _⟩
end Go.Proofs.Ytoafpokcbbncfaa

namespace Go.Proofs.Ytoafpokcbbncfaa
open Go.RowKit
set_option linter.unusedVariables false

/-- What is owned from 'base' on stays. -/
structure KP (base : Nat) (X Y : World) : Prop where
  pl : ∀ v p, PlY X base v p → PlY Y base v p
  ps : ∀ v ps, PsZ X base v ps → PsZ Y base v ps
theorem KP.refl {base : Nat} {X : World} : KP base X X := ⟨fun _ _ h => h, fun _ _ h => h⟩
theorem KP.up {base : Nat} {X Y Z : World} (h : KP base X Y) (hq : Below Y.heap.size Y Z) : KP base X Z := ⟨fun v p hp => (h.pl v p hp).up hq, fun v ps hp => (h.ps v ps hp).up hq⟩
theorem KP.low {base : Nat} {X Y : World} (h : KP base X Y) {a : Addr} (ha : a.block < base) (u : Value) : KP base X (Y.setCell a u) := ⟨fun v p hp => (h.pl v p hp).setLow ha u, fun v ps hp => (h.ps v ps hp).setLow ha u⟩
theorem KP.desk {base : Nat} {X Y : World} (h : KP base X Y) {a : Addr} {cs : Array Value} (hb : Y.heap[a.block]? = some (.cells cs 29 (0, 0))) (u : Value) : KP base X (Y.setCell a u) := ⟨fun v p hp => (h.pl v p hp).setDesk hb u, fun v ps hp => (h.ps v ps hp).setDesk hb u⟩
/-- What is owned from 'base' on stays, and block g is a desk still. -/
structure KD (base g : Nat) (X Y : World) : Prop where
  kp : KP base X Y
  ob : ∃ cs, Y.heap[g]? = some (.cells cs 29 (0, 0))
theorem KD.set {base g : Nat} {X Y : World} (h : KD base g X Y) (i : Nat) (u : Value) : KD base g X (Y.setCell ⟨g, i, none⟩ u) := by
  obtain ⟨cs, e⟩ := h.ob
  exact ⟨h.kp.desk (a := ⟨g, i, none⟩) e u, desk_stays (a := ⟨g, i, none⟩) e u⟩
theorem obj_made (w : World) (o : Obj) : (w.alloc o).heap[w.heap.size]? = some o := by show (w.heap.push o)[w.heap.size]? = some o; simp
/-- One place of a slice of copies. -/
theorem PsZ.atZ {w : World} {base n c j : Nat} {A : Option Addr} {ps : List Plc} {p : Plc} (h : PsZ w base (.slice A n c) ps) (hj : ps[j]? = some p) : ∃ g B1 m1 k1 B2 m2 k2, A = some ⟨g, 0, none⟩ ∧ base ≤ g ∧ g < w.heap.size ∧ n ≤ c ∧ n = ps.length ∧ w.cell? ⟨g, j * 3, none⟩ = some (.slice B1 m1 k1) ∧ w.cell? ⟨g, j * 3 + 1, none⟩ = some (.int .i64 p.step) ∧ w.cell? ⟨g, j * 3 + 2, none⟩ = some (.slice B2 m2 k2) ∧ PlZ w base (.agg #[.slice B1 m1 k1, .int .i64 p.step, .slice B2 m2 k2]) p := by
  obtain ⟨us, h1, h2, h3⟩ := h.ex
  have hjl := (List.getElem?_eq_some_iff.1 hj).1
  obtain ⟨u, hu⟩ : ∃ u, us[j]? = some u := ⟨_, List.getElem?_eq_getElem (by omega)⟩
  have hp := h3 j u p hu hj
  obtain ⟨B1, m1, k1, B2, m2, k2, rfl, _⟩ := hp.ex
  have h3e : ∀ u ∈ us, u.cells.size = 3 := by
    intro u hu
    obtain ⟨i, hi, rfl⟩ := List.getElem_of_mem hu
    obtain ⟨A1, n1, c1, A2, n2, c2, e, _⟩ := (h3 i _ _ (List.getElem?_eq_getElem hi) (List.getElem?_eq_getElem (by omega))).ex
    rw [e]; rfl
  obtain ⟨x0, x1, x2⟩ := cellsP_at h3e hu
  rcases row_shape h2 with ⟨hv, h0⟩ | ⟨g, cap, hv, hg, hh, hn, hm⟩
  · omega
  · injection hv with e1 e2 e3
    subst e1; subst e2; subst e3
    exact ⟨g, B1, m1, k1, B2, m2, k2, rfl, hg, hh, hn, rfl, by rw [h2.cellAt _ (by omega), x0], by rw [h2.cellAt _ (by omega), x1], by rw [h2.cellAt _ (by omega), x2], hp⟩
theorem rowCut3 {w : World} {base n c k g : Nat} {e : TypeId} {vs : List Value} (h : w.ownsRow base e 3 (.slice (some ⟨g, 0, none⟩) n c) n vs) (hk : k ≤ n) : w.ownsRow base e 3 (.slice (some ⟨g, 0, none⟩) k c) k (vs.take (k * 3)) := by
  obtain ⟨h1, h2⟩ := h
  rcases h2 with ⟨e, _⟩ | ⟨g', cap, cur, e, hg, hh, hn, hm, hs, ht⟩
  · cases e
  · injection e with e1 e2 e3
    injection e1 with e1
    injection e1 with e1
    subst e1; subst e3
    refine ⟨by rw [List.length_take]; omega, .inr ⟨_, _, cur, rfl, hg, hh, by omega, hm, hs, ?_⟩⟩
    rw [← ht, List.take_take, Nat.min_eq_left (by omega)]
theorem cellsP_take {us : List Value} (h : ∀ u ∈ us, u.cells.size = 3) (k : Nat) : (cellsP us).take (k * 3) = cellsP (us.take k) := by
  induction us generalizing k with
  | nil => simp [cellsP]
  | cons u r ih =>
    cases k with
    | zero => simp [cellsP]
    | succ k =>
      have hl : u.cells.toList.length = 3 := by rw [Array.length_toList]; exact h u List.mem_cons_self
      have e : ∀ l, cellsP (u :: l) = u.cells.toList ++ cellsP l := fun l => by unfold cellsP; simp
      rw [List.take_succ_cons, e, e, ← ih (fun x hx => h x (List.mem_cons_of_mem _ hx)) k, show (k + 1) * 3 = u.cells.toList.length + k * 3 by omega, List.take_length_add_append]
theorem PsZ.cut {w : World} {base n c k g : Nat} {ps : List Plc} (h : PsZ w base (.slice (some ⟨g, 0, none⟩) n c) ps) (hn : n = ps.length) (hk : k ≤ n) : PsZ w base (.slice (some ⟨g, 0, none⟩) k c) (ps.take k) := by
  obtain ⟨us, h1, h2, h3⟩ := h.ex
  subst hn
  have h3e : ∀ u ∈ us, u.cells.size = 3 := by
    intro u hu
    obtain ⟨i, hi, rfl⟩ := List.getElem_of_mem hu
    obtain ⟨A1, n1, c1, A2, n2, c2, e, _⟩ := (h3 i _ _ (List.getElem?_eq_getElem hi) (List.getElem?_eq_getElem (by omega))).ex
    rw [e]; rfl
  have hlk : (ps.take k).length = k := by rw [List.length_take]; omega
  refine ⟨us.take k, by rw [List.length_take, List.length_take, h1], ?_, fun j u p hu hp => ?_⟩
  · rw [hlk, ← cellsP_take h3e]
    exact rowCut3 h2 hk
  · have hj : j < k := by have := (List.getElem?_eq_some_iff.1 hp).1; omega
    rw [List.getElem?_take_of_lt hj] at hu hp
    exact h3 j u p hu hp
theorem PsM.dropS {w : World} {B b off n c h : Nat} {ps : List Plc} (hz : PsM w B (some ⟨b, off, none⟩) n c ps) (hh : h ≤ n) : PsM w B (some ⟨b, off + h * 3, none⟩) (n - h) (c - h) (ps.drop h) :=
  ⟨by rw [List.length_drop, hz.len], by have := hz.le; omega, by have := hz.big; omega, fun hp => by
    obtain ⟨b', off', e, hb, hc⟩ := hz.cells (by omega)
    injection e with e
    injection e with e1 e2 _
    subst e1; subst e2
    refine ⟨b, off + h * 3, rfl, hb, fun j x hx => ?_⟩
    rw [List.getElem?_drop] at hx
    have := hc _ x hx
    rwa [show off + h * 3 + j * 3 = off + (h + j) * 3 by omega], fun e => by cases e⟩
theorem DkM.now {w : World} {B : Nat} {d : Dsk} {A A' A3 : Option Addr} {n c n' c' n3 c3 : Nat} {z : Int} (h : DkM w B (.agg #[.slice A n c, .int .i64 z, .slice A' n' c', .slice A3 n3 c3]) d) : PlM w B (.agg #[.slice A n c, .int .i64 z, .slice A' n' c']) d.now := by
  obtain ⟨B1, m, e, B', m', e', B3, m3, e3, q, h3, h4, h5, _⟩ := h.ex
  injection q with q
  injection q with q
  simp only [List.cons.injEq, Value.slice.injEq, Value.int.injEq, and_true, true_and] at q
  obtain ⟨⟨rfl, rfl, rfl⟩, rfl, ⟨rfl, rfl, rfl⟩, rfl, rfl, rfl⟩ := q
  exact plM_mk h3 h4 h5
theorem dkM_mk {w : World} {A A' A3 : Option Addr} {n c n' c' n3 c3 : Nat} {z : Int} {p : Plc} {ps : List Plc} (h : PlM w w.heap.size (.agg #[.slice A n c, .int .i64 z, .slice A' n' c']) p) (h2 : PsM w w.heap.size A3 n3 c3 ps) : DkM w w.heap.size (.agg #[.slice A n c, .int .i64 z, .slice A' n' c', .slice A3 n3 c3]) ⟨p, ps⟩ := by
  obtain ⟨B, m, e, B', m', e', q, h3, h4, h5⟩ := h.ex
  injection q with q
  injection q with q
  simp only [List.cons.injEq, Value.slice.injEq, Value.int.injEq, and_true, true_and] at q
  obtain ⟨⟨rfl, rfl, rfl⟩, rfl, rfl, rfl, rfl⟩ := q
  exact ⟨_, _, _, _, _, _, _, _, _, rfl, h3, h4, h5, h2⟩

end Go.Proofs.Ytoafpokcbbncfaa

namespace Go.Proofs.Ytoafpokcbbncfaa
open Go.RowKit
set_option linter.unusedVariables false

section
variable {w w' : World} {base base' n c g : Nat} {v u : Value} {A : Option Addr} {p : Plc} {ps : List Plc} {zs : List Int} {d : Dsk} {a : Addr} {cs : Array Value}
theorem PsW.setDesk (h : PsW w base v ps) (hb : w.heap[a.block]? = some (.cells cs 29 (0, 0))) (x : Value) : PsW (w.setCell a x) base v ps := by
  rcases h with h | ⟨g, n, c, ps0, h1, h2⟩
  · exact .inl (h.setDesk hb x)
  · exact .inr ⟨g, n, c, ps0, h1.setDesk hb x, h2⟩
theorem DkS.setDesk (h : DkS w base v d) (hb : w.heap[a.block]? = some (.cells cs 29 (0, 0))) (x : Value) : DkS (w.setCell a x) base v d := by
  obtain ⟨A, n, c, A', n', c', A3, n3, c3, e, h1, h2⟩ := h.ex
  exact ⟨A, n, c, A', n', c', A3, n3, c3, e, h1.setDesk hb x, h2.setDesk hb x⟩
/-- The places of before, each one made by the call. -/
structure PsY (w : World) (base : Nat) (v : Value) (ps : List Plc) : Prop where
  ex : ∃ us : List Value, us.length = ps.length ∧ w.ownsRow base 26 3 v ps.length (cellsP us) ∧ ∀ (j : Nat) u p, us[j]? = some u → ps[j]? = some p → PlY w base u p
theorem PsZ.toY (h : PsZ w base v ps) : PsY w base v ps := by
  obtain ⟨us, h1, h2, h3⟩ := h.ex
  exact ⟨us, h1, h2, fun j u p hu hp => (h3 j u p hu hp).toY⟩
theorem PsY.up (h : PsY w base v ps) (hq : Below w.heap.size w w') : PsY w' base v ps := by
  obtain ⟨us, h1, h2, h3⟩ := h.ex
  exact ⟨us, h1, h2.kept (row := none) ⟨hq.os, hq.tape, hq.output, hq.size, fun k hk _ => hq.block k hk⟩ (by cases v.ownBlock <;> simp), fun j u p hu hp => (h3 j u p hu hp).up hq⟩
theorem PsY.far (h : PsY w base v ps) (hg : w.grownBy w' (some g)) (hlt : g < base) : PsY w' base v ps := by
  obtain ⟨us, h1, h2, h3⟩ := h.ex
  exact ⟨us, h1, h2.kept hg (row_far h2 hlt), fun j u p hu hp => (h3 j u p hu hp).far hg hlt⟩
theorem PsY.down (h : PsY w base v ps) (hb : base' ≤ base) : PsY w base' v ps := by
  obtain ⟨us, h1, h2, h3⟩ := h.ex
  exact ⟨us, h1, ownsRow_down h2 hb, fun j u p hu hp => (h3 j u p hu hp).down hb⟩
theorem PsY.setDesk (h : PsY w base v ps) (hb : w.heap[a.block]? = some (.cells cs 29 (0, 0))) (x : Value) : PsY (w.setCell a x) base v ps := by
  obtain ⟨us, h1, h2, h3⟩ := h.ex
  exact ⟨us, h1, h2.kept (grown_at w a x) (.inr (row_neDesk (by decide) h2 hb)), fun j u p hu hp => (h3 j u p hu hp).setDesk hb x⟩
theorem PsY.psM (h : PsY w base (.slice A n c) ps) : PsM w w.heap.size A n c ps := by
  obtain ⟨us, h1, h2, h3⟩ := h.ex
  have h3e : ∀ u ∈ us, u.cells.size = 3 := by
    intro u hu
    obtain ⟨j, hj, rfl⟩ := List.getElem_of_mem hu
    obtain ⟨A1, n1, c1, A2, n2, c2, e, _⟩ := (h3 j _ _ (List.getElem?_eq_getElem hj) (List.getElem?_eq_getElem (by omega))).ex
    rw [e]; rfl
  rcases row_shape h2 with ⟨hv, h0⟩ | ⟨g, cap, hv, hg, hh, hn, hm⟩
  · injection hv with e1 e2 e3
    subst e1; subst e2; subst e3
    obtain rfl := List.eq_nil_of_length_eq_zero h0
    exact PsM.nil
  · injection hv with e1 e2 e3
    subst e1; subst e2; subst e3
    refine ⟨rfl, hn, hm, fun hp => ⟨g, 0, rfl, hh, fun j p hp => ?_⟩, fun e => by cases e⟩
    have hj : j < ps.length := (List.getElem?_eq_some_iff.1 hp).1
    obtain ⟨A1, n1, c1, A2, n2, c2, e, i1, i2, hwf⟩ := (h3 j _ p (List.getElem?_eq_getElem (by omega)) hp).ex
    have hat := cellsP_at h3e (j := j) (x := .slice A1 n1 c1) (y := .int .i64 p.step) (z := .slice A2 n2 c2) (by rw [List.getElem?_eq_getElem (by omega), e])
    have hlen := h2.1
    refine ⟨A1, n1, c1, A2, n2, c2, ?_, ?_, ?_, i1.ints, i2.ints, hwf⟩
    · rw [Nat.zero_add, h2.cellAt _ (by omega)]; exact hat.1
    · rw [Nat.zero_add, h2.cellAt _ (by omega)]; exact hat.2.1
    · rw [Nat.zero_add, h2.cellAt _ (by omega)]; exact hat.2.2
theorem PsY.pushM {m c' : Nat} {A' : Option Addr} {us : List Value} (hm : m = ps.length) (h1 : us.length = ps.length) (h2 : w.ownsRow base 26 3 v m (cellsP us)) (h3 : ∀ (j : Nat) u p, us[j]? = some u → ps[j]? = some p → PlY w base u p)
    (hu : PlY w base u p) (hr : w'.ownsRow base 26 3 (.slice A' (m + 1) c') (m + 1) (cellsP us ++ u.cells.toList)) (hg : w.grownBy w' v.ownBlock) : PsY w' base (.slice A' (m + 1) c') (ps ++ [p]) := by
  subst hm
  refine ⟨us ++ [u], by simp [h1], ?_, fun j x q hx hq => ?_⟩
  · rw [List.length_append, cellsP_append]
    have : cellsP [u] = u.cells.toList := by unfold cellsP; simp
    rw [this]
    exact hr
  · rcases Nat.lt_or_ge j us.length with hj | hj
    · rw [List.getElem?_append_left hj] at hx
      rw [List.getElem?_append_left (by omega)] at hq
      exact (h3 j x q hx hq).kept h2 hg
    · rw [List.getElem?_append_right hj] at hx
      rw [List.getElem?_append_right (by omega)] at hq
      have hj0 : j - us.length = 0 := by have := (List.getElem?_eq_some_iff.1 hx).1; simp at this; omega
      rw [hj0] at hx
      rw [show j - ps.length = 0 by omega] at hq
      simp at hx hq
      subst hx; subst hq
      exact hu.kept h2 hg
/-- A desk as a draw hands it back. -/
def PsF (w : World) (base : Nat) (v : Value) (ps : List Plc) : Prop := PsY w base v ps ∨ PsW w base v ps
theorem PsF.psM (h : PsF w base (.slice A n c) ps) : PsM w w.heap.size A n c ps := by
  rcases h with h | h
  · exact h.psM
  · exact h.psM
structure DkF (w : World) (base : Nat) (v : Value) (d : Dsk) : Prop where
  ex : ∃ A n c A' n' c' A3 n3 c3, v = .agg #[.slice A n c, .int .i64 d.now.step, .slice A' n' c', .slice A3 n3 c3] ∧ PlY w base (.agg #[.slice A n c, .int .i64 d.now.step, .slice A' n' c']) d.now ∧ PsF w base (.slice A3 n3 c3) d.past
theorem DkS.toF (h : DkS w base v d) : DkF w base v d := by
  obtain ⟨A, n, c, A', n', c', A3, n3, c3, e, h1, h2⟩ := h.ex
  exact ⟨A, n, c, A', n', c', A3, n3, c3, e, h1, .inr h2⟩
theorem DkF.up (h : DkF w base v d) (hq : Below w.heap.size w w') : DkF w' base v d := by
  obtain ⟨A, n, c, A', n', c', A3, n3, c3, e, h1, h2⟩ := h.ex
  exact ⟨A, n, c, A', n', c', A3, n3, c3, e, h1.up hq, by rcases h2 with h2 | h2; exact .inl (h2.up hq); exact .inr (h2.up hq)⟩
theorem DkF.far (h : DkF w base v d) (hg : w.grownBy w' (some g)) (hlt : g < base) : DkF w' base v d := by
  obtain ⟨A, n, c, A', n', c', A3, n3, c3, e, h1, h2⟩ := h.ex
  exact ⟨A, n, c, A', n', c', A3, n3, c3, e, h1.far hg hlt, by rcases h2 with h2 | h2; exact .inl (h2.far hg hlt); exact .inr (h2.far hg hlt)⟩
theorem DkF.down (h : DkF w base v d) (hb : base' ≤ base) : DkF w base' v d := by
  obtain ⟨A, n, c, A', n', c', A3, n3, c3, e, h1, h2⟩ := h.ex
  exact ⟨A, n, c, A', n', c', A3, n3, c3, e, h1.down hb, by rcases h2 with h2 | h2; exact .inl (h2.down hb); exact .inr (h2.down hb)⟩
theorem DkF.setDesk (h : DkF w base v d) (hb : w.heap[a.block]? = some (.cells cs 29 (0, 0))) (x : Value) : DkF (w.setCell a x) base v d := by
  obtain ⟨A, n, c, A', n', c', A3, n3, c3, e, h1, h2⟩ := h.ex
  exact ⟨A, n, c, A', n', c', A3, n3, c3, e, h1.setDesk hb x, by rcases h2 with h2 | h2; exact .inl (h2.setDesk hb x); exact .inr (h2.setDesk hb x)⟩
theorem DkF.dkM (h : DkF w base v d) : DkM w w.heap.size v d := by
  obtain ⟨A, n, c, A', n', c', A3, n3, c3, rfl, h1, h2⟩ := h.ex
  obtain ⟨i1, i2, _, hw⟩ := h1.ints
  exact ⟨A, n, c, A', n', c', A3, n3, c3, rfl, i1, i2, hw, h2.psM⟩
end
/-- A block of a desk that may be written. -/
structure DBox (W : World) (b : Nat) (x y z u : Value) : Prop where
  qua : QuaW W b x y z u
  ob : ∃ cs, W.heap[b]? = some (.cells cs 29 (0, 0))
section
variable {W W' : World} {b g : Nat} {x y z u x' y' z' u' : Value}
theorem DBox.madeAt (hb : b = W.heap.size) : DBox (W.alloc (.cells #[x, y, z, u] 29)) b x y z u := by
  subst hb
  exact ⟨QuaW.made W x y z u _, _, obj_made W _⟩
theorem DBox.lt (h : DBox W b x y z u) : b < W.heap.size := h.qua.lt
theorem DBox.grown {row : Option Nat} (h : DBox W b x y z u) (hg : W.grownBy W' row) (hne : ∀ k, row = some k → k ≠ b) : DBox W' b x y z u := by
  obtain ⟨cs, e⟩ := h.ob
  exact ⟨h.qua.grown hg hne, cs, (hg.block b h.lt (fun e => hne b e.symm rfl)).trans e⟩
theorem DBox.up (h : DBox W b x y z u) (hq : Below W.heap.size W W') : DBox W' b x y z u := by
  obtain ⟨cs, e⟩ := h.ob
  exact ⟨h.qua.up hq, cs, (hq.block b h.lt).trans e⟩
theorem ne_blk {g b : Nat} (h : g < b) : ∀ k, some g = some k → k ≠ b := fun k e => by have e2 : g = k := Option.some.inj e; omega
theorem DBox.drew (h : DBox W b x y z u) : DBox W.drew b x y z u := h.up (Below.refl _ _).drew
theorem DBox.set (h : DBox W b x' y' z' u') (x y z u : Value) : DBox ((((W.setCell ⟨b, 0, none⟩ x).setCell ⟨b, 1, none⟩ y).setCell ⟨b, 2, none⟩ z).setCell ⟨b, 3, none⟩ u) b x y z u := by
  obtain ⟨cs, e⟩ := h.ob
  obtain ⟨c1, e1⟩ := desk_stays (a := ⟨b, 0, none⟩) e x
  obtain ⟨c2, e2⟩ := desk_stays (a := ⟨b, 1, none⟩) e1 y
  obtain ⟨c3, e3⟩ := desk_stays (a := ⟨b, 2, none⟩) e2 z
  exact ⟨(((h.qua.set0 x).set1 y).set2 z).set3 u, desk_stays (a := ⟨b, 3, none⟩) e3 u⟩
theorem DBox.other (h : DBox W b x y z u) {a : Addr} (ha : a.block ≠ b) (v : Value) : DBox (W.setCell a v) b x y z u := h.grown (grown_at W a v) (fun k e => by injection e with e; omega)
/-- What survives stores into a block of a desk. -/
theorem dks_set4 {base : Nat} {v : Value} {d : Dsk} (h : DkF W base v d) (hb : DBox W b x' y' z' u') (x y z u : Value) : DkF ((((W.setCell ⟨b, 0, none⟩ x).setCell ⟨b, 1, none⟩ y).setCell ⟨b, 2, none⟩ z).setCell ⟨b, 3, none⟩ u) base v d := by
  obtain ⟨cs, e⟩ := hb.ob
  obtain ⟨c1, e1⟩ := desk_stays (a := ⟨b, 0, none⟩) e x
  obtain ⟨c2, e2⟩ := desk_stays (a := ⟨b, 1, none⟩) e1 y
  obtain ⟨c3, e3⟩ := desk_stays (a := ⟨b, 2, none⟩) e2 z
  exact (((h.setDesk (a := ⟨b, 0, none⟩) e x).setDesk (a := ⟨b, 1, none⟩) e1 y).setDesk (a := ⟨b, 2, none⟩) e2 z).setDesk (a := ⟨b, 3, none⟩) e3 u
theorem dkS_set4 {base : Nat} {v : Value} {d : Dsk} (h : DkS W base v d) (hb : DBox W b x' y' z' u') (x y z u : Value) : DkS ((((W.setCell ⟨b, 0, none⟩ x).setCell ⟨b, 1, none⟩ y).setCell ⟨b, 2, none⟩ z).setCell ⟨b, 3, none⟩ u) base v d := by
  obtain ⟨cs, e⟩ := hb.ob
  obtain ⟨c1, e1⟩ := desk_stays (a := ⟨b, 0, none⟩) e x
  obtain ⟨c2, e2⟩ := desk_stays (a := ⟨b, 1, none⟩) e1 y
  obtain ⟨c3, e3⟩ := desk_stays (a := ⟨b, 2, none⟩) e2 z
  exact (((h.setDesk (a := ⟨b, 0, none⟩) e x).setDesk (a := ⟨b, 1, none⟩) e1 y).setDesk (a := ⟨b, 2, none⟩) e2 z).setDesk (a := ⟨b, 3, none⟩) e3 u
theorem grown_set4 {w0 : World} {row : Option Nat} (h : w0.grownBy W row) (hb : w0.heap.size ≤ b) (x y z u : Value) : w0.grownBy ((((W.setCell ⟨b, 0, none⟩ x).setCell ⟨b, 1, none⟩ y).setCell ⟨b, 2, none⟩ z).setCell ⟨b, 3, none⟩ u) row := by
  have s : ∀ {X : World} {i : Nat} {v : Value}, w0.grownBy X row → w0.grownBy (X.setCell ⟨b, i, none⟩ v) row := fun {X i v} hX => grown_new hX (grown_at X ⟨b, i, none⟩ v) (fun j e => .inl (by have e2 : b = j := Option.some.inj e; omega))
  exact s (s (s (s h)))
theorem DBox.other4 {b' : Nat} (h : DBox W b' x' y' z' u') (hne : b ≠ b') (x y z u : Value) : DBox ((((W.setCell ⟨b, 0, none⟩ x).setCell ⟨b, 1, none⟩ y).setCell ⟨b, 2, none⟩ z).setCell ⟨b, 3, none⟩ u) b' x' y' z' u' :=
  (((h.other (a := ⟨b, 0, none⟩) hne x).other (a := ⟨b, 1, none⟩) hne y).other (a := ⟨b, 2, none⟩) hne z).other (a := ⟨b, 3, none⟩) hne u
end
section
variable {w0 W W' : World} {g m m' b n c n' c' n3 c3 : Nat} {A A' A3 : Option Addr} {d : Dsk}
end
theorem deskOk_start {d : Dsk} (h : deskOk d = true ∨ d = noDsk) : d.now.start.length ≤ 3 ∧ d.now.word.length ≤ 6 := by
  rcases h with h | rfl
  · obtain ⟨⟨_, g⟩, _, _, g2, _⟩ := placeOk_yes (deskOk_yes h).2.1
    exact ⟨g, g2⟩
  · exact ⟨Nat.zero_le _, Nat.zero_le _⟩
theorem deskX_or {d : Dsk} {q : Ded} (h : deskOk d = true ∨ d = noDsk) : deskOk (deskX d q) = true ∨ deskX d q = noDsk := by
  rcases h with h | rfl
  · exact .inl (deskX_ok h)
  · exact .inr (deskX_no noDsk_no)
theorem deskX_past {d : Dsk} {q : Ded} : (deskX d q).past.length ≤ d.past.length + 1 := by
  unfold deskX
  split
  · unfold deskD
    split
    · show d.past.dropLast.length ≤ _
      rw [List.length_dropLast]; omega
    · split
      · show (pushP d.past d.now).length ≤ _
        unfold pushP
        split
        · simp
        · simp
      · omega
  · exact Nat.zero_le _
theorem newDsk_or (p : Plc) : deskOk (newDsk p) = true ∨ newDsk p = noDsk := by
  unfold newDsk
  cases h : placeOk p with
  | true => exact .inl (deskOk_mk (by simp) h (by simp))
  | false => exact .inr rfl
end Go.Proofs.Ytoafpokcbbncfaa

namespace Go.Proofs.Ytoafpokcbbncfaa
open Go.RowKit
set_option linter.unusedVariables false

theorem DkF.set4 {w : World} {lo g : Nat} {v : Value} {d : Dsk} {x' y' z' u' : Value} (h : DkF w lo v d) (hb : DBox w g x' y' z' u') (x y z u : Value) : DkF ((((w.setCell ⟨g, 0, none⟩ x).setCell ⟨g, 1, none⟩ y).setCell ⟨g, 2, none⟩ z).setCell ⟨g, 3, none⟩ u) lo v d := dks_set4 h hb x y z u
theorem DkF.open_ {w : World} {lo : Nat} {v : Value} {d : Dsk} (h : DkF w lo v d) : ∃ A n c A' n' c' A3 n3 c3, v = .agg #[.slice A n c, .int .i64 d.now.step, .slice A' n' c', .slice A3 n3 c3] := by
  obtain ⟨A, n, c, A', n', c', A3, n3, c3, e, _⟩ := h.ex
  exact ⟨A, n, c, A', n', c', A3, n3, c3, e⟩
end Go.Proofs.Ytoafpokcbbncfaa
