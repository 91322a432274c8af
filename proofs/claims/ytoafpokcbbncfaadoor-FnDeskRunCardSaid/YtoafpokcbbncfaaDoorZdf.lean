/-
  Words, plain lemmas and contracts that belong together, joined into one file.
-/
import Derived.Test.YtoafpokcbbncfaaDoorZms
import Derived.Deep.DeepCutAuto
import Derived.Test.YtoafpokcbbncfaaDoorZcs
import Derived.Test.YtoafpokcbbncfaaDoorDrawDd
import Derived.Test.YtoafpokcbbncfaaDoorZpd
namespace Go.Proofs.YtoafpokcbbncfaaDoor
open Go.RowKit
set_option linter.unusedVariables false

section
variable {w w' : World} {base base' n c g : Nat} {v u : Value} {A : Option Addr} {p : Plc} {ps : List Plc} {zs : List Int} {d : Dsk}
theorem row_far {b : Nat} {e : TypeId} {sz m : Nat} {xs : List Value} (h : w.ownsRow b e sz v m xs) (hlt : g < b) : v.ownBlock = none ∨ v.ownBlock ≠ some g := by
  cases hk : v.ownBlock with
  | none => exact .inl rfl
  | some k => exact .inr fun e => by injection e with e; have := (h.lt k hk).1; omega
theorem OwnZ.far (h : OwnZ w base v zs) (hg : w.grownBy w' (some g)) (hlt : g < base) : OwnZ w' base v zs := h.kept hg fun l hl => row_far hl.row hlt
theorem PlZ.far (h : PlZ w base v p) (hg : w.grownBy w' (some g)) (hlt : g < base) : PlZ w' base v p := by
  obtain ⟨A, n, c, A', n', c', e, h1, h2, h3, h4⟩ := h.ex
  exact ⟨A, n, c, A', n', c', e, h1.kept hg (row_far h1.row hlt), h2.far hg hlt, h3, h4⟩
theorem PlY.far (h : PlY w base v p) (hg : w.grownBy w' (some g)) (hlt : g < base) : PlY w' base v p := by
  obtain ⟨A, n, c, A', n', c', e, h1, h2, h3⟩ := h.ex
  exact ⟨A, n, c, A', n', c', e, h1.kept hg (row_far h1.row hlt), h2.far hg hlt, h3⟩
theorem PsZ.far (h : PsZ w base v ps) (hg : w.grownBy w' (some g)) (hlt : g < base) : PsZ w' base v ps := by
  obtain ⟨us, h1, h2, h3⟩ := h.ex
  exact ⟨us, h1, h2.kept hg (row_far h2 hlt), fun j u p hu hp => (h3 j u p hu hp).far hg hlt⟩
/-- The places of before: a slice that the call made, or all but the first one of such a slice. -/
def PsW (w : World) (base : Nat) (v : Value) (ps : List Plc) : Prop := PsZ w base v ps ∨ ∃ g n c ps0, PsZ w base (.slice (some ⟨g, 0, none⟩) n c) ps0 ∧ 1 ≤ n ∧ v = .slice (some ⟨g, 3, none⟩) (n - 1) (c - 1) ∧ ps = ps0.drop 1 ∧ 8 ≤ ps.length
theorem PsW.up (h : PsW w base v ps) (hq : Below w.heap.size w w') : PsW w' base v ps := by
  rcases h with h | ⟨g, n, c, ps0, h1, h2⟩
  · exact .inl (h.up hq)
  · exact .inr ⟨g, n, c, ps0, h1.up hq, h2⟩
theorem PsW.far (h : PsW w base v ps) (hg : w.grownBy w' (some g)) (hlt : g < base) : PsW w' base v ps := by
  rcases h with h | ⟨g, n, c, ps0, h1, h2⟩
  · exact .inl (h.far hg hlt)
  · exact .inr ⟨g, n, c, ps0, h1.far hg hlt, h2⟩
theorem PsW.down (h : PsW w base v ps) (hb : base' ≤ base) : PsW w base' v ps := by
  rcases h with h | ⟨g, n, c, ps0, h1, h2⟩
  · exact .inl (h.down hb)
  · exact .inr ⟨g, n, c, ps0, h1.down hb, h2⟩
theorem PsM.drop0 {B b off n c h : Nat} {ps : List Plc} (hz : PsM w B (some ⟨b, off, none⟩) n c ps) (hh : h ≤ n) : PsM w B (some ⟨b, off + h * 3, none⟩) (n - h) (c - h) (ps.drop h) :=
  ⟨by rw [List.length_drop, hz.len], by have := hz.le; omega, by have := hz.big; omega, fun hp => by
    obtain ⟨b', off', e, hb, hc⟩ := hz.cells (by omega)
    injection e with e
    injection e with e1 e2
    subst e1; subst e2
    refine ⟨b, off + h * 3, rfl, hb, fun j x hx => ?_⟩
    rw [List.getElem?_drop] at hx
    have := hc _ x hx
    rwa [show off + h * 3 + j * 3 = off + (h + j) * 3 by omega], fun e => by cases e⟩
theorem PsW.psM (h : PsW w base (.slice A n c) ps) : PsM w w.heap.size A n c ps := by
  rcases h with h | ⟨g, n, c, ps0, h1, h2, e, rfl, _⟩
  · exact h.psM
  · injection e with e1 e2 e3
    subst e1; subst e2; subst e3
    exact h1.psM.drop0 (h := 1) h2
/-- A desk all of whose rows the call made. -/
structure DkS (w : World) (base : Nat) (v : Value) (d : Dsk) : Prop where
  ex : ∃ A n c A' n' c' A3 n3 c3, v = .agg #[.slice A n c, .int .i64 d.now.step, .slice A' n' c', .slice A3 n3 c3] ∧ PlY w base (.agg #[.slice A n c, .int .i64 d.now.step, .slice A' n' c']) d.now ∧ PsW w base (.slice A3 n3 c3) d.past
theorem DkS.up (h : DkS w base v d) (hq : Below w.heap.size w w') : DkS w' base v d := by
  obtain ⟨A, n, c, A', n', c', A3, n3, c3, e, h1, h2⟩ := h.ex
  exact ⟨A, n, c, A', n', c', A3, n3, c3, e, h1.up hq, h2.up hq⟩
theorem DkS.down (h : DkS w base v d) (hb : base' ≤ base) : DkS w base' v d := by
  obtain ⟨A, n, c, A', n', c', A3, n3, c3, e, h1, h2⟩ := h.ex
  exact ⟨A, n, c, A', n', c', A3, n3, c3, e, h1.down hb, h2.down hb⟩
theorem DkS.far (h : DkS w base v d) (hg : w.grownBy w' (some g)) (hlt : g < base) : DkS w' base v d := by
  obtain ⟨A, n, c, A', n', c', A3, n3, c3, e, h1, h2⟩ := h.ex
  exact ⟨A, n, c, A', n', c', A3, n3, c3, e, h1.far hg hlt, h2.far hg hlt⟩
theorem dkS_mk {A A' A3 : Option Addr} {n c n' c' n3 c3 : Nat} {z : Int} {p : Plc} {ps : List Plc} (h : PlY w base (.agg #[.slice A n c, .int .i64 z, .slice A' n' c']) p) (h2 : PsW w base (.slice A3 n3 c3) ps) : DkS w base (.agg #[.slice A n c, .int .i64 z, .slice A' n' c', .slice A3 n3 c3]) ⟨p, ps⟩ := by
  obtain ⟨_, _, hz, _⟩ := h.ints
  · obtain ⟨_, _, e, _⟩ := h.ints
    subst e
    exact ⟨_, _, _, _, _, _, _, _, _, rfl, h, h2⟩
theorem DkS.dkM (h : DkS w base v d) : DkM w w.heap.size v d := by
  obtain ⟨A, n, c, A', n', c', A3, n3, c3, rfl, h1, h2⟩ := h.ex
  obtain ⟨i1, i2, _, hw⟩ := h1.ints
  exact ⟨A, n, c, A', n', c', A3, n3, c3, rfl, i1, i2, hw, h2.psM⟩
theorem DkS.none_ : DkS w base (.agg #[.slice none 0 0, .int .i64 0, .slice none 0 0, .slice none 0 0]) noDsk := ⟨none, 0, 0, none, 0, 0, none, 0, 0, rfl, plZ_zero, .inl PsZ.none_⟩
end
end Go.Proofs.YtoafpokcbbncfaaDoor

namespace Go.Proofs.YtoafpokcbbncfaaDoor
open Go.RowKit
set_option linter.unusedVariables false

/-- What is owned from 'base' on stays. -/
structure KP (base : Nat) (X Y : World) : Prop where
  pl : ∀ v p, PlY X base v p → PlY Y base v p
  ps : ∀ v ps, PsZ X base v ps → PsZ Y base v ps
theorem KP.refl {base : Nat} {X : World} : KP base X X := ⟨fun _ _ h => h, fun _ _ h => h⟩
theorem KP.up {base : Nat} {X Y Z : World} (h : KP base X Y) (hq : Below Y.heap.size Y Z) : KP base X Z := ⟨fun v p hp => (h.pl v p hp).up hq, fun v ps hp => (h.ps v ps hp).up hq⟩
theorem KP.low {base : Nat} {X Y : World} (h : KP base X Y) {a : Addr} (ha : a.block < base) (u : Value) : KP base X (Y.setCell a u) := ⟨fun v p hp => (h.pl v p hp).setLow ha u, fun v ps hp => (h.ps v ps hp).setLow ha u⟩
theorem KP.desk {base : Nat} {X Y : World} (h : KP base X Y) {a : Addr} {cs : Array Value} (hb : Y.heap[a.block]? = some (.cells cs 34 (0, 0))) (u : Value) : KP base X (Y.setCell a u) := ⟨fun v p hp => (h.pl v p hp).setDesk hb u, fun v ps hp => (h.ps v ps hp).setDesk hb u⟩
/-- What is owned from 'base' on stays, and block g is a desk still. -/
structure KD (base g : Nat) (X Y : World) : Prop where
  kp : KP base X Y
  ob : ∃ cs, Y.heap[g]? = some (.cells cs 34 (0, 0))
theorem KD.set {base g : Nat} {X Y : World} (h : KD base g X Y) (i : Nat) (u : Value) : KD base g X (Y.setCell ⟨g, i, none⟩ u) := by
  obtain ⟨cs, e⟩ := h.ob
  exact ⟨h.kp.desk (a := ⟨g, i, none⟩) e u, desk_stays (a := ⟨g, i, none⟩) e u⟩
theorem obj_made (w : World) (o : Obj) : (w.alloc o).heap[w.heap.size]? = some o := by show (w.heap.push o)[w.heap.size]? = some o; simp
/-- One place of a slice of copies. -/
theorem PsZ.atZ {w : World} {base n c j : Nat} {A : Option Addr} {ps : List Plc} {p : Plc} (h : PsZ w base (.slice A n c) ps) (hj : ps[j]? = some p) : ∃ g B1 m1 k1 B2 m2 k2, A = some ⟨g, 0, none⟩ ∧ base ≤ g ∧ g < w.heap.size ∧ n ≤ c ∧ n = ps.length ∧ w.cell? ⟨g, j * 3, none⟩ = some (.slice B1 m1 k1) ∧ w.cell? ⟨g, j * 3 + 1, none⟩ = some (.int .i64 p.step) ∧ w.cell? ⟨g, j * 3 + 2, none⟩ = some (.slice B2 m2 k2) ∧ PlZ w base (.agg #[.slice B1 m1 k1, .int .i64 p.step, .slice B2 m2 k2]) p := by
  obtain ⟨us, h1, h2, h3⟩ := h.ex
  have hjl := (List.getElem?_eq_some_iff.1 hj).1
  obtain ⟨u, hu⟩ : ∃ u, us[j]? = some u := ⟨_, List.getElem?_eq_getElem (by omega)⟩
  have hp := h3 j u p hu hj
  obtain ⟨B1, m1, k1, B2, m2, k2, rfl, _⟩ := hp.ex
  have h3e : ∀ u ∈ us, u.cells.size = 3 := by
    intro u hu
    obtain ⟨i, hi, rfl⟩ := List.getElem_of_mem hu
    obtain ⟨A1, n1, c1, A2, n2, c2, e, _⟩ := (h3 i _ _ (List.getElem?_eq_getElem hi) (List.getElem?_eq_getElem (by omega))).ex
    rw [e]; rfl
  obtain ⟨x0, x1, x2⟩ := cellsP_at h3e hu
  rcases row_shape h2 with ⟨hv, h0⟩ | ⟨g, cap, hv, hg, hh, hn, hm⟩
  · omega
  · injection hv with e1 e2 e3
    subst e1; subst e2; subst e3
    exact ⟨g, B1, m1, k1, B2, m2, k2, rfl, hg, hh, hn, rfl, by rw [h2.cellAt _ (by omega), x0], by rw [h2.cellAt _ (by omega), x1], by rw [h2.cellAt _ (by omega), x2], hp⟩
theorem rowCut3 {w : World} {base n c k g : Nat} {e : TypeId} {vs : List Value} (h : w.ownsRow base e 3 (.slice (some ⟨g, 0, none⟩) n c) n vs) (hk : k ≤ n) : w.ownsRow base e 3 (.slice (some ⟨g, 0, none⟩) k c) k (vs.take (k * 3)) := by
  obtain ⟨h1, h2⟩ := h
  rcases h2 with ⟨e, _⟩ | ⟨g', cap, cur, e, hg, hh, hn, hm, hs, ht⟩
  · cases e
  · injection e with e1 e2 e3
    injection e1 with e1
    injection e1 with e1
    subst e1; subst e3
    refine ⟨by rw [List.length_take]; omega, .inr ⟨_, _, cur, rfl, hg, hh, by omega, hm, hs, ?_⟩⟩
    rw [← ht, List.take_take, Nat.min_eq_left (by omega)]
theorem cellsP_take {us : List Value} (h : ∀ u ∈ us, u.cells.size = 3) (k : Nat) : (cellsP us).take (k * 3) = cellsP (us.take k) := by
  induction us generalizing k with
  | nil => simp [cellsP]
  | cons u r ih =>
    cases k with
    | zero => simp [cellsP]
    | succ k =>
      have hl : u.cells.toList.length = 3 := by rw [Array.length_toList]; exact h u List.mem_cons_self
      have e : ∀ l, cellsP (u :: l) = u.cells.toList ++ cellsP l := fun l => by unfold cellsP; simp
      rw [List.take_succ_cons, e, e, ← ih (fun x hx => h x (List.mem_cons_of_mem _ hx)) k, show (k + 1) * 3 = u.cells.toList.length + k * 3 by omega, List.take_length_add_append]
theorem PsZ.cut {w : World} {base n c k g : Nat} {ps : List Plc} (h : PsZ w base (.slice (some ⟨g, 0, none⟩) n c) ps) (hn : n = ps.length) (hk : k ≤ n) : PsZ w base (.slice (some ⟨g, 0, none⟩) k c) (ps.take k) := by
  obtain ⟨us, h1, h2, h3⟩ := h.ex
  subst hn
  have h3e : ∀ u ∈ us, u.cells.size = 3 := by
    intro u hu
    obtain ⟨i, hi, rfl⟩ := List.getElem_of_mem hu
    obtain ⟨A1, n1, c1, A2, n2, c2, e, _⟩ := (h3 i _ _ (List.getElem?_eq_getElem hi) (List.getElem?_eq_getElem (by omega))).ex
    rw [e]; rfl
  have hlk : (ps.take k).length = k := by rw [List.length_take]; omega
  refine ⟨us.take k, by rw [List.length_take, List.length_take, h1], ?_, fun j u p hu hp => ?_⟩
  · rw [hlk, ← cellsP_take h3e]
    exact rowCut3 h2 hk
  · have hj : j < k := by have := (List.getElem?_eq_some_iff.1 hp).1; omega
    rw [List.getElem?_take_of_lt hj] at hu hp
    exact h3 j u p hu hp
theorem PsM.dropS {w : World} {B b off n c h : Nat} {ps : List Plc} (hz : PsM w B (some ⟨b, off, none⟩) n c ps) (hh : h ≤ n) : PsM w B (some ⟨b, off + h * 3, none⟩) (n - h) (c - h) (ps.drop h) :=
  ⟨by rw [List.length_drop, hz.len], by have := hz.le; omega, by have := hz.big; omega, fun hp => by
    obtain ⟨b', off', e, hb, hc⟩ := hz.cells (by omega)
    injection e with e
    injection e with e1 e2 _
    subst e1; subst e2
    refine ⟨b, off + h * 3, rfl, hb, fun j x hx => ?_⟩
    rw [List.getElem?_drop] at hx
    have := hc _ x hx
    rwa [show off + h * 3 + j * 3 = off + (h + j) * 3 by omega], fun e => by cases e⟩
theorem DkM.now {w : World} {B : Nat} {d : Dsk} {A A' A3 : Option Addr} {n c n' c' n3 c3 : Nat} {z : Int} (h : DkM w B (.agg #[.slice A n c, .int .i64 z, .slice A' n' c', .slice A3 n3 c3]) d) : PlM w B (.agg #[.slice A n c, .int .i64 z, .slice A' n' c']) d.now := by
  obtain ⟨B1, m, e, B', m', e', B3, m3, e3, q, h3, h4, h5, _⟩ := h.ex
  injection q with q
  injection q with q
  simp only [List.cons.injEq, Value.slice.injEq, Value.int.injEq, and_true, true_and] at q
  obtain ⟨⟨rfl, rfl, rfl⟩, rfl, ⟨rfl, rfl, rfl⟩, rfl, rfl, rfl⟩ := q
  exact plM_mk h3 h4 h5
set_option maxRecDepth 100000 in
set_option maxHeartbeats 6400000 in
theorem deskDo_spec (v : Value) (d : Dsk) (q : Ded) (B : Nat) (w : World) (h : DkM w B v d) (hB : B ≤ w.heap.size) (hwa : (Lit.int .i64 q.a).wf = true) (hwb : (Lit.int .i64 q.b).wf = true) :
    Calls Tryd.prog 9 #[v, .agg #[.int .i64 q.k, .int .i64 q.a, .int .i64 q.b]] w fun e w' => ∃ u, e = .returned (.tuple #[u, .bool (deskB d q)]) ∧ DkS w' w.heap.size u (deskX d q) ∧ Below w.heap.size w w' := by
  obtain ⟨k, a, b⟩ := q
  show Calls Tryd.prog 9 #[v, .agg #[.int .i64 k, .int .i64 a, .int .i64 b]] w _
  obtain ⟨i0, hi, hz0, hz1, hz2⟩ := info_parts infoPlace
  obtain ⟨A, n, c, A2, n2, c2, A3, n3, c3, rfl, h1, h2, hwf, hps⟩ := h.ex
  have hn3 := hide hps.len
  obtain ⟨W0, hW0⟩ : ∃ W, Hid ((((w.alloc (.cells #[.slice A n c, .int .i64 d.now.step, .slice A2 n2 c2, .slice A3 n3 c3] 34)).alloc (.cells #[.int .i64 k, .int .i64 a, .int .i64 b] 38)).alloc (.cells #[.slice none 0 0, .int .i64 0, .slice none 0 0, .slice none 0 0] 34)) = W) := ⟨_, hide rfl⟩
  have hz := hide (show W0.heap.size = w.heap.size + 1 + 1 + 1 by rw [← hW0.out]; simp)
  have hq0 := hide (show Below w.heap.size w W0 by rw [← hW0.out]; exact ((al w _).alloc (by simp) _).alloc (by simp; omega) _)
  have hta := hide (show QuaW W0 w.heap.size (.slice A n c) (.int .i64 d.now.step) (.slice A2 n2 c2) (.slice A3 n3 c3) by rw [← hW0.out]; exact ((QuaW.made w _ _ _ _ _).alloc _).alloc _)
  have htb := hide (show TriW W0 (w.heap.size + 1) (.int .i64 k) (.int .i64 a) (.int .i64 b) by
    have := (TriW.made (w.alloc (.cells #[.slice A n c, .int .i64 d.now.step, .slice A2 n2 c2, .slice A3 n3 c3] 34)) (.int .i64 k) (.int .i64 a) (.int .i64 b) 38).alloc (.cells #[.slice none 0 0, .int .i64 0, .slice none 0 0, .slice none 0 0] 34)
    rw [← hW0.out]
    simpa using this)
  have htc := hide (show QuaW W0 (w.heap.size + 1 + 1) (.slice none 0 0) (.int .i64 0) (.slice none 0 0) (.slice none 0 0) by
    have := QuaW.made ((w.alloc (.cells #[.slice A n c, .int .i64 d.now.step, .slice A2 n2 c2, .slice A3 n3 c3] 34)).alloc (.cells #[.int .i64 k, .int .i64 a, .int .i64 b] 38)) (.slice none 0 0) (.int .i64 0) (.slice none 0 0) (.slice none 0 0) 34
    rw [← hW0.out]
    simpa using this)
  have hdk := hide (show DkM W0 W0.heap.size (.agg #[.slice A n c, .int .i64 d.now.step, .slice A2 n2 c2, .slice A3 n3 c3]) d from (h.more hB).up hq0.out)
  have HO := hide (deskOk_spec _ d _ W0 hdk.out (Nat.le_refl _))
  have HF := hide (fun (w1 : World) (hq : Below W0.heap.size W0 w1) => show Below w.heap.size w w1 ∧ w.heap.size + 1 + 1 + 1 ≤ w1.heap.size ∧ DkM w1 w1.heap.size (.agg #[.slice A n c, .int .i64 d.now.step, .slice A2 n2 c2, .slice A3 n3 c3]) d ∧ QuaW w1 w.heap.size (.slice A n c) (.int .i64 d.now.step) (.slice A2 n2 c2) (.slice A3 n3 c3) ∧ TriW w1 (w.heap.size + 1) (.int .i64 k) (.int .i64 a) (.int .i64 b) ∧ QuaW w1 (w.heap.size + 1 + 1) (.slice none 0 0) (.int .i64 0) (.slice none 0 0) (.slice none 0 0) from
    ⟨upB hq0.out hq, by have := hq.size; have := hz.out; omega, hdk.out.up hq, hta.out.up hq, htb.out.up hq, htc.out.up hq⟩)
  have e0 := hW0.out
  subst e0
  clear hW0 htb htc hta h1 h2 hps hdk
  cases hok : deskOk d with
  | false =>
    have e1 := hide (deskB_no (a := ⟨k, a, b⟩) hok)
    have e2 := hide (deskX_no (a := ⟨k, a, b⟩) hok)
    rw [hok] at HO
    clear hok
    go_enter Tryd.func9, Tryd.ntmps9
    go_wp2_with fail
    refine HO.out.mono ?_
    rintro e w1 ⟨rfl, hq1⟩
    obtain ⟨hb, hlw, _, hA1, hB1, hC1⟩ := HF.out w1 hq1
    have hb := hide hb
    have hC1 := hide hC1
    obtain ⟨a0, a1, a2, a3, _⟩ := hA1
    obtain ⟨r0, r1, r2, r3, f0, f1, f2, f3, _⟩ := hC1.out
    clear hq1 HF
    go_wp2_with fail
    have hT := hide ((((hC1.out.set0 (.slice none 0 0)).set1 (.int .i64 0)).set2 (.slice none 0 0)).set3 (.slice none 0 0))
    obtain ⟨k0, k1, k2, k3, _⟩ := hT.out
    exact bodyPost_ret (v := .tuple #[.agg #[.slice none 0 0, .int .i64 0, .slice none 0 0, .slice none 0 0], .bool false]) (by simp [results, Tryd.results9, go_sem, k0, k1, k2, k3]) rfl ⟨_, by rw [e1.out], by rw [e2.out]; exact DkS.none_, (((hb.out.setCell (p := ⟨w.heap.size + 1 + 1, 0, none⟩) (by simp; omega) _).setCell (p := ⟨w.heap.size + 1 + 1, 1, none⟩) (by simp; omega) _).setCell (p := ⟨w.heap.size + 1 + 1, 2, none⟩) (by simp; omega) _).setCell (p := ⟨w.heap.size + 1 + 1, 3, none⟩) (by simp; omega) _⟩
  | true =>
    obtain ⟨hpo, hno, h8⟩ := deskOk_yes hok
    have HC := hide (fun (w1 : World) (hq : Below (((w.alloc (.cells #[.slice A n c, .int .i64 d.now.step, .slice A2 n2 c2, .slice A3 n3 c3] 34)).alloc (.cells #[.int .i64 k, .int .i64 a, .int .i64 b] 38)).alloc (.cells #[.slice none 0 0, .int .i64 0, .slice none 0 0, .slice none 0 0] 34)).heap.size (((w.alloc (.cells #[.slice A n c, .int .i64 d.now.step, .slice A2 n2 c2, .slice A3 n3 c3] 34)).alloc (.cells #[.int .i64 k, .int .i64 a, .int .i64 b] 38)).alloc (.cells #[.slice none 0 0, .int .i64 0, .slice none 0 0, .slice none 0 0] 34)) w1) => l15Copy_c _ d _ w1 (HF.out w1 hq).2.2.1 (Nat.le_refl _) hok)
    cases hbk : backB d ⟨k, a, b⟩ with
    | true =>
      have hbq : (k = 4 ∧ a = 0 ∧ b = 0) ∧ d.past ≠ [] := by
        unfold backB at hbk
        simp only [Bool.and_eq_true, decide_eq_true_eq] at hbk
        refine ⟨hbk.1, fun e => ?_⟩
        rw [e] at hbk
        exact absurd hbk.2 (by decide)
      obtain ⟨⟨rfl, rfl, rfl⟩, hne⟩ := hbq
      obtain ⟨L, hL⟩ : ∃ L, Hid (d.past.length = L + 1) := ⟨d.past.length - 1, hide (by have := List.length_pos_iff.2 hne; omega)⟩
      obtain ⟨p, hp⟩ : ∃ p, Hid (d.past[L]? = some p) := ⟨_, hide (List.getElem?_eq_getElem (by have := hL.out; omega))⟩
      have e1 := hide (show deskB d ⟨4, 0, 0⟩ = true by unfold deskB doneB; rw [hok, hbk]; rfl)
      have e2 := hide (show deskX d ⟨4, 0, 0⟩ = ⟨p, d.past.take L⟩ by
        unfold deskX deskD
        rw [if_pos hok, if_pos hbk, List.getLast?_eq_getElem?, hL.out, Nat.add_sub_cancel, hp.out, List.dropLast_eq_take, hL.out, Nat.add_sub_cancel]
        rfl)
      rw [hok] at HO
      clear hok hbk hpo hno hne
      go_enter Tryd.func9, Tryd.ntmps9
      go_wp2_with fail
      refine HO.out.mono ?_
      rintro e w1 ⟨rfl, hq1⟩
      obtain ⟨a0, a1, a2, a3, _⟩ := (HF.out w1 hq1).2.2.2.1
      have HCw := hide (HC.out w1 hq1)
      go_wp2_with fail
      refine HCw.out.mono ?_
      rintro e w2 ⟨A4, n4, c4, A5, n5, c5, A6, n6, c6, rfl, hpl2, hps2, hq2⟩
      obtain ⟨hb2, hlw, hdk2, hA2, hB2, hC2⟩ := HF.out w2 (upB hq1 hq2)
      have hl1 := hide (HF.out w1 hq1).2.1
      have hb2 := hide hb2
      have hdk2 := hide hdk2
      have hA2 := hide hA2
      have hB2 := hide hB2
      have hC2 := hide hC2
      have hpl2 := hide hpl2
      have hps2 := hide hps2
      have hw12 := hide hq2.size
      clear a0 a1 a2 a3 hq1 hq2 HF HC HO HCw
      have s0 := fun o => (hA2.out.alloc o).c0
      have s1 := fun o => (hA2.out.alloc o).c1
      have s2 := fun o => (hA2.out.alloc o).c2
      have s3 := fun o => (hA2.out.alloc o).c3
      have t0 := fun o => (hB2.out.alloc o).c0
      have t1 := fun o => (hB2.out.alloc o).c1
      have t2 := fun o => (hB2.out.alloc o).c2
      have r0 := fun o => (hC2.out.alloc o).c0
      have r1 := fun o => (hC2.out.alloc o).c1
      have r2 := fun o => (hC2.out.alloc o).c2
      have r3 := fun o => (hC2.out.alloc o).c3
      have f0 := fun o => (hC2.out.alloc o).f0
      have f1 := fun o => (hC2.out.alloc o).f1
      have f2 := fun o => (hC2.out.alloc o).f2
      have f3 := fun o => (hC2.out.alloc o).f3
      obtain ⟨g, B1, m1, j1, B2, m2, j2, rfl, hg1, hg2, hnc, hn6, y0, y1, y2, hpp⟩ := hps2.out.atZ hp.out
      have hnL : (n6 : Int) - 1 = (L : Int) := by have := hL.out; omega
      have hLn : L < n6 := by have := hL.out; omega
      have hn63 : n6 ≤ 8 := by omega
      replace hn6 := hide hn6
      have z0 : ∀ o, (w2.alloc o).cell? ⟨g, L * 3, none⟩ = some (.slice B1 m1 j1) := fun o => (World.cell?_alloc_lt w2 o ⟨g, L * 3, none⟩ hg2).trans y0
      have z1 : ∀ o, (w2.alloc o).cell? ⟨g, L * 3 + 1, none⟩ = some (.int .i64 p.step) := fun o => (World.cell?_alloc_lt w2 o ⟨g, L * 3 + 1, none⟩ hg2).trans y1
      have z2 : ∀ o, (w2.alloc o).cell? ⟨g, L * 3 + 2, none⟩ = some (.slice B2 m2 j2) := fun o => (World.cell?_alloc_lt w2 o ⟨g, L * 3 + 2, none⟩ hg2).trans y2
      have hpp := hide hpp
      have hpos : 0 < n6 := by omega
      have hpos3 : 0 < n3 := by have := hn3.out; have := hL.out; omega
      clear h8
      go_wp2_with fail
      have hRb : w.heap.size + 1 + 1 < w1.heap.size := by have := hl1.out; omega
      have hRl := hide (show w.heap.size ≤ w1.heap.size by omega)
      have hKf := hide (((((KP.refl.up (al w2 (.cells #[.slice B1 m1 j1, .int .i64 p.step, .slice B2 m2 j2, .slice (some ⟨g, 0, none⟩) L c6] 34))).low (a := ⟨w.heap.size + 1 + 1, 0, none⟩) hRb (.slice B1 m1 j1)).low (a := ⟨w.heap.size + 1 + 1, 1, none⟩) hRb (.int .i64 p.step)).low (a := ⟨w.heap.size + 1 + 1, 2, none⟩) hRb (.slice B2 m2 j2)).low (a := ⟨w.heap.size + 1 + 1, 3, none⟩) hRb (.slice (some ⟨g, 0, none⟩) L c6))
      have hBf := hide (((((hb2.out.alloc hb2.out.size (.cells #[.slice B1 m1 j1, .int .i64 p.step, .slice B2 m2 j2, .slice (some ⟨g, 0, none⟩) L c6] 34)).setCell (p := ⟨w.heap.size + 1 + 1, 0, none⟩) (by simp; omega) (.slice B1 m1 j1)).setCell (p := ⟨w.heap.size + 1 + 1, 1, none⟩) (by simp; omega) (.int .i64 p.step)).setCell (p := ⟨w.heap.size + 1 + 1, 2, none⟩) (by simp; omega) (.slice B2 m2 j2)).setCell (p := ⟨w.heap.size + 1 + 1, 3, none⟩) (by simp; omega) (.slice (some ⟨g, 0, none⟩) L c6))
      have hTf := hide (((((hC2.out.alloc (.cells #[.slice B1 m1 j1, .int .i64 p.step, .slice B2 m2 j2, .slice (some ⟨g, 0, none⟩) L c6] 34)).set0 (.slice B1 m1 j1)).set1 (.int .i64 p.step)).set2 (.slice B2 m2 j2)).set3 (.slice (some ⟨g, 0, none⟩) L c6))
      obtain ⟨k0, k1, k2, k3, _⟩ := hTf.out
      exact bodyPost_ret (v := .tuple #[.agg #[.slice B1 m1 j1, .int .i64 p.step, .slice B2 m2 j2, .slice (some ⟨g, 0, none⟩) L c6], .bool true]) (by simp [results, Tryd.results9, go_sem, k0, k1, k2, k3]) rfl ⟨_, by rw [e1.out], by rw [e2.out]; exact dkS_mk ((hKf.out.pl _ _ hpp.out.toY).down hRl.out) (.inl ((hKf.out.ps _ _ (hps2.out.cut hn6.out (Nat.le_of_lt hLn))).down hRl.out)), hBf.out⟩
    | false =>
      rw [hok] at HO
      obtain ⟨M, hM⟩ : ∃ M, Hid (madeP d.now ⟨k, a, b⟩ = M) := ⟨_, hide rfl⟩
      have hno := hide hno
      have hpo := hide hpo
      by_cases hk4 : k = 4
      · subst hk4
        have hpm : placeOk M = false := by
          rw [← hM.out, show madeP d.now ⟨4, a, b⟩ = noPlc by unfold madeP; simp]
          exact noPlc_no
        by_cases ha0 : a = 0
        · subst ha0
          by_cases hb0 : b = 0
          · subst hb0
            have hpe : d.past = [] := by
              unfold backB at hbk
              simpa using hbk
            obtain rfl : n3 = 0 := by rw [← hn3.out, hpe]; rfl
            replace hpe := hide hpe
            have e1 := hide (show deskB d ⟨4, 0, 0⟩ = false by unfold deskB doneB newB; rw [hM.out, hbk, hpm]; simp)
            have e2 := hide (show deskX d ⟨4, 0, 0⟩ = ⟨d.now, d.past⟩ from (deskX_not hok e1.out))
            have hok := hide hok
            clear hbk
            go_enter Tryd.func9, Tryd.ntmps9
            go_wp2_with fail
            refine HO.out.mono ?_
            rintro e w1 ⟨rfl, hq1⟩
            obtain ⟨a0, a1, a2, a3, _⟩ := (HF.out w1 hq1).2.2.2.1
            have HCw := hide (HC.out w1 hq1)
            go_wp2_with fail
            refine HCw.out.mono ?_
            rintro e w2 ⟨A4, n4, c4, A5, n5, c5, A6, n6, c6, rfl, hpl2, hps2, hq2⟩
            obtain ⟨hb2, hlw, hdk2, hA2, hB2, hC2⟩ := HF.out w2 (upB hq1 hq2)
            have hl1 := hide (HF.out w1 hq1).2.1
            have hb2 := hide hb2
            have hdk2 := hide hdk2
            have hA2 := hide hA2
            have hB2 := hide hB2
            have hC2 := hide hC2
            have hpl2 := hide hpl2
            have hps2 := hide hps2
            have hw12 := hide hq2.size
            clear a0 a1 a2 a3 hq1 hq2 HF HC HO HCw
            have s0 := fun o => (hA2.out.alloc o).c0
            have s1 := fun o => (hA2.out.alloc o).c1
            have s2 := fun o => (hA2.out.alloc o).c2
            have s3 := fun o => (hA2.out.alloc o).c3
            have t0 := fun o => (hB2.out.alloc o).c0
            have t1 := fun o => (hB2.out.alloc o).c1
            have t2 := fun o => (hB2.out.alloc o).c2
            have r0 := fun o => (hC2.out.alloc o).c0
            have r1 := fun o => (hC2.out.alloc o).c1
            have r2 := fun o => (hC2.out.alloc o).c2
            have r3 := fun o => (hC2.out.alloc o).c3
            have f0 := fun o => (hC2.out.alloc o).f0
            have f1 := fun o => (hC2.out.alloc o).f1
            have f2 := fun o => (hC2.out.alloc o).f2
            have f3 := fun o => (hC2.out.alloc o).f3
            have HMk := hide (l15Made_c _ d.now ⟨4, 0, 0⟩ _ (w2.alloc (.cells #[.slice A4 n4 c4, .int .i64 d.now.step, .slice A5 n5 c5, .slice A6 n6 c6] 34)) ((hdk2.out.now).up (al w2 (.cells #[.slice A4 n4 c4, .int .i64 d.now.step, .slice A5 n5 c5, .slice A6 n6 c6] 34))) (Nat.le_refl _) hno.out hwa hwb)
            rw [hM.out] at HMk
            clear h8
            go_wp2_with fail
            refine HMk.out.mono ?_
            rintro e w3 ⟨u, rfl, hpm3, hq3⟩
            obtain ⟨A7, n7, c7, A8, n8, c8, rfl, _⟩ := hpm3.ex
            have hpm3 := hide hpm3
            have hq23 := hide ((al w2 (.cells #[.slice A4 n4 c4, .int .i64 d.now.step, .slice A5 n5 c5, .slice A6 n6 c6] 34)).trans (hq3.mono (al w2 (.cells #[.slice A4 n4 c4, .int .i64 d.now.step, .slice A5 n5 c5, .slice A6 n6 c6] 34)).size))
            have hO3 := hide ((QuaW.made w2 (.slice A4 n4 c4) (.int .i64 d.now.step) (.slice A5 n5 c5) (.slice A6 n6 c6) 34).up hq3)
            have hob3 := hide ((hq3.block w2.heap.size (by simp)).trans (obj_made w2 (.cells #[.slice A4 n4 c4, .int .i64 d.now.step, .slice A5 n5 c5, .slice A6 n6 c6] 34)))
            have hdk3 := hide (hdk2.out.up hq23.out)
            have hA3 := hide (hA2.out.up hq23.out)
            have hC3 := hide (hC2.out.up hq23.out)
            have hb3 := hide (upB hb2.out hq23.out)
            have hMl := hide (TriW.made w3 (.slice A7 n7 c7) (.int .i64 M.step) (.slice A8 n8 c8) 31)
            have hX := hide (al w3 (.cells #[.slice A7 n7 c7, .int .i64 M.step, .slice A8 n8 c8] 31))
            have hA3M := hide (hA3.out.alloc (.cells #[.slice A7 n7 c7, .int .i64 M.step, .slice A8 n8 c8] 31))
            have HPO := hide (fun (W : World) (hq : Below (w3.alloc (.cells #[.slice A7 n7 c7, .int .i64 M.step, .slice A8 n8 c8] 31)).heap.size (w3.alloc (.cells #[.slice A7 n7 c7, .int .i64 M.step, .slice A8 n8 c8] 31)) W) => show Calls Tryd.prog 41 #[.agg #[.slice A7 n7 c7, .int .i64 M.step, .slice A8 n8 c8]] W (fun e w' => e = .returned (.bool (placeOk M)) ∧ Hid (Below (w3.alloc (.cells #[.slice A7 n7 c7, .int .i64 M.step, .slice A8 n8 c8] 31)).heap.size (w3.alloc (.cells #[.slice A7 n7 c7, .int .i64 M.step, .slice A8 n8 c8] 31)) w') ∧ w'.cell? ⟨w3.heap.size, 0, none⟩ = some (.slice A7 n7 c7) ∧ w'.cell? ⟨w3.heap.size, 1, none⟩ = some (.int .i64 M.step) ∧ w'.cell? ⟨w3.heap.size, 2, none⟩ = some (.slice A8 n8 c8) ∧ w'.cell? ⟨w.heap.size, 0, none⟩ = some (.slice A n c) ∧ w'.cell? ⟨w.heap.size, 1, none⟩ = some (.int .i64 d.now.step) ∧ w'.cell? ⟨w.heap.size, 2, none⟩ = some (.slice A2 n2 c2)) from
              (placeOk_spec _ M _ W (((hpm3.out.plM).up hX.out).up hq) (Nat.le_refl _)).mono fun e w' ⟨e1, hb⟩ => ⟨e1, upB hq hb, ((hMl.out.up (upB hq hb))).c0, ((hMl.out.up (upB hq hb))).c1, ((hMl.out.up (upB hq hb))).c2, ((hA3M.out.up (upB hq hb))).c0, ((hA3M.out.up (upB hq hb))).c1, ((hA3M.out.up (upB hq hb))).c2⟩)
            obtain ⟨y0, y1, y2, _⟩ := hMl.out
            obtain ⟨x0, x1, x2, _⟩ := hA3M.out
            clear hq3 s0 s1 s2 s3 t0 t1 t2 r0 r1 r2 r3 f0 f1 f2 f3 hdk2 hA2 hB2 hC2 HMk
            go_wp2_with fail
            refine wp_region_any (by kernel_rfl) ?_
            try (change wpAny _ _ _ _ _ _ _ (World.drew _))
            refine wpAny_ready (rs := [0]) (by kernel_rfl) (by simp) ?_
            refine AllReady.cons rfl (fun K hK => ?_) AllReady.nil
            go_simp
            refine hK _ _ ?_
            clear hK K
            try simp only [Act.put, List.getElem_toArray, List.getElem_cons_succ, List.getElem_cons_zero, List.setIfInBounds_toArray, List.set_cons_zero, List.set_cons_succ]
            refine wpAny_ready (rs := [1]) (by kernel_rfl) (by simp) ?_
            refine AllReady.cons rfl (fun K hK => ?_) AllReady.nil
            go_simp
            go_wp2_with (go_at_call 41; (with_reducible refine (HPO.out _ ?_).mono ?_); (focus (repeat (first | assumption | exact Below.refl _ _ | refine Below.drew ?_)); done); rintro e w4 ⟨rfl, hq4, z0, z1, z2, z3, z4, z5⟩)
            try simp only [Act.put, List.getElem_toArray, List.getElem_cons_succ, List.getElem_cons_zero, List.setIfInBounds_toArray, List.set_cons_zero, List.set_cons_succ]
            refine wpAny_take (i := 2) (v := ?_) rfl (by kernel_rfl) (by kernel_rfl) (by kernel_rfl) (fun _ _ _ h => h) (Or.inl ⟨by rfl, ?y2⟩) ?_
            case y2 => (intro w; go_simp <;> with_reducible rfl)
            try simp only [Act.put, List.getElem_toArray, List.getElem_cons_succ, List.getElem_cons_zero, List.setIfInBounds_toArray, List.set_cons_zero, List.set_cons_succ]
            refine wpAny_take (i := 3) (v := ?_) rfl (by kernel_rfl) (by kernel_rfl) (by kernel_rfl) (fun _ _ _ h => h) (Or.inl ⟨by rfl, ?y3⟩) ?_
            case y3 => (intro w; go_simp <;> with_reducible rfl)
            try simp only [Act.put, List.getElem_toArray, List.getElem_cons_succ, List.getElem_cons_zero, List.setIfInBounds_toArray, List.set_cons_zero, List.set_cons_succ]
            refine wpAny_take (i := 4) (v := undef) rfl (by kernel_rfl) (by kernel_rfl) (by kernel_rfl) (fun _ _ _ h => h) (Or.inr ⟨by rfl, rfl⟩) ?_
            try simp only [Act.put, List.getElem_toArray, List.getElem_cons_succ, List.getElem_cons_zero, List.setIfInBounds_toArray, List.set_cons_zero, List.set_cons_succ]
            refine wpAny_take (i := 6) (v := undef) rfl (by kernel_rfl) (by kernel_rfl) (by kernel_rfl) (fun _ _ _ h => h) (Or.inr ⟨by rfl, rfl⟩) ?_
            try simp only [Act.put, List.getElem_toArray, List.getElem_cons_succ, List.getElem_cons_zero, List.setIfInBounds_toArray, List.set_cons_zero, List.set_cons_succ]
            refine wpAny_take (i := 7) (v := undef) rfl (by kernel_rfl) (by kernel_rfl) (by kernel_rfl) (fun _ _ _ h => h) (Or.inr ⟨by rfl, rfl⟩) ?_
            try simp only [Act.put, List.getElem_toArray, List.getElem_cons_succ, List.getElem_cons_zero, List.setIfInBounds_toArray, List.set_cons_zero, List.set_cons_succ]
            refine wpAny_ready (rs := [5]) (by kernel_rfl) (by simp) ?_
            refine AllReady.cons rfl (fun K hK => ?_) AllReady.nil
            go_simp
            refine hK _ _ ?_
            clear hK K
            try simp only [Act.put, List.getElem_toArray, List.getElem_cons_succ, List.getElem_cons_zero, List.setIfInBounds_toArray, List.set_cons_zero, List.set_cons_succ]
            refine wpAny_ready (rs := [8]) (by kernel_rfl) (by simp) ?_
            refine AllReady.cons rfl (fun K hK => ?_) AllReady.nil
            go_simp
            refine hK _ _ ?_
            clear hK K
            try simp only [Act.put, List.getElem_toArray, List.getElem_cons_succ, List.getElem_cons_zero, List.setIfInBounds_toArray, List.set_cons_zero, List.set_cons_succ]
            refine wpAny_take (i := 9) (v := undef) rfl (by kernel_rfl) (by kernel_rfl) (by kernel_rfl) (fun _ _ _ h => h) (Or.inr ⟨by rfl, rfl⟩) ?_
            try simp only [Act.put, List.getElem_toArray, List.getElem_cons_succ, List.getElem_cons_zero, List.setIfInBounds_toArray, List.set_cons_zero, List.set_cons_succ]
            refine wpAny_take (i := 10) (v := ?_) rfl (by kernel_rfl) (by kernel_rfl) (by kernel_rfl) (fun _ _ _ h => h) (Or.inl ⟨by rfl, ?y10⟩) ?_
            case y10 => (intro w; go_simp <;> with_reducible rfl)
            try simp only [Act.put, List.getElem_toArray, List.getElem_cons_succ, List.getElem_cons_zero, List.setIfInBounds_toArray, List.set_cons_zero, List.set_cons_succ]
            refine wpAny_done (by kernel_rfl) ?_ _
            have hq34 := hide (upB hX.out hq4.out)
            have hq24 := hide (upB hq23.out hq34.out)
            have hC4 := hide (hC3.out.up hq34.out)
            have hb4 := hide (upB hb3.out hq34.out)
            have hO4 := hide (hO3.out.up hq34.out)
            obtain ⟨a0, a1, a2, a3, g0, g1, g2, g3, _⟩ := hO4.out
            obtain ⟨r0, r1, r2, r3, f0, f1, f2, f3, _⟩ := hC4.out
            clear hq4 hq34 hO4 hO3 hdk3 hA3 hA3M hMl hX HPO
            go_wp2_with fail
            have hRb : w.heap.size + 1 + 1 < w1.heap.size := by have := hl1.out; omega
            have hRl := hide (show w.heap.size ≤ w1.heap.size by omega)
            have hKf := hide (((((KP.refl.up hq24.out).low (a := ⟨w.heap.size + 1 + 1, 0, none⟩) hRb (.slice A4 n4 c4)).low (a := ⟨w.heap.size + 1 + 1, 1, none⟩) hRb (.int .i64 d.now.step)).low (a := ⟨w.heap.size + 1 + 1, 2, none⟩) hRb (.slice A5 n5 c5)).low (a := ⟨w.heap.size + 1 + 1, 3, none⟩) hRb (.slice A6 n6 c6))
            have hBf := hide (((((hb4.out).setCell (p := ⟨w.heap.size + 1 + 1, 0, none⟩) (by simp; omega) (.slice A4 n4 c4)).setCell (p := ⟨w.heap.size + 1 + 1, 1, none⟩) (by simp; omega) (.int .i64 d.now.step)).setCell (p := ⟨w.heap.size + 1 + 1, 2, none⟩) (by simp; omega) (.slice A5 n5 c5)).setCell (p := ⟨w.heap.size + 1 + 1, 3, none⟩) (by simp; omega) (.slice A6 n6 c6))
            have hTf := hide (((((hC4.out).set0 (.slice A4 n4 c4)).set1 (.int .i64 d.now.step)).set2 (.slice A5 n5 c5)).set3 (.slice A6 n6 c6))
            obtain ⟨k0, k1, k2, k3, _⟩ := hTf.out
            exact bodyPost_ret (v := .tuple #[.agg #[.slice A4 n4 c4, .int .i64 d.now.step, .slice A5 n5 c5, .slice A6 n6 c6], .bool false]) (by simp [results, Tryd.results9, go_sem, k0, k1, k2, k3]) rfl ⟨_, by rw [e1.out], by rw [e2.out]; exact dkS_mk ((hKf.out.pl _ _ hpl2.out.toY).down hRl.out) (.inl ((hKf.out.ps _ _ hps2.out).down hRl.out)), hBf.out⟩
          · have hb0b : (b == 0) = false := by simpa using hb0
            replace hb0 := hide hb0
            have e1 := hide (show deskB d ⟨4, 0, b⟩ = false by unfold deskB doneB newB; rw [hM.out, hbk, hpm]; simp)
            have e2 := hide (show deskX d ⟨4, 0, b⟩ = ⟨d.now, d.past⟩ from (deskX_not hok e1.out))
            have hok := hide hok
            clear hbk
            go_enter Tryd.func9, Tryd.ntmps9
            go_wp2_with fail
            refine HO.out.mono ?_
            rintro e w1 ⟨rfl, hq1⟩
            obtain ⟨a0, a1, a2, a3, _⟩ := (HF.out w1 hq1).2.2.2.1
            have HCw := hide (HC.out w1 hq1)
            go_wp2_with fail
            refine HCw.out.mono ?_
            rintro e w2 ⟨A4, n4, c4, A5, n5, c5, A6, n6, c6, rfl, hpl2, hps2, hq2⟩
            obtain ⟨hb2, hlw, hdk2, hA2, hB2, hC2⟩ := HF.out w2 (upB hq1 hq2)
            have hl1 := hide (HF.out w1 hq1).2.1
            have hb2 := hide hb2
            have hdk2 := hide hdk2
            have hA2 := hide hA2
            have hB2 := hide hB2
            have hC2 := hide hC2
            have hpl2 := hide hpl2
            have hps2 := hide hps2
            have hw12 := hide hq2.size
            clear a0 a1 a2 a3 hq1 hq2 HF HC HO HCw
            have s0 := fun o => (hA2.out.alloc o).c0
            have s1 := fun o => (hA2.out.alloc o).c1
            have s2 := fun o => (hA2.out.alloc o).c2
            have s3 := fun o => (hA2.out.alloc o).c3
            have t0 := fun o => (hB2.out.alloc o).c0
            have t1 := fun o => (hB2.out.alloc o).c1
            have t2 := fun o => (hB2.out.alloc o).c2
            have r0 := fun o => (hC2.out.alloc o).c0
            have r1 := fun o => (hC2.out.alloc o).c1
            have r2 := fun o => (hC2.out.alloc o).c2
            have r3 := fun o => (hC2.out.alloc o).c3
            have f0 := fun o => (hC2.out.alloc o).f0
            have f1 := fun o => (hC2.out.alloc o).f1
            have f2 := fun o => (hC2.out.alloc o).f2
            have f3 := fun o => (hC2.out.alloc o).f3
            have HMk := hide (l15Made_c _ d.now ⟨4, 0, b⟩ _ (w2.alloc (.cells #[.slice A4 n4 c4, .int .i64 d.now.step, .slice A5 n5 c5, .slice A6 n6 c6] 34)) ((hdk2.out.now).up (al w2 (.cells #[.slice A4 n4 c4, .int .i64 d.now.step, .slice A5 n5 c5, .slice A6 n6 c6] 34))) (Nat.le_refl _) hno.out hwa hwb)
            rw [hM.out] at HMk
            clear h8
            go_wp2_with fail
            refine HMk.out.mono ?_
            rintro e w3 ⟨u, rfl, hpm3, hq3⟩
            obtain ⟨A7, n7, c7, A8, n8, c8, rfl, _⟩ := hpm3.ex
            have hpm3 := hide hpm3
            have hq23 := hide ((al w2 (.cells #[.slice A4 n4 c4, .int .i64 d.now.step, .slice A5 n5 c5, .slice A6 n6 c6] 34)).trans (hq3.mono (al w2 (.cells #[.slice A4 n4 c4, .int .i64 d.now.step, .slice A5 n5 c5, .slice A6 n6 c6] 34)).size))
            have hO3 := hide ((QuaW.made w2 (.slice A4 n4 c4) (.int .i64 d.now.step) (.slice A5 n5 c5) (.slice A6 n6 c6) 34).up hq3)
            have hob3 := hide ((hq3.block w2.heap.size (by simp)).trans (obj_made w2 (.cells #[.slice A4 n4 c4, .int .i64 d.now.step, .slice A5 n5 c5, .slice A6 n6 c6] 34)))
            have hdk3 := hide (hdk2.out.up hq23.out)
            have hA3 := hide (hA2.out.up hq23.out)
            have hC3 := hide (hC2.out.up hq23.out)
            have hb3 := hide (upB hb2.out hq23.out)
            have hMl := hide (TriW.made w3 (.slice A7 n7 c7) (.int .i64 M.step) (.slice A8 n8 c8) 31)
            have hX := hide (al w3 (.cells #[.slice A7 n7 c7, .int .i64 M.step, .slice A8 n8 c8] 31))
            have hA3M := hide (hA3.out.alloc (.cells #[.slice A7 n7 c7, .int .i64 M.step, .slice A8 n8 c8] 31))
            have HPO := hide (fun (W : World) (hq : Below (w3.alloc (.cells #[.slice A7 n7 c7, .int .i64 M.step, .slice A8 n8 c8] 31)).heap.size (w3.alloc (.cells #[.slice A7 n7 c7, .int .i64 M.step, .slice A8 n8 c8] 31)) W) => show Calls Tryd.prog 41 #[.agg #[.slice A7 n7 c7, .int .i64 M.step, .slice A8 n8 c8]] W (fun e w' => e = .returned (.bool (placeOk M)) ∧ Hid (Below (w3.alloc (.cells #[.slice A7 n7 c7, .int .i64 M.step, .slice A8 n8 c8] 31)).heap.size (w3.alloc (.cells #[.slice A7 n7 c7, .int .i64 M.step, .slice A8 n8 c8] 31)) w') ∧ w'.cell? ⟨w3.heap.size, 0, none⟩ = some (.slice A7 n7 c7) ∧ w'.cell? ⟨w3.heap.size, 1, none⟩ = some (.int .i64 M.step) ∧ w'.cell? ⟨w3.heap.size, 2, none⟩ = some (.slice A8 n8 c8) ∧ w'.cell? ⟨w.heap.size, 0, none⟩ = some (.slice A n c) ∧ w'.cell? ⟨w.heap.size, 1, none⟩ = some (.int .i64 d.now.step) ∧ w'.cell? ⟨w.heap.size, 2, none⟩ = some (.slice A2 n2 c2)) from
              (placeOk_spec _ M _ W (((hpm3.out.plM).up hX.out).up hq) (Nat.le_refl _)).mono fun e w' ⟨e1, hb⟩ => ⟨e1, upB hq hb, ((hMl.out.up (upB hq hb))).c0, ((hMl.out.up (upB hq hb))).c1, ((hMl.out.up (upB hq hb))).c2, ((hA3M.out.up (upB hq hb))).c0, ((hA3M.out.up (upB hq hb))).c1, ((hA3M.out.up (upB hq hb))).c2⟩)
            obtain ⟨y0, y1, y2, _⟩ := hMl.out
            obtain ⟨x0, x1, x2, _⟩ := hA3M.out
            clear hq3 s0 s1 s2 s3 t0 t1 t2 r0 r1 r2 r3 f0 f1 f2 f3 hdk2 hA2 hB2 hC2 HMk
            go_wp2_with fail
            refine wp_region_any (by kernel_rfl) ?_
            try (change wpAny _ _ _ _ _ _ _ (World.drew _))
            refine wpAny_ready (rs := [0]) (by kernel_rfl) (by simp) ?_
            refine AllReady.cons rfl (fun K hK => ?_) AllReady.nil
            go_simp
            refine hK _ _ ?_
            clear hK K
            try simp only [Act.put, List.getElem_toArray, List.getElem_cons_succ, List.getElem_cons_zero, List.setIfInBounds_toArray, List.set_cons_zero, List.set_cons_succ]
            refine wpAny_ready (rs := [1]) (by kernel_rfl) (by simp) ?_
            refine AllReady.cons rfl (fun K hK => ?_) AllReady.nil
            go_simp
            go_wp2_with (go_at_call 41; (with_reducible refine (HPO.out _ ?_).mono ?_); (focus (repeat (first | assumption | exact Below.refl _ _ | refine Below.drew ?_)); done); rintro e w4 ⟨rfl, hq4, z0, z1, z2, z3, z4, z5⟩)
            try simp only [Act.put, List.getElem_toArray, List.getElem_cons_succ, List.getElem_cons_zero, List.setIfInBounds_toArray, List.set_cons_zero, List.set_cons_succ]
            refine wpAny_take (i := 2) (v := ?_) rfl (by kernel_rfl) (by kernel_rfl) (by kernel_rfl) (fun _ _ _ h => h) (Or.inl ⟨by rfl, ?y2⟩) ?_
            case y2 => (intro w; go_simp <;> with_reducible rfl)
            try simp only [Act.put, List.getElem_toArray, List.getElem_cons_succ, List.getElem_cons_zero, List.setIfInBounds_toArray, List.set_cons_zero, List.set_cons_succ]
            refine wpAny_take (i := 3) (v := ?_) rfl (by kernel_rfl) (by kernel_rfl) (by kernel_rfl) (fun _ _ _ h => h) (Or.inl ⟨by rfl, ?y3⟩) ?_
            case y3 => (intro w; go_simp <;> with_reducible rfl)
            try simp only [Act.put, List.getElem_toArray, List.getElem_cons_succ, List.getElem_cons_zero, List.setIfInBounds_toArray, List.set_cons_zero, List.set_cons_succ]
            refine wpAny_take (i := 4) (v := undef) rfl (by kernel_rfl) (by kernel_rfl) (by kernel_rfl) (fun _ _ _ h => h) (Or.inr ⟨by rfl, rfl⟩) ?_
            try simp only [Act.put, List.getElem_toArray, List.getElem_cons_succ, List.getElem_cons_zero, List.setIfInBounds_toArray, List.set_cons_zero, List.set_cons_succ]
            refine wpAny_take (i := 6) (v := undef) rfl (by kernel_rfl) (by kernel_rfl) (by kernel_rfl) (fun _ _ _ h => h) (Or.inr ⟨by rfl, rfl⟩) ?_
            try simp only [Act.put, List.getElem_toArray, List.getElem_cons_succ, List.getElem_cons_zero, List.setIfInBounds_toArray, List.set_cons_zero, List.set_cons_succ]
            refine wpAny_take (i := 7) (v := undef) rfl (by kernel_rfl) (by kernel_rfl) (by kernel_rfl) (fun _ _ _ h => h) (Or.inr ⟨by rfl, rfl⟩) ?_
            try simp only [Act.put, List.getElem_toArray, List.getElem_cons_succ, List.getElem_cons_zero, List.setIfInBounds_toArray, List.set_cons_zero, List.set_cons_succ]
            refine wpAny_ready (rs := [5]) (by kernel_rfl) (by simp) ?_
            refine AllReady.cons rfl (fun K hK => ?_) AllReady.nil
            go_simp
            refine hK _ _ ?_
            clear hK K
            try simp only [Act.put, List.getElem_toArray, List.getElem_cons_succ, List.getElem_cons_zero, List.setIfInBounds_toArray, List.set_cons_zero, List.set_cons_succ]
            refine wpAny_ready (rs := [8]) (by kernel_rfl) (by simp) ?_
            refine AllReady.cons rfl (fun K hK => ?_) AllReady.nil
            go_simp
            refine hK _ _ ?_
            clear hK K
            try simp only [Act.put, List.getElem_toArray, List.getElem_cons_succ, List.getElem_cons_zero, List.setIfInBounds_toArray, List.set_cons_zero, List.set_cons_succ]
            refine wpAny_take (i := 9) (v := undef) rfl (by kernel_rfl) (by kernel_rfl) (by kernel_rfl) (fun _ _ _ h => h) (Or.inr ⟨by rfl, rfl⟩) ?_
            try simp only [Act.put, List.getElem_toArray, List.getElem_cons_succ, List.getElem_cons_zero, List.setIfInBounds_toArray, List.set_cons_zero, List.set_cons_succ]
            refine wpAny_take (i := 10) (v := ?_) rfl (by kernel_rfl) (by kernel_rfl) (by kernel_rfl) (fun _ _ _ h => h) (Or.inl ⟨by rfl, ?y10⟩) ?_
            case y10 => (intro w; go_simp <;> with_reducible rfl)
            try simp only [Act.put, List.getElem_toArray, List.getElem_cons_succ, List.getElem_cons_zero, List.setIfInBounds_toArray, List.set_cons_zero, List.set_cons_succ]
            refine wpAny_done (by kernel_rfl) ?_ _
            have hq34 := hide (upB hX.out hq4.out)
            have hq24 := hide (upB hq23.out hq34.out)
            have hC4 := hide (hC3.out.up hq34.out)
            have hb4 := hide (upB hb3.out hq34.out)
            have hO4 := hide (hO3.out.up hq34.out)
            obtain ⟨a0, a1, a2, a3, g0, g1, g2, g3, _⟩ := hO4.out
            obtain ⟨r0, r1, r2, r3, f0, f1, f2, f3, _⟩ := hC4.out
            clear hq4 hq34 hO4 hO3 hdk3 hA3 hA3M hMl hX HPO
            go_wp2_with fail
            have hRb : w.heap.size + 1 + 1 < w1.heap.size := by have := hl1.out; omega
            have hRl := hide (show w.heap.size ≤ w1.heap.size by omega)
            have hKf := hide (((((KP.refl.up hq24.out).low (a := ⟨w.heap.size + 1 + 1, 0, none⟩) hRb (.slice A4 n4 c4)).low (a := ⟨w.heap.size + 1 + 1, 1, none⟩) hRb (.int .i64 d.now.step)).low (a := ⟨w.heap.size + 1 + 1, 2, none⟩) hRb (.slice A5 n5 c5)).low (a := ⟨w.heap.size + 1 + 1, 3, none⟩) hRb (.slice A6 n6 c6))
            have hBf := hide (((((hb4.out).setCell (p := ⟨w.heap.size + 1 + 1, 0, none⟩) (by simp; omega) (.slice A4 n4 c4)).setCell (p := ⟨w.heap.size + 1 + 1, 1, none⟩) (by simp; omega) (.int .i64 d.now.step)).setCell (p := ⟨w.heap.size + 1 + 1, 2, none⟩) (by simp; omega) (.slice A5 n5 c5)).setCell (p := ⟨w.heap.size + 1 + 1, 3, none⟩) (by simp; omega) (.slice A6 n6 c6))
            have hTf := hide (((((hC4.out).set0 (.slice A4 n4 c4)).set1 (.int .i64 d.now.step)).set2 (.slice A5 n5 c5)).set3 (.slice A6 n6 c6))
            obtain ⟨k0, k1, k2, k3, _⟩ := hTf.out
            exact bodyPost_ret (v := .tuple #[.agg #[.slice A4 n4 c4, .int .i64 d.now.step, .slice A5 n5 c5, .slice A6 n6 c6], .bool false]) (by simp [results, Tryd.results9, go_sem, k0, k1, k2, k3]) rfl ⟨_, by rw [e1.out], by rw [e2.out]; exact dkS_mk ((hKf.out.pl _ _ hpl2.out.toY).down hRl.out) (.inl ((hKf.out.ps _ _ hps2.out).down hRl.out)), hBf.out⟩
        · have ha0b : (a == 0) = false := by simpa using ha0
          replace ha0 := hide ha0
          have e1 := hide (show deskB d ⟨4, a, b⟩ = false by unfold deskB doneB newB; rw [hM.out, hbk, hpm]; simp)
          have e2 := hide (show deskX d ⟨4, a, b⟩ = ⟨d.now, d.past⟩ from (deskX_not hok e1.out))
          have hok := hide hok
          clear hbk
          go_enter Tryd.func9, Tryd.ntmps9
          go_wp2_with fail
          refine HO.out.mono ?_
          rintro e w1 ⟨rfl, hq1⟩
          obtain ⟨a0, a1, a2, a3, _⟩ := (HF.out w1 hq1).2.2.2.1
          have HCw := hide (HC.out w1 hq1)
          go_wp2_with fail
          refine HCw.out.mono ?_
          rintro e w2 ⟨A4, n4, c4, A5, n5, c5, A6, n6, c6, rfl, hpl2, hps2, hq2⟩
          obtain ⟨hb2, hlw, hdk2, hA2, hB2, hC2⟩ := HF.out w2 (upB hq1 hq2)
          have hl1 := hide (HF.out w1 hq1).2.1
          have hb2 := hide hb2
          have hdk2 := hide hdk2
          have hA2 := hide hA2
          have hB2 := hide hB2
          have hC2 := hide hC2
          have hpl2 := hide hpl2
          have hps2 := hide hps2
          have hw12 := hide hq2.size
          clear a0 a1 a2 a3 hq1 hq2 HF HC HO HCw
          have s0 := fun o => (hA2.out.alloc o).c0
          have s1 := fun o => (hA2.out.alloc o).c1
          have s2 := fun o => (hA2.out.alloc o).c2
          have s3 := fun o => (hA2.out.alloc o).c3
          have t0 := fun o => (hB2.out.alloc o).c0
          have t1 := fun o => (hB2.out.alloc o).c1
          have t2 := fun o => (hB2.out.alloc o).c2
          have r0 := fun o => (hC2.out.alloc o).c0
          have r1 := fun o => (hC2.out.alloc o).c1
          have r2 := fun o => (hC2.out.alloc o).c2
          have r3 := fun o => (hC2.out.alloc o).c3
          have f0 := fun o => (hC2.out.alloc o).f0
          have f1 := fun o => (hC2.out.alloc o).f1
          have f2 := fun o => (hC2.out.alloc o).f2
          have f3 := fun o => (hC2.out.alloc o).f3
          have HMk := hide (l15Made_c _ d.now ⟨4, a, b⟩ _ (w2.alloc (.cells #[.slice A4 n4 c4, .int .i64 d.now.step, .slice A5 n5 c5, .slice A6 n6 c6] 34)) ((hdk2.out.now).up (al w2 (.cells #[.slice A4 n4 c4, .int .i64 d.now.step, .slice A5 n5 c5, .slice A6 n6 c6] 34))) (Nat.le_refl _) hno.out hwa hwb)
          rw [hM.out] at HMk
          clear h8
          go_wp2_with fail
          refine HMk.out.mono ?_
          rintro e w3 ⟨u, rfl, hpm3, hq3⟩
          obtain ⟨A7, n7, c7, A8, n8, c8, rfl, _⟩ := hpm3.ex
          have hpm3 := hide hpm3
          have hq23 := hide ((al w2 (.cells #[.slice A4 n4 c4, .int .i64 d.now.step, .slice A5 n5 c5, .slice A6 n6 c6] 34)).trans (hq3.mono (al w2 (.cells #[.slice A4 n4 c4, .int .i64 d.now.step, .slice A5 n5 c5, .slice A6 n6 c6] 34)).size))
          have hO3 := hide ((QuaW.made w2 (.slice A4 n4 c4) (.int .i64 d.now.step) (.slice A5 n5 c5) (.slice A6 n6 c6) 34).up hq3)
          have hob3 := hide ((hq3.block w2.heap.size (by simp)).trans (obj_made w2 (.cells #[.slice A4 n4 c4, .int .i64 d.now.step, .slice A5 n5 c5, .slice A6 n6 c6] 34)))
          have hdk3 := hide (hdk2.out.up hq23.out)
          have hA3 := hide (hA2.out.up hq23.out)
          have hC3 := hide (hC2.out.up hq23.out)
          have hb3 := hide (upB hb2.out hq23.out)
          have hMl := hide (TriW.made w3 (.slice A7 n7 c7) (.int .i64 M.step) (.slice A8 n8 c8) 31)
          have hX := hide (al w3 (.cells #[.slice A7 n7 c7, .int .i64 M.step, .slice A8 n8 c8] 31))
          have hA3M := hide (hA3.out.alloc (.cells #[.slice A7 n7 c7, .int .i64 M.step, .slice A8 n8 c8] 31))
          have HPO := hide (fun (W : World) (hq : Below (w3.alloc (.cells #[.slice A7 n7 c7, .int .i64 M.step, .slice A8 n8 c8] 31)).heap.size (w3.alloc (.cells #[.slice A7 n7 c7, .int .i64 M.step, .slice A8 n8 c8] 31)) W) => show Calls Tryd.prog 41 #[.agg #[.slice A7 n7 c7, .int .i64 M.step, .slice A8 n8 c8]] W (fun e w' => e = .returned (.bool (placeOk M)) ∧ Hid (Below (w3.alloc (.cells #[.slice A7 n7 c7, .int .i64 M.step, .slice A8 n8 c8] 31)).heap.size (w3.alloc (.cells #[.slice A7 n7 c7, .int .i64 M.step, .slice A8 n8 c8] 31)) w') ∧ w'.cell? ⟨w3.heap.size, 0, none⟩ = some (.slice A7 n7 c7) ∧ w'.cell? ⟨w3.heap.size, 1, none⟩ = some (.int .i64 M.step) ∧ w'.cell? ⟨w3.heap.size, 2, none⟩ = some (.slice A8 n8 c8) ∧ w'.cell? ⟨w.heap.size, 0, none⟩ = some (.slice A n c) ∧ w'.cell? ⟨w.heap.size, 1, none⟩ = some (.int .i64 d.now.step) ∧ w'.cell? ⟨w.heap.size, 2, none⟩ = some (.slice A2 n2 c2)) from
            (placeOk_spec _ M _ W (((hpm3.out.plM).up hX.out).up hq) (Nat.le_refl _)).mono fun e w' ⟨e1, hb⟩ => ⟨e1, upB hq hb, ((hMl.out.up (upB hq hb))).c0, ((hMl.out.up (upB hq hb))).c1, ((hMl.out.up (upB hq hb))).c2, ((hA3M.out.up (upB hq hb))).c0, ((hA3M.out.up (upB hq hb))).c1, ((hA3M.out.up (upB hq hb))).c2⟩)
          obtain ⟨y0, y1, y2, _⟩ := hMl.out
          obtain ⟨x0, x1, x2, _⟩ := hA3M.out
          clear hq3 s0 s1 s2 s3 t0 t1 t2 r0 r1 r2 r3 f0 f1 f2 f3 hdk2 hA2 hB2 hC2 HMk
          go_wp2_with fail
          refine wp_region_any (by kernel_rfl) ?_
          try (change wpAny _ _ _ _ _ _ _ (World.drew _))
          refine wpAny_ready (rs := [0]) (by kernel_rfl) (by simp) ?_
          refine AllReady.cons rfl (fun K hK => ?_) AllReady.nil
          go_simp
          refine hK _ _ ?_
          clear hK K
          try simp only [Act.put, List.getElem_toArray, List.getElem_cons_succ, List.getElem_cons_zero, List.setIfInBounds_toArray, List.set_cons_zero, List.set_cons_succ]
          refine wpAny_ready (rs := [1]) (by kernel_rfl) (by simp) ?_
          refine AllReady.cons rfl (fun K hK => ?_) AllReady.nil
          go_simp
          go_wp2_with (go_at_call 41; (with_reducible refine (HPO.out _ ?_).mono ?_); (focus (repeat (first | assumption | exact Below.refl _ _ | refine Below.drew ?_)); done); rintro e w4 ⟨rfl, hq4, z0, z1, z2, z3, z4, z5⟩)
          try simp only [Act.put, List.getElem_toArray, List.getElem_cons_succ, List.getElem_cons_zero, List.setIfInBounds_toArray, List.set_cons_zero, List.set_cons_succ]
          refine wpAny_take (i := 2) (v := ?_) rfl (by kernel_rfl) (by kernel_rfl) (by kernel_rfl) (fun _ _ _ h => h) (Or.inl ⟨by rfl, ?y2⟩) ?_
          case y2 => (intro w; go_simp <;> with_reducible rfl)
          try simp only [Act.put, List.getElem_toArray, List.getElem_cons_succ, List.getElem_cons_zero, List.setIfInBounds_toArray, List.set_cons_zero, List.set_cons_succ]
          refine wpAny_take (i := 3) (v := ?_) rfl (by kernel_rfl) (by kernel_rfl) (by kernel_rfl) (fun _ _ _ h => h) (Or.inl ⟨by rfl, ?y3⟩) ?_
          case y3 => (intro w; go_simp <;> with_reducible rfl)
          try simp only [Act.put, List.getElem_toArray, List.getElem_cons_succ, List.getElem_cons_zero, List.setIfInBounds_toArray, List.set_cons_zero, List.set_cons_succ]
          refine wpAny_take (i := 4) (v := undef) rfl (by kernel_rfl) (by kernel_rfl) (by kernel_rfl) (fun _ _ _ h => h) (Or.inr ⟨by rfl, rfl⟩) ?_
          try simp only [Act.put, List.getElem_toArray, List.getElem_cons_succ, List.getElem_cons_zero, List.setIfInBounds_toArray, List.set_cons_zero, List.set_cons_succ]
          refine wpAny_take (i := 6) (v := undef) rfl (by kernel_rfl) (by kernel_rfl) (by kernel_rfl) (fun _ _ _ h => h) (Or.inr ⟨by rfl, rfl⟩) ?_
          try simp only [Act.put, List.getElem_toArray, List.getElem_cons_succ, List.getElem_cons_zero, List.setIfInBounds_toArray, List.set_cons_zero, List.set_cons_succ]
          refine wpAny_take (i := 7) (v := undef) rfl (by kernel_rfl) (by kernel_rfl) (by kernel_rfl) (fun _ _ _ h => h) (Or.inr ⟨by rfl, rfl⟩) ?_
          try simp only [Act.put, List.getElem_toArray, List.getElem_cons_succ, List.getElem_cons_zero, List.setIfInBounds_toArray, List.set_cons_zero, List.set_cons_succ]
          refine wpAny_ready (rs := [5]) (by kernel_rfl) (by simp) ?_
          refine AllReady.cons rfl (fun K hK => ?_) AllReady.nil
          go_simp
          refine hK _ _ ?_
          clear hK K
          try simp only [Act.put, List.getElem_toArray, List.getElem_cons_succ, List.getElem_cons_zero, List.setIfInBounds_toArray, List.set_cons_zero, List.set_cons_succ]
          refine wpAny_ready (rs := [8]) (by kernel_rfl) (by simp) ?_
          refine AllReady.cons rfl (fun K hK => ?_) AllReady.nil
          go_simp
          refine hK _ _ ?_
          clear hK K
          try simp only [Act.put, List.getElem_toArray, List.getElem_cons_succ, List.getElem_cons_zero, List.setIfInBounds_toArray, List.set_cons_zero, List.set_cons_succ]
          refine wpAny_take (i := 9) (v := undef) rfl (by kernel_rfl) (by kernel_rfl) (by kernel_rfl) (fun _ _ _ h => h) (Or.inr ⟨by rfl, rfl⟩) ?_
          try simp only [Act.put, List.getElem_toArray, List.getElem_cons_succ, List.getElem_cons_zero, List.setIfInBounds_toArray, List.set_cons_zero, List.set_cons_succ]
          refine wpAny_take (i := 10) (v := ?_) rfl (by kernel_rfl) (by kernel_rfl) (by kernel_rfl) (fun _ _ _ h => h) (Or.inl ⟨by rfl, ?y10⟩) ?_
          case y10 => (intro w; go_simp <;> with_reducible rfl)
          try simp only [Act.put, List.getElem_toArray, List.getElem_cons_succ, List.getElem_cons_zero, List.setIfInBounds_toArray, List.set_cons_zero, List.set_cons_succ]
          refine wpAny_done (by kernel_rfl) ?_ _
          have hq34 := hide (upB hX.out hq4.out)
          have hq24 := hide (upB hq23.out hq34.out)
          have hC4 := hide (hC3.out.up hq34.out)
          have hb4 := hide (upB hb3.out hq34.out)
          have hO4 := hide (hO3.out.up hq34.out)
          obtain ⟨a0, a1, a2, a3, g0, g1, g2, g3, _⟩ := hO4.out
          obtain ⟨r0, r1, r2, r3, f0, f1, f2, f3, _⟩ := hC4.out
          clear hq4 hq34 hO4 hO3 hdk3 hA3 hA3M hMl hX HPO
          go_wp2_with fail
          have hRb : w.heap.size + 1 + 1 < w1.heap.size := by have := hl1.out; omega
          have hRl := hide (show w.heap.size ≤ w1.heap.size by omega)
          have hKf := hide (((((KP.refl.up hq24.out).low (a := ⟨w.heap.size + 1 + 1, 0, none⟩) hRb (.slice A4 n4 c4)).low (a := ⟨w.heap.size + 1 + 1, 1, none⟩) hRb (.int .i64 d.now.step)).low (a := ⟨w.heap.size + 1 + 1, 2, none⟩) hRb (.slice A5 n5 c5)).low (a := ⟨w.heap.size + 1 + 1, 3, none⟩) hRb (.slice A6 n6 c6))
          have hBf := hide (((((hb4.out).setCell (p := ⟨w.heap.size + 1 + 1, 0, none⟩) (by simp; omega) (.slice A4 n4 c4)).setCell (p := ⟨w.heap.size + 1 + 1, 1, none⟩) (by simp; omega) (.int .i64 d.now.step)).setCell (p := ⟨w.heap.size + 1 + 1, 2, none⟩) (by simp; omega) (.slice A5 n5 c5)).setCell (p := ⟨w.heap.size + 1 + 1, 3, none⟩) (by simp; omega) (.slice A6 n6 c6))
          have hTf := hide (((((hC4.out).set0 (.slice A4 n4 c4)).set1 (.int .i64 d.now.step)).set2 (.slice A5 n5 c5)).set3 (.slice A6 n6 c6))
          obtain ⟨k0, k1, k2, k3, _⟩ := hTf.out
          exact bodyPost_ret (v := .tuple #[.agg #[.slice A4 n4 c4, .int .i64 d.now.step, .slice A5 n5 c5, .slice A6 n6 c6], .bool false]) (by simp [results, Tryd.results9, go_sem, k0, k1, k2, k3]) rfl ⟨_, by rw [e1.out], by rw [e2.out]; exact dkS_mk ((hKf.out.pl _ _ hpl2.out.toY).down hRl.out) (.inl ((hKf.out.ps _ _ hps2.out).down hRl.out)), hBf.out⟩
      · have hk4b : (k == 4) = false := by simpa using hk4
        replace hk4 := hide hk4
        cases hpm : placeOk M with
        | false =>
          have e1 := hide (show deskB d ⟨k, a, b⟩ = false by unfold deskB doneB newB; rw [hM.out, hbk, hpm]; simp)
          have e2 := hide (show deskX d ⟨k, a, b⟩ = ⟨d.now, d.past⟩ from (deskX_not hok e1.out))
          have hok := hide hok
          clear hbk
          go_enter Tryd.func9, Tryd.ntmps9
          go_wp2_with fail
          refine HO.out.mono ?_
          rintro e w1 ⟨rfl, hq1⟩
          obtain ⟨a0, a1, a2, a3, _⟩ := (HF.out w1 hq1).2.2.2.1
          have HCw := hide (HC.out w1 hq1)
          go_wp2_with fail
          refine HCw.out.mono ?_
          rintro e w2 ⟨A4, n4, c4, A5, n5, c5, A6, n6, c6, rfl, hpl2, hps2, hq2⟩
          obtain ⟨hb2, hlw, hdk2, hA2, hB2, hC2⟩ := HF.out w2 (upB hq1 hq2)
          have hl1 := hide (HF.out w1 hq1).2.1
          have hb2 := hide hb2
          have hdk2 := hide hdk2
          have hA2 := hide hA2
          have hB2 := hide hB2
          have hC2 := hide hC2
          have hpl2 := hide hpl2
          have hps2 := hide hps2
          have hw12 := hide hq2.size
          clear a0 a1 a2 a3 hq1 hq2 HF HC HO HCw
          have s0 := fun o => (hA2.out.alloc o).c0
          have s1 := fun o => (hA2.out.alloc o).c1
          have s2 := fun o => (hA2.out.alloc o).c2
          have s3 := fun o => (hA2.out.alloc o).c3
          have t0 := fun o => (hB2.out.alloc o).c0
          have t1 := fun o => (hB2.out.alloc o).c1
          have t2 := fun o => (hB2.out.alloc o).c2
          have r0 := fun o => (hC2.out.alloc o).c0
          have r1 := fun o => (hC2.out.alloc o).c1
          have r2 := fun o => (hC2.out.alloc o).c2
          have r3 := fun o => (hC2.out.alloc o).c3
          have f0 := fun o => (hC2.out.alloc o).f0
          have f1 := fun o => (hC2.out.alloc o).f1
          have f2 := fun o => (hC2.out.alloc o).f2
          have f3 := fun o => (hC2.out.alloc o).f3
          have HMk := hide (l15Made_c _ d.now ⟨k, a, b⟩ _ (w2.alloc (.cells #[.slice A4 n4 c4, .int .i64 d.now.step, .slice A5 n5 c5, .slice A6 n6 c6] 34)) ((hdk2.out.now).up (al w2 (.cells #[.slice A4 n4 c4, .int .i64 d.now.step, .slice A5 n5 c5, .slice A6 n6 c6] 34))) (Nat.le_refl _) hno.out hwa hwb)
          rw [hM.out] at HMk
          clear h8
          go_wp2_with fail
          refine HMk.out.mono ?_
          rintro e w3 ⟨u, rfl, hpm3, hq3⟩
          obtain ⟨A7, n7, c7, A8, n8, c8, rfl, _⟩ := hpm3.ex
          have hpm3 := hide hpm3
          have hq23 := hide ((al w2 (.cells #[.slice A4 n4 c4, .int .i64 d.now.step, .slice A5 n5 c5, .slice A6 n6 c6] 34)).trans (hq3.mono (al w2 (.cells #[.slice A4 n4 c4, .int .i64 d.now.step, .slice A5 n5 c5, .slice A6 n6 c6] 34)).size))
          have hO3 := hide ((QuaW.made w2 (.slice A4 n4 c4) (.int .i64 d.now.step) (.slice A5 n5 c5) (.slice A6 n6 c6) 34).up hq3)
          have hob3 := hide ((hq3.block w2.heap.size (by simp)).trans (obj_made w2 (.cells #[.slice A4 n4 c4, .int .i64 d.now.step, .slice A5 n5 c5, .slice A6 n6 c6] 34)))
          have hdk3 := hide (hdk2.out.up hq23.out)
          have hA3 := hide (hA2.out.up hq23.out)
          have hC3 := hide (hC2.out.up hq23.out)
          have hb3 := hide (upB hb2.out hq23.out)
          have hMl := hide (TriW.made w3 (.slice A7 n7 c7) (.int .i64 M.step) (.slice A8 n8 c8) 31)
          have hX := hide (al w3 (.cells #[.slice A7 n7 c7, .int .i64 M.step, .slice A8 n8 c8] 31))
          have hA3M := hide (hA3.out.alloc (.cells #[.slice A7 n7 c7, .int .i64 M.step, .slice A8 n8 c8] 31))
          have HPO := hide (fun (W : World) (hq : Below (w3.alloc (.cells #[.slice A7 n7 c7, .int .i64 M.step, .slice A8 n8 c8] 31)).heap.size (w3.alloc (.cells #[.slice A7 n7 c7, .int .i64 M.step, .slice A8 n8 c8] 31)) W) => show Calls Tryd.prog 41 #[.agg #[.slice A7 n7 c7, .int .i64 M.step, .slice A8 n8 c8]] W (fun e w' => e = .returned (.bool (placeOk M)) ∧ Hid (Below (w3.alloc (.cells #[.slice A7 n7 c7, .int .i64 M.step, .slice A8 n8 c8] 31)).heap.size (w3.alloc (.cells #[.slice A7 n7 c7, .int .i64 M.step, .slice A8 n8 c8] 31)) w') ∧ w'.cell? ⟨w3.heap.size, 0, none⟩ = some (.slice A7 n7 c7) ∧ w'.cell? ⟨w3.heap.size, 1, none⟩ = some (.int .i64 M.step) ∧ w'.cell? ⟨w3.heap.size, 2, none⟩ = some (.slice A8 n8 c8) ∧ w'.cell? ⟨w.heap.size, 0, none⟩ = some (.slice A n c) ∧ w'.cell? ⟨w.heap.size, 1, none⟩ = some (.int .i64 d.now.step) ∧ w'.cell? ⟨w.heap.size, 2, none⟩ = some (.slice A2 n2 c2)) from
            (placeOk_spec _ M _ W (((hpm3.out.plM).up hX.out).up hq) (Nat.le_refl _)).mono fun e w' ⟨e1, hb⟩ => ⟨e1, upB hq hb, ((hMl.out.up (upB hq hb))).c0, ((hMl.out.up (upB hq hb))).c1, ((hMl.out.up (upB hq hb))).c2, ((hA3M.out.up (upB hq hb))).c0, ((hA3M.out.up (upB hq hb))).c1, ((hA3M.out.up (upB hq hb))).c2⟩)
          obtain ⟨y0, y1, y2, _⟩ := hMl.out
          obtain ⟨x0, x1, x2, _⟩ := hA3M.out
          clear hq3 s0 s1 s2 s3 t0 t1 t2 r0 r1 r2 r3 f0 f1 f2 f3 hdk2 hA2 hB2 hC2 HMk
          go_wp2_with fail
          refine wp_region_any (by kernel_rfl) ?_
          try (change wpAny _ _ _ _ _ _ _ (World.drew _))
          refine wpAny_ready (rs := [0]) (by kernel_rfl) (by simp) ?_
          refine AllReady.cons rfl (fun K hK => ?_) AllReady.nil
          go_simp
          refine hK _ _ ?_
          clear hK K
          try simp only [Act.put, List.getElem_toArray, List.getElem_cons_succ, List.getElem_cons_zero, List.setIfInBounds_toArray, List.set_cons_zero, List.set_cons_succ]
          refine wpAny_ready (rs := [1]) (by kernel_rfl) (by simp) ?_
          refine AllReady.cons rfl (fun K hK => ?_) AllReady.nil
          go_simp
          go_wp2_with (go_at_call 41; (with_reducible refine (HPO.out _ ?_).mono ?_); (focus (repeat (first | assumption | exact Below.refl _ _ | refine Below.drew ?_)); done); rintro e w4 ⟨rfl, hq4, z0, z1, z2, z3, z4, z5⟩)
          try simp only [Act.put, List.getElem_toArray, List.getElem_cons_succ, List.getElem_cons_zero, List.setIfInBounds_toArray, List.set_cons_zero, List.set_cons_succ]
          refine wpAny_take (i := 2) (v := ?_) rfl (by kernel_rfl) (by kernel_rfl) (by kernel_rfl) (fun _ _ _ h => h) (Or.inl ⟨by rfl, ?y2⟩) ?_
          case y2 => (intro w; go_simp <;> with_reducible rfl)
          try simp only [Act.put, List.getElem_toArray, List.getElem_cons_succ, List.getElem_cons_zero, List.setIfInBounds_toArray, List.set_cons_zero, List.set_cons_succ]
          refine wpAny_take (i := 3) (v := ?_) rfl (by kernel_rfl) (by kernel_rfl) (by kernel_rfl) (fun _ _ _ h => h) (Or.inl ⟨by rfl, ?y3⟩) ?_
          case y3 => (intro w; go_simp <;> with_reducible rfl)
          try simp only [Act.put, List.getElem_toArray, List.getElem_cons_succ, List.getElem_cons_zero, List.setIfInBounds_toArray, List.set_cons_zero, List.set_cons_succ]
          refine wpAny_take (i := 4) (v := undef) rfl (by kernel_rfl) (by kernel_rfl) (by kernel_rfl) (fun _ _ _ h => h) (Or.inr ⟨by rfl, rfl⟩) ?_
          try simp only [Act.put, List.getElem_toArray, List.getElem_cons_succ, List.getElem_cons_zero, List.setIfInBounds_toArray, List.set_cons_zero, List.set_cons_succ]
          refine wpAny_take (i := 6) (v := undef) rfl (by kernel_rfl) (by kernel_rfl) (by kernel_rfl) (fun _ _ _ h => h) (Or.inr ⟨by rfl, rfl⟩) ?_
          try simp only [Act.put, List.getElem_toArray, List.getElem_cons_succ, List.getElem_cons_zero, List.setIfInBounds_toArray, List.set_cons_zero, List.set_cons_succ]
          refine wpAny_take (i := 7) (v := undef) rfl (by kernel_rfl) (by kernel_rfl) (by kernel_rfl) (fun _ _ _ h => h) (Or.inr ⟨by rfl, rfl⟩) ?_
          try simp only [Act.put, List.getElem_toArray, List.getElem_cons_succ, List.getElem_cons_zero, List.setIfInBounds_toArray, List.set_cons_zero, List.set_cons_succ]
          refine wpAny_ready (rs := [5]) (by kernel_rfl) (by simp) ?_
          refine AllReady.cons rfl (fun K hK => ?_) AllReady.nil
          go_simp
          refine hK _ _ ?_
          clear hK K
          try simp only [Act.put, List.getElem_toArray, List.getElem_cons_succ, List.getElem_cons_zero, List.setIfInBounds_toArray, List.set_cons_zero, List.set_cons_succ]
          refine wpAny_ready (rs := [8]) (by kernel_rfl) (by simp) ?_
          refine AllReady.cons rfl (fun K hK => ?_) AllReady.nil
          go_simp
          refine hK _ _ ?_
          clear hK K
          try simp only [Act.put, List.getElem_toArray, List.getElem_cons_succ, List.getElem_cons_zero, List.setIfInBounds_toArray, List.set_cons_zero, List.set_cons_succ]
          refine wpAny_take (i := 9) (v := undef) rfl (by kernel_rfl) (by kernel_rfl) (by kernel_rfl) (fun _ _ _ h => h) (Or.inr ⟨by rfl, rfl⟩) ?_
          try simp only [Act.put, List.getElem_toArray, List.getElem_cons_succ, List.getElem_cons_zero, List.setIfInBounds_toArray, List.set_cons_zero, List.set_cons_succ]
          refine wpAny_take (i := 10) (v := ?_) rfl (by kernel_rfl) (by kernel_rfl) (by kernel_rfl) (fun _ _ _ h => h) (Or.inl ⟨by rfl, ?y10⟩) ?_
          case y10 => (intro w; go_simp <;> with_reducible rfl)
          try simp only [Act.put, List.getElem_toArray, List.getElem_cons_succ, List.getElem_cons_zero, List.setIfInBounds_toArray, List.set_cons_zero, List.set_cons_succ]
          refine wpAny_done (by kernel_rfl) ?_ _
          have hq34 := hide (upB hX.out hq4.out)
          have hq24 := hide (upB hq23.out hq34.out)
          have hC4 := hide (hC3.out.up hq34.out)
          have hb4 := hide (upB hb3.out hq34.out)
          have hO4 := hide (hO3.out.up hq34.out)
          obtain ⟨a0, a1, a2, a3, g0, g1, g2, g3, _⟩ := hO4.out
          obtain ⟨r0, r1, r2, r3, f0, f1, f2, f3, _⟩ := hC4.out
          clear hq4 hq34 hO4 hO3 hdk3 hA3 hA3M hMl hX HPO
          go_wp2_with fail
          have hRb : w.heap.size + 1 + 1 < w1.heap.size := by have := hl1.out; omega
          have hRl := hide (show w.heap.size ≤ w1.heap.size by omega)
          have hKf := hide (((((KP.refl.up hq24.out).low (a := ⟨w.heap.size + 1 + 1, 0, none⟩) hRb (.slice A4 n4 c4)).low (a := ⟨w.heap.size + 1 + 1, 1, none⟩) hRb (.int .i64 d.now.step)).low (a := ⟨w.heap.size + 1 + 1, 2, none⟩) hRb (.slice A5 n5 c5)).low (a := ⟨w.heap.size + 1 + 1, 3, none⟩) hRb (.slice A6 n6 c6))
          have hBf := hide (((((hb4.out).setCell (p := ⟨w.heap.size + 1 + 1, 0, none⟩) (by simp; omega) (.slice A4 n4 c4)).setCell (p := ⟨w.heap.size + 1 + 1, 1, none⟩) (by simp; omega) (.int .i64 d.now.step)).setCell (p := ⟨w.heap.size + 1 + 1, 2, none⟩) (by simp; omega) (.slice A5 n5 c5)).setCell (p := ⟨w.heap.size + 1 + 1, 3, none⟩) (by simp; omega) (.slice A6 n6 c6))
          have hTf := hide (((((hC4.out).set0 (.slice A4 n4 c4)).set1 (.int .i64 d.now.step)).set2 (.slice A5 n5 c5)).set3 (.slice A6 n6 c6))
          obtain ⟨k0, k1, k2, k3, _⟩ := hTf.out
          exact bodyPost_ret (v := .tuple #[.agg #[.slice A4 n4 c4, .int .i64 d.now.step, .slice A5 n5 c5, .slice A6 n6 c6], .bool false]) (by simp [results, Tryd.results9, go_sem, k0, k1, k2, k3]) rfl ⟨_, by rw [e1.out], by rw [e2.out]; exact dkS_mk ((hKf.out.pl _ _ hpl2.out.toY).down hRl.out) (.inl ((hKf.out.ps _ _ hps2.out).down hRl.out)), hBf.out⟩
        | true =>
          by_cases hs : placeT M = placeT d.now
          · have e1 := hide (show deskB d ⟨k, a, b⟩ = false by unfold deskB doneB newB; rw [hM.out, hbk, hpm]; simp [hs])
            have e2 := hide (show deskX d ⟨k, a, b⟩ = ⟨d.now, d.past⟩ from (deskX_not hok e1.out))
            have hok := hide hok
            clear hbk
            go_enter Tryd.func9, Tryd.ntmps9
            go_wp2_with fail
            refine HO.out.mono ?_
            rintro e w1 ⟨rfl, hq1⟩
            obtain ⟨a0, a1, a2, a3, _⟩ := (HF.out w1 hq1).2.2.2.1
            have HCw := hide (HC.out w1 hq1)
            go_wp2_with fail
            refine HCw.out.mono ?_
            rintro e w2 ⟨A4, n4, c4, A5, n5, c5, A6, n6, c6, rfl, hpl2, hps2, hq2⟩
            obtain ⟨hb2, hlw, hdk2, hA2, hB2, hC2⟩ := HF.out w2 (upB hq1 hq2)
            have hl1 := hide (HF.out w1 hq1).2.1
            have hb2 := hide hb2
            have hdk2 := hide hdk2
            have hA2 := hide hA2
            have hB2 := hide hB2
            have hC2 := hide hC2
            have hpl2 := hide hpl2
            have hps2 := hide hps2
            have hw12 := hide hq2.size
            clear a0 a1 a2 a3 hq1 hq2 HF HC HO HCw
            have s0 := fun o => (hA2.out.alloc o).c0
            have s1 := fun o => (hA2.out.alloc o).c1
            have s2 := fun o => (hA2.out.alloc o).c2
            have s3 := fun o => (hA2.out.alloc o).c3
            have t0 := fun o => (hB2.out.alloc o).c0
            have t1 := fun o => (hB2.out.alloc o).c1
            have t2 := fun o => (hB2.out.alloc o).c2
            have r0 := fun o => (hC2.out.alloc o).c0
            have r1 := fun o => (hC2.out.alloc o).c1
            have r2 := fun o => (hC2.out.alloc o).c2
            have r3 := fun o => (hC2.out.alloc o).c3
            have f0 := fun o => (hC2.out.alloc o).f0
            have f1 := fun o => (hC2.out.alloc o).f1
            have f2 := fun o => (hC2.out.alloc o).f2
            have f3 := fun o => (hC2.out.alloc o).f3
            have HMk := hide (l15Made_c _ d.now ⟨k, a, b⟩ _ (w2.alloc (.cells #[.slice A4 n4 c4, .int .i64 d.now.step, .slice A5 n5 c5, .slice A6 n6 c6] 34)) ((hdk2.out.now).up (al w2 (.cells #[.slice A4 n4 c4, .int .i64 d.now.step, .slice A5 n5 c5, .slice A6 n6 c6] 34))) (Nat.le_refl _) hno.out hwa hwb)
            rw [hM.out] at HMk
            clear h8
            go_wp2_with fail
            refine HMk.out.mono ?_
            rintro e w3 ⟨u, rfl, hpm3, hq3⟩
            obtain ⟨A7, n7, c7, A8, n8, c8, rfl, _⟩ := hpm3.ex
            have hpm3 := hide hpm3
            have hq23 := hide ((al w2 (.cells #[.slice A4 n4 c4, .int .i64 d.now.step, .slice A5 n5 c5, .slice A6 n6 c6] 34)).trans (hq3.mono (al w2 (.cells #[.slice A4 n4 c4, .int .i64 d.now.step, .slice A5 n5 c5, .slice A6 n6 c6] 34)).size))
            have hO3 := hide ((QuaW.made w2 (.slice A4 n4 c4) (.int .i64 d.now.step) (.slice A5 n5 c5) (.slice A6 n6 c6) 34).up hq3)
            have hob3 := hide ((hq3.block w2.heap.size (by simp)).trans (obj_made w2 (.cells #[.slice A4 n4 c4, .int .i64 d.now.step, .slice A5 n5 c5, .slice A6 n6 c6] 34)))
            have hdk3 := hide (hdk2.out.up hq23.out)
            have hA3 := hide (hA2.out.up hq23.out)
            have hC3 := hide (hC2.out.up hq23.out)
            have hb3 := hide (upB hb2.out hq23.out)
            have hMl := hide (TriW.made w3 (.slice A7 n7 c7) (.int .i64 M.step) (.slice A8 n8 c8) 31)
            have hX := hide (al w3 (.cells #[.slice A7 n7 c7, .int .i64 M.step, .slice A8 n8 c8] 31))
            have hA3M := hide (hA3.out.alloc (.cells #[.slice A7 n7 c7, .int .i64 M.step, .slice A8 n8 c8] 31))
            have HPO := hide (fun (W : World) (hq : Below (w3.alloc (.cells #[.slice A7 n7 c7, .int .i64 M.step, .slice A8 n8 c8] 31)).heap.size (w3.alloc (.cells #[.slice A7 n7 c7, .int .i64 M.step, .slice A8 n8 c8] 31)) W) => show Calls Tryd.prog 41 #[.agg #[.slice A7 n7 c7, .int .i64 M.step, .slice A8 n8 c8]] W (fun e w' => e = .returned (.bool (placeOk M)) ∧ Hid (Below (w3.alloc (.cells #[.slice A7 n7 c7, .int .i64 M.step, .slice A8 n8 c8] 31)).heap.size (w3.alloc (.cells #[.slice A7 n7 c7, .int .i64 M.step, .slice A8 n8 c8] 31)) w') ∧ w'.cell? ⟨w3.heap.size, 0, none⟩ = some (.slice A7 n7 c7) ∧ w'.cell? ⟨w3.heap.size, 1, none⟩ = some (.int .i64 M.step) ∧ w'.cell? ⟨w3.heap.size, 2, none⟩ = some (.slice A8 n8 c8) ∧ w'.cell? ⟨w.heap.size, 0, none⟩ = some (.slice A n c) ∧ w'.cell? ⟨w.heap.size, 1, none⟩ = some (.int .i64 d.now.step) ∧ w'.cell? ⟨w.heap.size, 2, none⟩ = some (.slice A2 n2 c2)) from
              (placeOk_spec _ M _ W (((hpm3.out.plM).up hX.out).up hq) (Nat.le_refl _)).mono fun e w' ⟨e1, hb⟩ => ⟨e1, upB hq hb, ((hMl.out.up (upB hq hb))).c0, ((hMl.out.up (upB hq hb))).c1, ((hMl.out.up (upB hq hb))).c2, ((hA3M.out.up (upB hq hb))).c0, ((hA3M.out.up (upB hq hb))).c1, ((hA3M.out.up (upB hq hb))).c2⟩)
            rw [hpm] at HPO
            have HTM := hide (fun (W : World) (hq : Below (w3.alloc (.cells #[.slice A7 n7 c7, .int .i64 M.step, .slice A8 n8 c8] 31)).heap.size (w3.alloc (.cells #[.slice A7 n7 c7, .int .i64 M.step, .slice A8 n8 c8] 31)) W) => show Calls Tryd.prog 42 #[.agg #[.slice A7 n7 c7, .int .i64 M.step, .slice A8 n8 c8]] W (fun e w' => e = .returned (.string (strB (placeT M))) ∧ Hid (Below (w3.alloc (.cells #[.slice A7 n7 c7, .int .i64 M.step, .slice A8 n8 c8] 31)).heap.size (w3.alloc (.cells #[.slice A7 n7 c7, .int .i64 M.step, .slice A8 n8 c8] 31)) w') ∧ w'.cell? ⟨w3.heap.size, 0, none⟩ = some (.slice A7 n7 c7) ∧ w'.cell? ⟨w3.heap.size, 1, none⟩ = some (.int .i64 M.step) ∧ w'.cell? ⟨w3.heap.size, 2, none⟩ = some (.slice A8 n8 c8) ∧ w'.cell? ⟨w.heap.size, 0, none⟩ = some (.slice A n c) ∧ w'.cell? ⟨w.heap.size, 1, none⟩ = some (.int .i64 d.now.step) ∧ w'.cell? ⟨w.heap.size, 2, none⟩ = some (.slice A2 n2 c2)) from
              (placeText_spec _ M _ W (((hpm3.out.plM).up hX.out).up hq) (Nat.le_refl _)).mono fun e w' ⟨e1, hb⟩ => ⟨e1, upB hq hb, ((hMl.out.up (upB hq hb))).c0, ((hMl.out.up (upB hq hb))).c1, ((hMl.out.up (upB hq hb))).c2, ((hA3M.out.up (upB hq hb))).c0, ((hA3M.out.up (upB hq hb))).c1, ((hA3M.out.up (upB hq hb))).c2⟩)
            have HTN := hide (fun (W : World) (hq : Below (w3.alloc (.cells #[.slice A7 n7 c7, .int .i64 M.step, .slice A8 n8 c8] 31)).heap.size (w3.alloc (.cells #[.slice A7 n7 c7, .int .i64 M.step, .slice A8 n8 c8] 31)) W) => show Calls Tryd.prog 42 #[.agg #[.slice A n c, .int .i64 d.now.step, .slice A2 n2 c2]] W (fun e w' => e = .returned (.string (strB (placeT d.now))) ∧ Hid (Below (w3.alloc (.cells #[.slice A7 n7 c7, .int .i64 M.step, .slice A8 n8 c8] 31)).heap.size (w3.alloc (.cells #[.slice A7 n7 c7, .int .i64 M.step, .slice A8 n8 c8] 31)) w') ∧ w'.cell? ⟨w3.heap.size, 0, none⟩ = some (.slice A7 n7 c7) ∧ w'.cell? ⟨w3.heap.size, 1, none⟩ = some (.int .i64 M.step) ∧ w'.cell? ⟨w3.heap.size, 2, none⟩ = some (.slice A8 n8 c8) ∧ w'.cell? ⟨w.heap.size, 0, none⟩ = some (.slice A n c) ∧ w'.cell? ⟨w.heap.size, 1, none⟩ = some (.int .i64 d.now.step) ∧ w'.cell? ⟨w.heap.size, 2, none⟩ = some (.slice A2 n2 c2)) from
              (placeText_spec _ d.now _ W (((hdk3.out.now).up hX.out).up hq) (Nat.le_refl _)).mono fun e w' ⟨e1, hb⟩ => ⟨e1, upB hq hb, ((hMl.out.up (upB hq hb))).c0, ((hMl.out.up (upB hq hb))).c1, ((hMl.out.up (upB hq hb))).c2, ((hA3M.out.up (upB hq hb))).c0, ((hA3M.out.up (upB hq hb))).c1, ((hA3M.out.up (upB hq hb))).c2⟩)
            obtain ⟨y0, y1, y2, _⟩ := hMl.out
            obtain ⟨x0, x1, x2, _⟩ := hA3M.out
            clear hq3 s0 s1 s2 s3 t0 t1 t2 r0 r1 r2 r3 f0 f1 f2 f3 hdk2 hA2 hB2 hC2 HMk
            rw [hs] at HTM
            replace hs := hide hs
            go_wp2_with fail
            go_region_held3 (fun wX => wX.cell? ⟨w3.heap.size, 0, none⟩ = some (.slice A7 n7 c7) ∧ wX.cell? ⟨w3.heap.size, 1, none⟩ = some (.int .i64 M.step) ∧ wX.cell? ⟨w3.heap.size, 2, none⟩ = some (.slice A8 n8 c8) ∧ wX.cell? ⟨w.heap.size, 0, none⟩ = some (.slice A n c) ∧ wX.cell? ⟨w.heap.size, 1, none⟩ = some (.int .i64 d.now.step) ∧ wX.cell? ⟨w.heap.size, 2, none⟩ = some (.slice A2 n2 c2)) (first | exact ⟨y0, y1, y2, x0, x1, x2⟩ | exact ⟨z0, z1, z2, z3, z4, z5⟩ | exact ⟨p0, p1, p2, p3, p4, p5⟩ | exact ⟨q0, q1, q2, q3, q4, q5⟩ | go_keep) (first | (go_at_call 41; (with_reducible refine (HPO.out _ ?_).mono ?_); (focus (repeat (first | assumption | exact Below.refl _ _ | refine Below.drew ?_)); done); rintro e w4 ⟨rfl, hq4, z0, z1, z2, z3, z4, z5⟩) | (go_at_call 42; (with_reducible refine (HTM.out _ ?_).mono ?_); (focus (repeat (first | assumption | exact Below.refl _ _ | refine Below.drew ?_)); done); rintro e w5 ⟨rfl, hq5, p0, p1, p2, p3, p4, p5⟩) | (go_at_call 42; (with_reducible refine (HTN.out _ ?_).mono ?_); (focus (repeat (first | assumption | exact Below.refl _ _ | refine Below.drew ?_)); done); rintro e w6 ⟨rfl, hq6, q0, q1, q2, q3, q4, q5⟩))
            have hq34 := hide (upB hX.out hq6.out)
            have hq24 := hide (upB hq23.out hq34.out)
            have hC4 := hide (hC3.out.up hq34.out)
            have hb4 := hide (upB hb3.out hq34.out)
            have hO4 := hide (hO3.out.up hq34.out)
            obtain ⟨a0, a1, a2, a3, g0, g1, g2, g3, _⟩ := hO4.out
            obtain ⟨r0, r1, r2, r3, f0, f1, f2, f3, _⟩ := hC4.out
            clear hq6 hq34 hO4 hO3 hdk3 hA3 hA3M hMl hX HPO HTM HTN hq4 hq5 y0 y1 y2 x0 x1 x2 z0 z1 z2 z3 z4 z5 p0 p1 p2 p3 p4 p5 q0 q1 q2 q3 q4 q5
            go_wp2_with fail
            have hRb : w.heap.size + 1 + 1 < w1.heap.size := by have := hl1.out; omega
            have hRl := hide (show w.heap.size ≤ w1.heap.size by omega)
            have hKf := hide (((((KP.refl.up hq24.out).low (a := ⟨w.heap.size + 1 + 1, 0, none⟩) hRb (.slice A4 n4 c4)).low (a := ⟨w.heap.size + 1 + 1, 1, none⟩) hRb (.int .i64 d.now.step)).low (a := ⟨w.heap.size + 1 + 1, 2, none⟩) hRb (.slice A5 n5 c5)).low (a := ⟨w.heap.size + 1 + 1, 3, none⟩) hRb (.slice A6 n6 c6))
            have hBf := hide (((((hb4.out).setCell (p := ⟨w.heap.size + 1 + 1, 0, none⟩) (by simp; omega) (.slice A4 n4 c4)).setCell (p := ⟨w.heap.size + 1 + 1, 1, none⟩) (by simp; omega) (.int .i64 d.now.step)).setCell (p := ⟨w.heap.size + 1 + 1, 2, none⟩) (by simp; omega) (.slice A5 n5 c5)).setCell (p := ⟨w.heap.size + 1 + 1, 3, none⟩) (by simp; omega) (.slice A6 n6 c6))
            have hTf := hide (((((hC4.out).set0 (.slice A4 n4 c4)).set1 (.int .i64 d.now.step)).set2 (.slice A5 n5 c5)).set3 (.slice A6 n6 c6))
            obtain ⟨k0, k1, k2, k3, _⟩ := hTf.out
            exact bodyPost_ret (v := .tuple #[.agg #[.slice A4 n4 c4, .int .i64 d.now.step, .slice A5 n5 c5, .slice A6 n6 c6], .bool false]) (by simp [results, Tryd.results9, go_sem, k0, k1, k2, k3]) rfl ⟨_, by rw [e1.out], by rw [e2.out]; exact dkS_mk ((hKf.out.pl _ _ hpl2.out.toY).down hRl.out) (.inl ((hKf.out.ps _ _ hps2.out).down hRl.out)), hBf.out⟩
          · have e1 := hide (show deskB d ⟨k, a, b⟩ = true by unfold deskB doneB newB; rw [hM.out, hbk, hpm, hok]; simp [hs])
            have e2 := hide (show deskX d ⟨k, a, b⟩ = ⟨M, pushP d.past d.now⟩ by
              unfold deskX deskD newB
              rw [if_pos hok, hbk, hM.out, hpm]
              simp [hs])
            have hok := hide hok
            have hl8 := hide h8
            clear hbk
            go_enter Tryd.func9, Tryd.ntmps9
            go_wp2_with fail
            refine HO.out.mono ?_
            rintro e w1 ⟨rfl, hq1⟩
            obtain ⟨a0, a1, a2, a3, _⟩ := (HF.out w1 hq1).2.2.2.1
            have HCw := hide (HC.out w1 hq1)
            go_wp2_with fail
            refine HCw.out.mono ?_
            rintro e w2 ⟨A4, n4, c4, A5, n5, c5, A6, n6, c6, rfl, hpl2, hps2, hq2⟩
            obtain ⟨hb2, hlw, hdk2, hA2, hB2, hC2⟩ := HF.out w2 (upB hq1 hq2)
            have hl1 := hide (HF.out w1 hq1).2.1
            have hb2 := hide hb2
            have hdk2 := hide hdk2
            have hA2 := hide hA2
            have hB2 := hide hB2
            have hC2 := hide hC2
            have hpl2 := hide hpl2
            have hps2 := hide hps2
            have hw12 := hide hq2.size
            clear a0 a1 a2 a3 hq1 hq2 HF HC HO HCw
            have s0 := fun o => (hA2.out.alloc o).c0
            have s1 := fun o => (hA2.out.alloc o).c1
            have s2 := fun o => (hA2.out.alloc o).c2
            have s3 := fun o => (hA2.out.alloc o).c3
            have t0 := fun o => (hB2.out.alloc o).c0
            have t1 := fun o => (hB2.out.alloc o).c1
            have t2 := fun o => (hB2.out.alloc o).c2
            have r0 := fun o => (hC2.out.alloc o).c0
            have r1 := fun o => (hC2.out.alloc o).c1
            have r2 := fun o => (hC2.out.alloc o).c2
            have r3 := fun o => (hC2.out.alloc o).c3
            have f0 := fun o => (hC2.out.alloc o).f0
            have f1 := fun o => (hC2.out.alloc o).f1
            have f2 := fun o => (hC2.out.alloc o).f2
            have f3 := fun o => (hC2.out.alloc o).f3
            have HMk := hide (l15Made_c _ d.now ⟨k, a, b⟩ _ (w2.alloc (.cells #[.slice A4 n4 c4, .int .i64 d.now.step, .slice A5 n5 c5, .slice A6 n6 c6] 34)) ((hdk2.out.now).up (al w2 (.cells #[.slice A4 n4 c4, .int .i64 d.now.step, .slice A5 n5 c5, .slice A6 n6 c6] 34))) (Nat.le_refl _) hno.out hwa hwb)
            rw [hM.out] at HMk
            clear h8
            go_wp2_with fail
            refine HMk.out.mono ?_
            rintro e w3 ⟨u, rfl, hpm3, hq3⟩
            obtain ⟨A7, n7, c7, A8, n8, c8, rfl, _⟩ := hpm3.ex
            have hpm3 := hide hpm3
            have hq23 := hide ((al w2 (.cells #[.slice A4 n4 c4, .int .i64 d.now.step, .slice A5 n5 c5, .slice A6 n6 c6] 34)).trans (hq3.mono (al w2 (.cells #[.slice A4 n4 c4, .int .i64 d.now.step, .slice A5 n5 c5, .slice A6 n6 c6] 34)).size))
            have hO3 := hide ((QuaW.made w2 (.slice A4 n4 c4) (.int .i64 d.now.step) (.slice A5 n5 c5) (.slice A6 n6 c6) 34).up hq3)
            have hob3 := hide ((hq3.block w2.heap.size (by simp)).trans (obj_made w2 (.cells #[.slice A4 n4 c4, .int .i64 d.now.step, .slice A5 n5 c5, .slice A6 n6 c6] 34)))
            have hdk3 := hide (hdk2.out.up hq23.out)
            have hA3 := hide (hA2.out.up hq23.out)
            have hC3 := hide (hC2.out.up hq23.out)
            have hb3 := hide (upB hb2.out hq23.out)
            have hMl := hide (TriW.made w3 (.slice A7 n7 c7) (.int .i64 M.step) (.slice A8 n8 c8) 31)
            have hX := hide (al w3 (.cells #[.slice A7 n7 c7, .int .i64 M.step, .slice A8 n8 c8] 31))
            have hA3M := hide (hA3.out.alloc (.cells #[.slice A7 n7 c7, .int .i64 M.step, .slice A8 n8 c8] 31))
            have HPO := hide (fun (W : World) (hq : Below (w3.alloc (.cells #[.slice A7 n7 c7, .int .i64 M.step, .slice A8 n8 c8] 31)).heap.size (w3.alloc (.cells #[.slice A7 n7 c7, .int .i64 M.step, .slice A8 n8 c8] 31)) W) => show Calls Tryd.prog 41 #[.agg #[.slice A7 n7 c7, .int .i64 M.step, .slice A8 n8 c8]] W (fun e w' => e = .returned (.bool (placeOk M)) ∧ Hid (Below (w3.alloc (.cells #[.slice A7 n7 c7, .int .i64 M.step, .slice A8 n8 c8] 31)).heap.size (w3.alloc (.cells #[.slice A7 n7 c7, .int .i64 M.step, .slice A8 n8 c8] 31)) w') ∧ w'.cell? ⟨w3.heap.size, 0, none⟩ = some (.slice A7 n7 c7) ∧ w'.cell? ⟨w3.heap.size, 1, none⟩ = some (.int .i64 M.step) ∧ w'.cell? ⟨w3.heap.size, 2, none⟩ = some (.slice A8 n8 c8) ∧ w'.cell? ⟨w.heap.size, 0, none⟩ = some (.slice A n c) ∧ w'.cell? ⟨w.heap.size, 1, none⟩ = some (.int .i64 d.now.step) ∧ w'.cell? ⟨w.heap.size, 2, none⟩ = some (.slice A2 n2 c2)) from
              (placeOk_spec _ M _ W (((hpm3.out.plM).up hX.out).up hq) (Nat.le_refl _)).mono fun e w' ⟨e1, hb⟩ => ⟨e1, upB hq hb, ((hMl.out.up (upB hq hb))).c0, ((hMl.out.up (upB hq hb))).c1, ((hMl.out.up (upB hq hb))).c2, ((hA3M.out.up (upB hq hb))).c0, ((hA3M.out.up (upB hq hb))).c1, ((hA3M.out.up (upB hq hb))).c2⟩)
            rw [hpm] at HPO
            have HTM := hide (fun (W : World) (hq : Below (w3.alloc (.cells #[.slice A7 n7 c7, .int .i64 M.step, .slice A8 n8 c8] 31)).heap.size (w3.alloc (.cells #[.slice A7 n7 c7, .int .i64 M.step, .slice A8 n8 c8] 31)) W) => show Calls Tryd.prog 42 #[.agg #[.slice A7 n7 c7, .int .i64 M.step, .slice A8 n8 c8]] W (fun e w' => e = .returned (.string (strB (placeT M))) ∧ Hid (Below (w3.alloc (.cells #[.slice A7 n7 c7, .int .i64 M.step, .slice A8 n8 c8] 31)).heap.size (w3.alloc (.cells #[.slice A7 n7 c7, .int .i64 M.step, .slice A8 n8 c8] 31)) w') ∧ w'.cell? ⟨w3.heap.size, 0, none⟩ = some (.slice A7 n7 c7) ∧ w'.cell? ⟨w3.heap.size, 1, none⟩ = some (.int .i64 M.step) ∧ w'.cell? ⟨w3.heap.size, 2, none⟩ = some (.slice A8 n8 c8) ∧ w'.cell? ⟨w.heap.size, 0, none⟩ = some (.slice A n c) ∧ w'.cell? ⟨w.heap.size, 1, none⟩ = some (.int .i64 d.now.step) ∧ w'.cell? ⟨w.heap.size, 2, none⟩ = some (.slice A2 n2 c2)) from
              (placeText_spec _ M _ W (((hpm3.out.plM).up hX.out).up hq) (Nat.le_refl _)).mono fun e w' ⟨e1, hb⟩ => ⟨e1, upB hq hb, ((hMl.out.up (upB hq hb))).c0, ((hMl.out.up (upB hq hb))).c1, ((hMl.out.up (upB hq hb))).c2, ((hA3M.out.up (upB hq hb))).c0, ((hA3M.out.up (upB hq hb))).c1, ((hA3M.out.up (upB hq hb))).c2⟩)
            have HTN := hide (fun (W : World) (hq : Below (w3.alloc (.cells #[.slice A7 n7 c7, .int .i64 M.step, .slice A8 n8 c8] 31)).heap.size (w3.alloc (.cells #[.slice A7 n7 c7, .int .i64 M.step, .slice A8 n8 c8] 31)) W) => show Calls Tryd.prog 42 #[.agg #[.slice A n c, .int .i64 d.now.step, .slice A2 n2 c2]] W (fun e w' => e = .returned (.string (strB (placeT d.now))) ∧ Hid (Below (w3.alloc (.cells #[.slice A7 n7 c7, .int .i64 M.step, .slice A8 n8 c8] 31)).heap.size (w3.alloc (.cells #[.slice A7 n7 c7, .int .i64 M.step, .slice A8 n8 c8] 31)) w') ∧ w'.cell? ⟨w3.heap.size, 0, none⟩ = some (.slice A7 n7 c7) ∧ w'.cell? ⟨w3.heap.size, 1, none⟩ = some (.int .i64 M.step) ∧ w'.cell? ⟨w3.heap.size, 2, none⟩ = some (.slice A8 n8 c8) ∧ w'.cell? ⟨w.heap.size, 0, none⟩ = some (.slice A n c) ∧ w'.cell? ⟨w.heap.size, 1, none⟩ = some (.int .i64 d.now.step) ∧ w'.cell? ⟨w.heap.size, 2, none⟩ = some (.slice A2 n2 c2)) from
              (placeText_spec _ d.now _ W (((hdk3.out.now).up hX.out).up hq) (Nat.le_refl _)).mono fun e w' ⟨e1, hb⟩ => ⟨e1, upB hq hb, ((hMl.out.up (upB hq hb))).c0, ((hMl.out.up (upB hq hb))).c1, ((hMl.out.up (upB hq hb))).c2, ((hA3M.out.up (upB hq hb))).c0, ((hA3M.out.up (upB hq hb))).c1, ((hA3M.out.up (upB hq hb))).c2⟩)
            obtain ⟨y0, y1, y2, _⟩ := hMl.out
            obtain ⟨x0, x1, x2, _⟩ := hA3M.out
            clear hq3 s0 s1 s2 s3 t0 t1 t2 r0 r1 r2 r3 f0 f1 f2 f3 hdk2 hA2 hB2 hC2 HMk
            obtain ⟨S1, hS1⟩ : ∃ S, Hid (strB (placeT M) = S) := ⟨_, hide rfl⟩
            obtain ⟨S2, hS2⟩ : ∃ S, Hid (strB (placeT d.now) = S) := ⟨_, hide rfl⟩
            have hse : (S1.toList == S2.toList) = false := by
              rw [← hS1.out, ← hS2.out, ByteArray.toList_eq, ByteArray.toList_eq]
              exact beq_eq_false_iff_ne.2 fun e => hs (strB_inj (bts_inj e))
            rw [hS1.out] at HTM
            rw [hS2.out] at HTN
            replace hs := hide hs
            go_wp2_with fail
            go_region_held3 (fun wX => wX.cell? ⟨w3.heap.size, 0, none⟩ = some (.slice A7 n7 c7) ∧ wX.cell? ⟨w3.heap.size, 1, none⟩ = some (.int .i64 M.step) ∧ wX.cell? ⟨w3.heap.size, 2, none⟩ = some (.slice A8 n8 c8) ∧ wX.cell? ⟨w.heap.size, 0, none⟩ = some (.slice A n c) ∧ wX.cell? ⟨w.heap.size, 1, none⟩ = some (.int .i64 d.now.step) ∧ wX.cell? ⟨w.heap.size, 2, none⟩ = some (.slice A2 n2 c2)) (first | exact ⟨y0, y1, y2, x0, x1, x2⟩ | exact ⟨z0, z1, z2, z3, z4, z5⟩ | exact ⟨p0, p1, p2, p3, p4, p5⟩ | exact ⟨q0, q1, q2, q3, q4, q5⟩ | go_keep) (first | (go_at_call 41; (with_reducible refine (HPO.out _ ?_).mono ?_); (focus (repeat (first | assumption | exact Below.refl _ _ | refine Below.drew ?_)); done); rintro e w4 ⟨rfl, hq4, z0, z1, z2, z3, z4, z5⟩) | (go_at_call 42; (with_reducible refine (HTM.out _ ?_).mono ?_); (focus (repeat (first | assumption | exact Below.refl _ _ | refine Below.drew ?_)); done); rintro e w5 ⟨rfl, hq5, p0, p1, p2, p3, p4, p5⟩) | (go_at_call 42; (with_reducible refine (HTN.out _ ?_).mono ?_); (focus (repeat (first | assumption | exact Below.refl _ _ | refine Below.drew ?_)); done); rintro e w6 ⟨rfl, hq6, q0, q1, q2, q3, q4, q5⟩))
            have hq34 := hide (upB hX.out hq6.out)
            have hq24 := hide (upB hq23.out hq34.out)
            have hC4 := hide (hC3.out.up hq34.out)
            have hb4 := hide (upB hb3.out hq34.out)
            have hO4 := hide (hO3.out.up hq34.out)
            have hM4 := hide (hMl.out.up hq6.out)
            have hPM4 := hide (hpm3.out.up hq34.out)
            have hPN4 := hide (hpl2.out.up hq24.out)
            have hlo := hO3.out.lt
            have hob4 := hide ((hq34.out.block _ hlo).trans hob3.out)
            have hlt := hide (show ∀ q, (Value.slice A6 n6 c6).ownBlock = some q → w1.heap.size ≤ q ∧ q < w2.heap.size from fun q hq => by
              obtain ⟨xs, hx⟩ := hps2.out.row.2
              exact hx.lt q hq)
            have hn6 := hide hps2.out.row.1
            obtain ⟨us, hus, hrow0, hall⟩ := (hps2.out.up hq24.out).ex
            have hrow := hide (show w6.ownsRow w1.heap.size 31 3 (.slice A6 n6 c6) n6 (cellsP us) by rw [← hn6.out] at hrow0; exact hrow0)
            have hus := hide hus
            have hall := hide hall
            have hn68 : n6 ≤ 8 := by have := hn6.out; have := hl8.out; omega
            have hw12p : w1.heap.size ≤ w2.heap.size := hw12.out
            have hw36 : w3.heap.size ≤ w6.heap.size := hq34.out.size
            have hRl : w.heap.size + 1 + 1 < w1.heap.size := by have := hl1.out; omega
            obtain ⟨a0, a1, a2, a3, g0, g1, g2, g3, _⟩ := hO4.out
            clear hrow0 hq6 hq34 hO3 hdk3 hA3 hA3M hMl hX HPO HTM HTN hq4 hq5 y0 y1 y2 x0 x1 x2 z0 z1 z2 z3 z4 z5 p0 p1 p2 p3 p4 p5 q0 q1 q2 q3 q4 q5
            go_upto_region 12 with fail
            go_cut [] (fun wx => ∃ A9 c9, QuaW wx w2.heap.size (.slice A4 n4 c4) (.int .i64 d.now.step) (.slice A5 n5 c5) (.slice A9 (n6 + 1) c9) ∧ QuaW wx (w.heap.size + 1 + 1) (.slice none 0 0) (.int .i64 0) (.slice none 0 0) (.slice none 0 0) ∧ TriW wx w3.heap.size (.slice A7 n7 c7) (.int .i64 M.step) (.slice A8 n8 c8) ∧ PlY wx w1.heap.size (.agg #[.slice A7 n7 c7, .int .i64 M.step, .slice A8 n8 c8]) M ∧ PsZ wx w1.heap.size (.slice A9 (n6 + 1) c9) (d.past ++ [d.now]) ∧ Below w.heap.size w wx ∧ KD w1.heap.size w2.heap.size wx wx)
            case first =>
              go_wp2_with (at_builtin; refine wpList_push _ rfl _ _ 32 rfl w1.heap.size 31 i0 (.agg #[.slice none 0 0, .int .i64 0, .slice none 0 0]) 3 56 Tryd.underlying32 hi hz0 hz1 hz2 rfl (by decide) (by decide) _ n6 _ rfl (hrow.out.alloc _) _ 1 [.slice A4 n4 c4, .int .i64 d.now.step, .slice A5 n5 c5] rfl rfl (lit_cellsAt _ _ _ _ (by simp)) (by intro u hu; simp at hu; rcases hu with rfl | rfl | rfl <;> rfl) (by omega) (by simp; omega) ?_; go_loud (intro A9 c9 w7 hr7 hg7; have hO7 := hide (QuaW.grown (hO4.out.alloc _) hg7 (fun q hq => by have := (hlt.out q hq).2; omega)); have hC7 := hide (QuaW.grown (hC4.out.alloc _) hg7 (fun q hq => by have := (hlt.out q hq).1; omega)); have hM7 := hide (TriW.grown (hM4.out.alloc _) hg7 (fun q hq => by have := (hlt.out q hq).2; omega)); have hPM7 := hide (PlY.kept (hPM4.out.up (al w6 _)) (hrow.out.alloc _) hg7); have hP7 := hide (PsZ.pushM hn6.out hus.out (hrow.out.alloc _) (fun j u q hu hq => (hall.out j u q hu hq).alloc _) (hPN4.out.alloc _) hr7 hg7); have hb7 := hide ((hb4.out.alloc (by have := hb4.out.size; omega) _).grown hg7 (by simp; omega) (fun q hq => by have := (hlt.out q hq).1; omega)); have hob7 := hide (((hg7.block w2.heap.size (by simp; omega) (fun e => by have := (hlt.out _ e.symm).2; omega)).trans (Below.heap_alloc _ _ _ (by omega))).trans hob4.out); obtain ⟨b0, b1, b2, b3, j0, j1, j2, j3, _⟩ := hO7.out; clear hr7 hg7 a0 a1 a2 a3 g0 g1 g2 g3))
              go_meet
              exact ⟨A9, c9, hO7.out.set3 _, hC7.out.other (a := ⟨w2.heap.size, 3, none⟩) (show w2.heap.size ≠ w.heap.size + 1 + 1 by omega) _, hM7.out.other (a := ⟨w2.heap.size, 3, none⟩) (show w2.heap.size ≠ w3.heap.size by omega) _, (hPM7.out.down (by simp; omega)).setDesk (a := ⟨w2.heap.size, 3, none⟩) hob7.out _, hP7.out.setDesk (a := ⟨w2.heap.size, 3, none⟩) hob7.out _, hb7.out.setCell (p := ⟨w2.heap.size, 3, none⟩) (show w.heap.size ≤ w2.heap.size by omega) _, ⟨KP.refl, desk_stays (a := ⟨w2.heap.size, 3, none⟩) hob7.out _⟩⟩
            case rest =>
              obtain ⟨A9, c9, hO8, hC8, hM8, hPM8, hP8, hb8, hK8⟩ := hcut
              have hne23 : w2.heap.size ≠ w3.heap.size := by omega
              have hne2R : w2.heap.size ≠ w.heap.size + 1 + 1 := by omega
              clear hO4 hC4 hM4 hPM4 hPN4 hob4 hlt hrow hus hall hb4 a0 a1 a2 a3 g0 g1 g2 g3
              by_cases hn8 : n6 = 8
              · have hn8b : 8 < n6 + 1 := by omega
                have e3 := hide (show pushP d.past d.now = (d.past ++ [d.now]).drop 1 by
                  unfold pushP
                  rw [if_pos (by have := hn6.out; simp; omega)])
                obtain ⟨gp, _, _, _, _, _, _, rfl, _, _, hc9, _⟩ := hP8.atZ (j := 0) (List.getElem?_eq_getElem (by simp))
                have hn8 := hide hn8
                clear hn68
                have hP8 := hide hP8
                have hPM8 := hide hPM8
                have hM9 := hide ((hM8).other (a := ⟨w2.heap.size, 3, none⟩) hne23 (.slice (some ⟨gp, 3, none⟩) 8 (c9 - 1)))
                have hC9 := hide (((((hC8).other (a := ⟨w2.heap.size, 3, none⟩) hne2R (.slice (some ⟨gp, 3, none⟩) 8 (c9 - 1))).other (a := ⟨w2.heap.size, 0, none⟩) hne2R (.slice A7 n7 c7)).other (a := ⟨w2.heap.size, 1, none⟩) hne2R (.int .i64 M.step)).other (a := ⟨w2.heap.size, 2, none⟩) hne2R (.slice A8 n8 c8))
                have hK9 := hide (((((hK8).set 3 (.slice (some ⟨gp, 3, none⟩) 8 (c9 - 1))).set 0 (.slice A7 n7 c7)).set 1 (.int .i64 M.step)).set 2 (.slice A8 n8 c8))
                have hb9 := hide (((((hb8).setCell (p := ⟨w2.heap.size, 3, none⟩) (show w.heap.size ≤ w2.heap.size by omega) (.slice (some ⟨gp, 3, none⟩) 8 (c9 - 1))).setCell (p := ⟨w2.heap.size, 0, none⟩) (show w.heap.size ≤ w2.heap.size by omega) (.slice A7 n7 c7)).setCell (p := ⟨w2.heap.size, 1, none⟩) (show w.heap.size ≤ w2.heap.size by omega) (.int .i64 M.step)).setCell (p := ⟨w2.heap.size, 2, none⟩) (show w.heap.size ≤ w2.heap.size by omega) (.slice A8 n8 c8))
                obtain ⟨m0, m1, m2, _⟩ := hM9.out
                obtain ⟨r0, r1, r2, r3, f0, f1, f2, f3, _⟩ := hC9.out
                obtain ⟨b0, b1, b2, b3, j0, j1, j2, j3, _⟩ := hO8
                clear hM8 hC8 hK8 hb8 hM9
                go_wp2_with fail
                have hRb : w.heap.size + 1 + 1 < w1.heap.size := by have := hl1.out; omega
                have hRl := hide (show w.heap.size ≤ w1.heap.size by omega)
                have hKf := hide (((((hK9.out.kp).low (a := ⟨w.heap.size + 1 + 1, 0, none⟩) hRb (.slice A7 n7 c7)).low (a := ⟨w.heap.size + 1 + 1, 1, none⟩) hRb (.int .i64 M.step)).low (a := ⟨w.heap.size + 1 + 1, 2, none⟩) hRb (.slice A8 n8 c8)).low (a := ⟨w.heap.size + 1 + 1, 3, none⟩) hRb (.slice (some ⟨gp, 3, none⟩) 8 (c9 - 1)))
                have hBf := hide (((((hb9.out).setCell (p := ⟨w.heap.size + 1 + 1, 0, none⟩) (by simp; omega) (.slice A7 n7 c7)).setCell (p := ⟨w.heap.size + 1 + 1, 1, none⟩) (by simp; omega) (.int .i64 M.step)).setCell (p := ⟨w.heap.size + 1 + 1, 2, none⟩) (by simp; omega) (.slice A8 n8 c8)).setCell (p := ⟨w.heap.size + 1 + 1, 3, none⟩) (by simp; omega) (.slice (some ⟨gp, 3, none⟩) 8 (c9 - 1)))
                have hTf := hide (((((hC9.out).set0 (.slice A7 n7 c7)).set1 (.int .i64 M.step)).set2 (.slice A8 n8 c8)).set3 (.slice (some ⟨gp, 3, none⟩) 8 (c9 - 1)))
                obtain ⟨k0, k1, k2, k3, _⟩ := hTf.out
                exact bodyPost_ret (v := .tuple #[.agg #[.slice A7 n7 c7, .int .i64 M.step, .slice A8 n8 c8, .slice (some ⟨gp, 3, none⟩) 8 (c9 - 1)], .bool true]) (by simp [results, Tryd.results9, go_sem, k0, k1, k2, k3]) rfl ⟨_, by rw [e1.out], by rw [e2.out, e3.out]; exact dkS_mk ((hKf.out.pl _ _ hPM8.out).down hRl.out) (.inr ⟨_, _, _, _, (hKf.out.ps _ _ hP8.out).down hRl.out, by omega, by have hz := hn8.out; first | rfl | (rw [show n6 + 1 - 1 = 8 by omega]), rfl, by have h1 := (hKf.out.ps _ _ hP8.out).psM.len; rw [List.length_drop]; omega⟩), hBf.out⟩
              · have hn8 : n6 < 8 := by omega
                have e3 := hide (show pushP d.past d.now = d.past ++ [d.now] by
                  unfold pushP
                  rw [if_neg (by have := hn6.out; simp; omega)])
                have hP8 := hide hP8
                have hPM8 := hide hPM8
                have hM9 := hide (hM8)
                have hC9 := hide ((((hC8).other (a := ⟨w2.heap.size, 0, none⟩) hne2R (.slice A7 n7 c7)).other (a := ⟨w2.heap.size, 1, none⟩) hne2R (.int .i64 M.step)).other (a := ⟨w2.heap.size, 2, none⟩) hne2R (.slice A8 n8 c8))
                have hK9 := hide ((((hK8).set 0 (.slice A7 n7 c7)).set 1 (.int .i64 M.step)).set 2 (.slice A8 n8 c8))
                have hb9 := hide ((((hb8).setCell (p := ⟨w2.heap.size, 0, none⟩) (show w.heap.size ≤ w2.heap.size by omega) (.slice A7 n7 c7)).setCell (p := ⟨w2.heap.size, 1, none⟩) (show w.heap.size ≤ w2.heap.size by omega) (.int .i64 M.step)).setCell (p := ⟨w2.heap.size, 2, none⟩) (show w.heap.size ≤ w2.heap.size by omega) (.slice A8 n8 c8))
                obtain ⟨m0, m1, m2, _⟩ := hM9.out
                obtain ⟨r0, r1, r2, r3, f0, f1, f2, f3, _⟩ := hC9.out
                obtain ⟨b0, b1, b2, b3, j0, j1, j2, j3, _⟩ := hO8
                clear hM8 hC8 hK8 hb8 hM9
                go_wp2_with fail
                have hRb : w.heap.size + 1 + 1 < w1.heap.size := by have := hl1.out; omega
                have hRl := hide (show w.heap.size ≤ w1.heap.size by omega)
                have hKf := hide (((((hK9.out.kp).low (a := ⟨w.heap.size + 1 + 1, 0, none⟩) hRb (.slice A7 n7 c7)).low (a := ⟨w.heap.size + 1 + 1, 1, none⟩) hRb (.int .i64 M.step)).low (a := ⟨w.heap.size + 1 + 1, 2, none⟩) hRb (.slice A8 n8 c8)).low (a := ⟨w.heap.size + 1 + 1, 3, none⟩) hRb (.slice A9 (n6 + 1) c9))
                have hBf := hide (((((hb9.out).setCell (p := ⟨w.heap.size + 1 + 1, 0, none⟩) (by simp; omega) (.slice A7 n7 c7)).setCell (p := ⟨w.heap.size + 1 + 1, 1, none⟩) (by simp; omega) (.int .i64 M.step)).setCell (p := ⟨w.heap.size + 1 + 1, 2, none⟩) (by simp; omega) (.slice A8 n8 c8)).setCell (p := ⟨w.heap.size + 1 + 1, 3, none⟩) (by simp; omega) (.slice A9 (n6 + 1) c9))
                have hTf := hide (((((hC9.out).set0 (.slice A7 n7 c7)).set1 (.int .i64 M.step)).set2 (.slice A8 n8 c8)).set3 (.slice A9 (n6 + 1) c9))
                obtain ⟨k0, k1, k2, k3, _⟩ := hTf.out
                exact bodyPost_ret (v := .tuple #[.agg #[.slice A7 n7 c7, .int .i64 M.step, .slice A8 n8 c8, .slice A9 (n6 + 1) c9], .bool true]) (by simp [results, Tryd.results9, go_sem, k0, k1, k2, k3]) rfl ⟨_, by rw [e1.out], by rw [e2.out, e3.out]; exact dkS_mk ((hKf.out.pl _ _ hPM8.out).down hRl.out) (.inl ((hKf.out.ps _ _ hP8.out).down hRl.out)), hBf.out⟩
end Go.Proofs.YtoafpokcbbncfaaDoor

namespace Go.Proofs.YtoafpokcbbncfaaDoor
open Go.RowKit
set_option linter.unusedVariables false

set_option maxRecDepth 100000 in
set_option maxHeartbeats 3200000 in
theorem deskNew_specS (v : Value) (p : Plc) (B : Nat) (w : World) (h : PlM w B v p) (hB : B ≤ w.heap.size) :
    Calls Tryd.prog 93 #[v] w fun e w' => ∃ u, e = .returned (.tuple #[u, .bool (placeOk p)]) ∧ DkS w' w.heap.size u (newDsk p) ∧ Below w.heap.size w w' := by
  obtain ⟨A, n, c, A', n', c', rfl, h1, h2, hwf⟩ := h.ex
  have hq0 := hide (show Below w.heap.size w ((w.alloc (.cells #[.slice A n c, .int .i64 p.step, .slice A' n' c'] 31)).alloc (.cells #[.slice none 0 0, .int .i64 0, .slice none 0 0, .slice none 0 0] 34)) from (al w _).alloc (by simp) _)
  have ht := hide (show Tri ((w.alloc (.cells #[.slice A n c, .int .i64 p.step, .slice A' n' c'] 31)).alloc (.cells #[.slice none 0 0, .int .i64 0, .slice none 0 0, .slice none 0 0] 34)) w.heap.size (.slice A n c) (.int .i64 p.step) (.slice A' n' c') from (Tri.made w _ _ _ _).up (al _ _))
  have hz := hide (show QuaW ((w.alloc (.cells #[.slice A n c, .int .i64 p.step, .slice A' n' c'] 31)).alloc (.cells #[.slice none 0 0, .int .i64 0, .slice none 0 0, .slice none 0 0] 34)) (w.heap.size + 1) (.slice none 0 0) (.int .i64 0) (.slice none 0 0) (.slice none 0 0) from by have := QuaW.made (w.alloc (.cells #[.slice A n c, .int .i64 p.step, .slice A' n' c'] 31)) (.slice none 0 0) (.int .i64 0) (.slice none 0 0) (.slice none 0 0) 34; simpa using this)
  obtain ⟨W0, hW0⟩ : ∃ W0, Hid ((w.alloc (.cells #[.slice A n c, .int .i64 p.step, .slice A' n' c'] 31)).alloc (.cells #[.slice none 0 0, .int .i64 0, .slice none 0 0, .slice none 0 0] 34) = W0) := ⟨_, hide rfl⟩
  rw [hW0.out] at hq0 ht hz
  have hgs := hide (show w.heap.size + 2 = W0.heap.size by rw [← hW0.out]; simp)
  have i1 := hide ((h1.more hB).up hq0.out)
  have i2 := hide ((h2.more hB).up hq0.out)
  have HO := hide (placeOk_spec _ p _ W0 (plM_mk i1.out i2.out hwf) (Nat.le_refl _))
  cases hok : placeOk p with
  | false =>
    rw [hok] at HO
    have e2 := hide (show newDsk p = noDsk by unfold newDsk; rw [hok]; rfl)
    clear hok
    have hW1 := hW0.out
    subst hW1
    go_enter Tryd.func93, Tryd.ntmps93
    go_wp2_with (go_at_call 41; refine HO.out.mono ?_; rintro e w2 ⟨rfl, hq⟩; have hz2 := hide (hz.out.up hq); have hb := hide (upB hq0.out hq); obtain ⟨x0, x1, x2, x3, y0, y1, y2, y3, _⟩ := hz2.out; clear hq)
    obtain ⟨k0, k1, k2, k3, _, _, _, _, _⟩ := (((hz2.out.set0 (.slice none 0 0)).set1 (.int .i64 0)).set2 (.slice none 0 0)).set3 (.slice none 0 0)
    exact bodyPost_ret (v := .tuple #[.agg #[.slice none 0 0, .int .i64 0, .slice none 0 0, .slice none 0 0], .bool false]) (by simp [results, Tryd.results93, go_sem, k0, k1, k2, k3]) rfl ⟨_, rfl, by rw [e2.out]; exact DkS.none_, (((hb.out.setCell (Nat.le_succ _) _).setCell (Nat.le_succ _) _).setCell (Nat.le_succ _) _).setCell (Nat.le_succ _) _⟩
  | true =>
    rw [hok] at HO
    have e2 := hide (show newDsk p = ⟨p, []⟩ by unfold newDsk; rw [hok]; rfl)
    obtain ⟨⟨g1, g3⟩, _, _, g6, _⟩ := placeOk_yes hok
    have HC := hide (fun (W : World) (hq : Below W0.heap.size W0 W) => l15Place_c _ p _ W (plM_mk (i1.out.up hq) (i2.out.up hq) hwf) (Nat.le_refl _) g1 (by omega) (by omega))
    clear hok
    have hW1 := hW0.out
    subst hW1
    go_enter Tryd.func93, Tryd.ntmps93
    go_wp2_with (go_at_call 41; refine HO.out.mono ?_; rintro e w2 ⟨rfl, hq⟩; have hz2 := hide (hz.out.up hq); have hb := hide (upB hq0.out hq); obtain ⟨t0, t1, t2, _⟩ := ht.out.up hq; replace HC := hide (HC.out _ hq))
    refine HC.out.mono ?_
    rintro e w3 ⟨u, rfl, hp, hq3⟩
    obtain ⟨A3, n3, c3, A4, n4, c4, rfl, ho3, ho4, _, _⟩ := hp.ex
    have hz3 := hide (hz2.out.up hq3)
    have hb3 := hide (upB hb.out hq3)
    obtain ⟨x0, x1, x2, x3, y0, y1, y2, y3, hlt3⟩ := hz3.out
    have hsz := hide (show w.heap.size + 1 < w2.heap.size from hz2.out.lt)
    have hs2 := hide (show w.heap.size ≤ w2.heap.size from by have := hsz.out; omega)
    have hF3 := hide ((((ho3.setLow (a := ⟨w.heap.size + 1, 0, none⟩) hsz.out (.slice A3 n3 c3)).setLow (a := ⟨w.heap.size + 1, 1, none⟩) hsz.out (.int .i64 p.step)).setLow (a := ⟨w.heap.size + 1, 2, none⟩) hsz.out (.slice A4 n4 c4)).setLow (a := ⟨w.heap.size + 1, 3, none⟩) hsz.out (.slice none 0 0))
    have hF4 := hide ((((ho4.setLow (a := ⟨w.heap.size + 1, 0, none⟩) hsz.out (.slice A3 n3 c3)).setLow (a := ⟨w.heap.size + 1, 1, none⟩) hsz.out (.int .i64 p.step)).setLow (a := ⟨w.heap.size + 1, 2, none⟩) hsz.out (.slice A4 n4 c4)).setLow (a := ⟨w.heap.size + 1, 3, none⟩) hsz.out (.slice none 0 0))
    go_wp2_with fail
    obtain ⟨k0, k1, k2, k3, _, _, _, _, _⟩ := (((hz3.out.set0 (.slice A3 n3 c3)).set1 (.int .i64 p.step)).set2 (.slice A4 n4 c4)).set3 (.slice none 0 0)
    exact bodyPost_ret (v := .tuple #[.agg #[.slice A3 n3 c3, .int .i64 p.step, .slice A4 n4 c4, .slice none 0 0], .bool true]) (by simp [results, Tryd.results93, go_sem, k0, k1, k2, k3]) rfl ⟨_, rfl, by rw [e2.out]; exact dkS_mk (p := p) ⟨A3, n3, c3, A4, n4, c4, rfl, hF3.out.down hs2.out, hF4.out.down hs2.out, hwf⟩ (.inl PsZ.none_), (((hb3.out.setCell (Nat.le_succ _) _).setCell (Nat.le_succ _) _).setCell (Nat.le_succ _) _).setCell (Nat.le_succ _) _⟩
end Go.Proofs.YtoafpokcbbncfaaDoor

namespace Go.Proofs.YtoafpokcbbncfaaDoor
open Go.RowKit
set_option linter.unusedVariables false

section
variable {w w' : World} {base base' n c g : Nat} {v u : Value} {A : Option Addr} {p : Plc} {ps : List Plc} {zs : List Int} {d : Dsk} {a : Addr} {cs : Array Value}
theorem PsW.setDesk (h : PsW w base v ps) (hb : w.heap[a.block]? = some (.cells cs 34 (0, 0))) (x : Value) : PsW (w.setCell a x) base v ps := by
  rcases h with h | ⟨g, n, c, ps0, h1, h2⟩
  · exact .inl (h.setDesk hb x)
  · exact .inr ⟨g, n, c, ps0, h1.setDesk hb x, h2⟩
theorem DkS.setDesk (h : DkS w base v d) (hb : w.heap[a.block]? = some (.cells cs 34 (0, 0))) (x : Value) : DkS (w.setCell a x) base v d := by
  obtain ⟨A, n, c, A', n', c', A3, n3, c3, e, h1, h2⟩ := h.ex
  exact ⟨A, n, c, A', n', c', A3, n3, c3, e, h1.setDesk hb x, h2.setDesk hb x⟩
/-- The places of before, each one made by the call. -/
structure PsY (w : World) (base : Nat) (v : Value) (ps : List Plc) : Prop where
  ex : ∃ us : List Value, us.length = ps.length ∧ w.ownsRow base 31 3 v ps.length (cellsP us) ∧ ∀ (j : Nat) u p, us[j]? = some u → ps[j]? = some p → PlY w base u p
theorem PsZ.toY (h : PsZ w base v ps) : PsY w base v ps := by
  obtain ⟨us, h1, h2, h3⟩ := h.ex
  exact ⟨us, h1, h2, fun j u p hu hp => (h3 j u p hu hp).toY⟩
theorem PsY.up (h : PsY w base v ps) (hq : Below w.heap.size w w') : PsY w' base v ps := by
  obtain ⟨us, h1, h2, h3⟩ := h.ex
  exact ⟨us, h1, h2.kept (row := none) ⟨hq.os, hq.tape, hq.output, hq.size, fun k hk _ => hq.block k hk⟩ (by cases v.ownBlock <;> simp), fun j u p hu hp => (h3 j u p hu hp).up hq⟩
theorem PsY.far (h : PsY w base v ps) (hg : w.grownBy w' (some g)) (hlt : g < base) : PsY w' base v ps := by
  obtain ⟨us, h1, h2, h3⟩ := h.ex
  exact ⟨us, h1, h2.kept hg (row_far h2 hlt), fun j u p hu hp => (h3 j u p hu hp).far hg hlt⟩
theorem PsY.down (h : PsY w base v ps) (hb : base' ≤ base) : PsY w base' v ps := by
  obtain ⟨us, h1, h2, h3⟩ := h.ex
  exact ⟨us, h1, ownsRow_down h2 hb, fun j u p hu hp => (h3 j u p hu hp).down hb⟩
theorem PsY.setDesk (h : PsY w base v ps) (hb : w.heap[a.block]? = some (.cells cs 34 (0, 0))) (x : Value) : PsY (w.setCell a x) base v ps := by
  obtain ⟨us, h1, h2, h3⟩ := h.ex
  exact ⟨us, h1, h2.kept (grown_at w a x) (.inr (row_neDesk (by decide) h2 hb)), fun j u p hu hp => (h3 j u p hu hp).setDesk hb x⟩
theorem PsY.psM (h : PsY w base (.slice A n c) ps) : PsM w w.heap.size A n c ps := by
  obtain ⟨us, h1, h2, h3⟩ := h.ex
  have h3e : ∀ u ∈ us, u.cells.size = 3 := by
    intro u hu
    obtain ⟨j, hj, rfl⟩ := List.getElem_of_mem hu
    obtain ⟨A1, n1, c1, A2, n2, c2, e, _⟩ := (h3 j _ _ (List.getElem?_eq_getElem hj) (List.getElem?_eq_getElem (by omega))).ex
    rw [e]; rfl
  rcases row_shape h2 with ⟨hv, h0⟩ | ⟨g, cap, hv, hg, hh, hn, hm⟩
  · injection hv with e1 e2 e3
    subst e1; subst e2; subst e3
    obtain rfl := List.eq_nil_of_length_eq_zero h0
    exact PsM.nil
  · injection hv with e1 e2 e3
    subst e1; subst e2; subst e3
    refine ⟨rfl, hn, hm, fun hp => ⟨g, 0, rfl, hh, fun j p hp => ?_⟩, fun e => by cases e⟩
    have hj : j < ps.length := (List.getElem?_eq_some_iff.1 hp).1
    obtain ⟨A1, n1, c1, A2, n2, c2, e, i1, i2, hwf⟩ := (h3 j _ p (List.getElem?_eq_getElem (by omega)) hp).ex
    have hat := cellsP_at h3e (j := j) (x := .slice A1 n1 c1) (y := .int .i64 p.step) (z := .slice A2 n2 c2) (by rw [List.getElem?_eq_getElem (by omega), e])
    have hlen := h2.1
    refine ⟨A1, n1, c1, A2, n2, c2, ?_, ?_, ?_, i1.ints, i2.ints, hwf⟩
    · rw [Nat.zero_add, h2.cellAt _ (by omega)]; exact hat.1
    · rw [Nat.zero_add, h2.cellAt _ (by omega)]; exact hat.2.1
    · rw [Nat.zero_add, h2.cellAt _ (by omega)]; exact hat.2.2
theorem PsY.pushM {m c' : Nat} {A' : Option Addr} {us : List Value} (hm : m = ps.length) (h1 : us.length = ps.length) (h2 : w.ownsRow base 31 3 v m (cellsP us)) (h3 : ∀ (j : Nat) u p, us[j]? = some u → ps[j]? = some p → PlY w base u p)
    (hu : PlY w base u p) (hr : w'.ownsRow base 31 3 (.slice A' (m + 1) c') (m + 1) (cellsP us ++ u.cells.toList)) (hg : w.grownBy w' v.ownBlock) : PsY w' base (.slice A' (m + 1) c') (ps ++ [p]) := by
  subst hm
  refine ⟨us ++ [u], by simp [h1], ?_, fun j x q hx hq => ?_⟩
  · rw [List.length_append, cellsP_append]
    have : cellsP [u] = u.cells.toList := by unfold cellsP; simp
    rw [this]
    exact hr
  · rcases Nat.lt_or_ge j us.length with hj | hj
    · rw [List.getElem?_append_left hj] at hx
      rw [List.getElem?_append_left (by omega)] at hq
      exact (h3 j x q hx hq).kept h2 hg
    · rw [List.getElem?_append_right hj] at hx
      rw [List.getElem?_append_right (by omega)] at hq
      have hj0 : j - us.length = 0 := by have := (List.getElem?_eq_some_iff.1 hx).1; simp at this; omega
      rw [hj0] at hx
      rw [show j - ps.length = 0 by omega] at hq
      simp at hx hq
      subst hx; subst hq
      exact hu.kept h2 hg
/-- A desk as a draw hands it back. -/
def PsF (w : World) (base : Nat) (v : Value) (ps : List Plc) : Prop := PsY w base v ps ∨ PsW w base v ps
theorem PsF.psM (h : PsF w base (.slice A n c) ps) : PsM w w.heap.size A n c ps := by
  rcases h with h | h
  · exact h.psM
  · exact h.psM
structure DkF (w : World) (base : Nat) (v : Value) (d : Dsk) : Prop where
  ex : ∃ A n c A' n' c' A3 n3 c3, v = .agg #[.slice A n c, .int .i64 d.now.step, .slice A' n' c', .slice A3 n3 c3] ∧ PlY w base (.agg #[.slice A n c, .int .i64 d.now.step, .slice A' n' c']) d.now ∧ PsF w base (.slice A3 n3 c3) d.past
theorem DkS.toF (h : DkS w base v d) : DkF w base v d := by
  obtain ⟨A, n, c, A', n', c', A3, n3, c3, e, h1, h2⟩ := h.ex
  exact ⟨A, n, c, A', n', c', A3, n3, c3, e, h1, .inr h2⟩
theorem DkF.up (h : DkF w base v d) (hq : Below w.heap.size w w') : DkF w' base v d := by
  obtain ⟨A, n, c, A', n', c', A3, n3, c3, e, h1, h2⟩ := h.ex
  exact ⟨A, n, c, A', n', c', A3, n3, c3, e, h1.up hq, by rcases h2 with h2 | h2; exact .inl (h2.up hq); exact .inr (h2.up hq)⟩
theorem DkF.far (h : DkF w base v d) (hg : w.grownBy w' (some g)) (hlt : g < base) : DkF w' base v d := by
  obtain ⟨A, n, c, A', n', c', A3, n3, c3, e, h1, h2⟩ := h.ex
  exact ⟨A, n, c, A', n', c', A3, n3, c3, e, h1.far hg hlt, by rcases h2 with h2 | h2; exact .inl (h2.far hg hlt); exact .inr (h2.far hg hlt)⟩
theorem DkF.down (h : DkF w base v d) (hb : base' ≤ base) : DkF w base' v d := by
  obtain ⟨A, n, c, A', n', c', A3, n3, c3, e, h1, h2⟩ := h.ex
  exact ⟨A, n, c, A', n', c', A3, n3, c3, e, h1.down hb, by rcases h2 with h2 | h2; exact .inl (h2.down hb); exact .inr (h2.down hb)⟩
theorem DkF.setDesk (h : DkF w base v d) (hb : w.heap[a.block]? = some (.cells cs 34 (0, 0))) (x : Value) : DkF (w.setCell a x) base v d := by
  obtain ⟨A, n, c, A', n', c', A3, n3, c3, e, h1, h2⟩ := h.ex
  exact ⟨A, n, c, A', n', c', A3, n3, c3, e, h1.setDesk hb x, by rcases h2 with h2 | h2; exact .inl (h2.setDesk hb x); exact .inr (h2.setDesk hb x)⟩
theorem DkF.dkM (h : DkF w base v d) : DkM w w.heap.size v d := by
  obtain ⟨A, n, c, A', n', c', A3, n3, c3, rfl, h1, h2⟩ := h.ex
  obtain ⟨i1, i2, _, hw⟩ := h1.ints
  exact ⟨A, n, c, A', n', c', A3, n3, c3, rfl, i1, i2, hw, h2.psM⟩
end
/-- A block of a desk that may be written. -/
structure DBox (W : World) (b : Nat) (x y z u : Value) : Prop where
  qua : QuaW W b x y z u
  ob : ∃ cs, W.heap[b]? = some (.cells cs 34 (0, 0))
section
variable {W W' : World} {b g : Nat} {x y z u x' y' z' u' : Value}
theorem DBox.madeAt (hb : b = W.heap.size) : DBox (W.alloc (.cells #[x, y, z, u] 34)) b x y z u := by
  subst hb
  exact ⟨QuaW.made W x y z u _, _, obj_made W _⟩
theorem DBox.lt (h : DBox W b x y z u) : b < W.heap.size := h.qua.lt
theorem DBox.grown {row : Option Nat} (h : DBox W b x y z u) (hg : W.grownBy W' row) (hne : ∀ k, row = some k → k ≠ b) : DBox W' b x y z u := by
  obtain ⟨cs, e⟩ := h.ob
  exact ⟨h.qua.grown hg hne, cs, (hg.block b h.lt (fun e => hne b e.symm rfl)).trans e⟩
theorem DBox.up (h : DBox W b x y z u) (hq : Below W.heap.size W W') : DBox W' b x y z u := by
  obtain ⟨cs, e⟩ := h.ob
  exact ⟨h.qua.up hq, cs, (hq.block b h.lt).trans e⟩
theorem ne_blk {g b : Nat} (h : g < b) : ∀ k, some g = some k → k ≠ b := fun k e => by have e2 : g = k := Option.some.inj e; omega
theorem DBox.drew (h : DBox W b x y z u) : DBox W.drew b x y z u := h.up (Below.refl _ _).drew
theorem DBox.set (h : DBox W b x' y' z' u') (x y z u : Value) : DBox ((((W.setCell ⟨b, 0, none⟩ x).setCell ⟨b, 1, none⟩ y).setCell ⟨b, 2, none⟩ z).setCell ⟨b, 3, none⟩ u) b x y z u := by
  obtain ⟨cs, e⟩ := h.ob
  obtain ⟨c1, e1⟩ := desk_stays (a := ⟨b, 0, none⟩) e x
  obtain ⟨c2, e2⟩ := desk_stays (a := ⟨b, 1, none⟩) e1 y
  obtain ⟨c3, e3⟩ := desk_stays (a := ⟨b, 2, none⟩) e2 z
  exact ⟨(((h.qua.set0 x).set1 y).set2 z).set3 u, desk_stays (a := ⟨b, 3, none⟩) e3 u⟩
theorem DBox.other (h : DBox W b x y z u) {a : Addr} (ha : a.block ≠ b) (v : Value) : DBox (W.setCell a v) b x y z u := h.grown (grown_at W a v) (fun k e => by injection e with e; omega)
/-- What survives stores into a block of a desk. -/
theorem dks_set4 {base : Nat} {v : Value} {d : Dsk} (h : DkF W base v d) (hb : DBox W b x' y' z' u') (x y z u : Value) : DkF ((((W.setCell ⟨b, 0, none⟩ x).setCell ⟨b, 1, none⟩ y).setCell ⟨b, 2, none⟩ z).setCell ⟨b, 3, none⟩ u) base v d := by
  obtain ⟨cs, e⟩ := hb.ob
  obtain ⟨c1, e1⟩ := desk_stays (a := ⟨b, 0, none⟩) e x
  obtain ⟨c2, e2⟩ := desk_stays (a := ⟨b, 1, none⟩) e1 y
  obtain ⟨c3, e3⟩ := desk_stays (a := ⟨b, 2, none⟩) e2 z
  exact (((h.setDesk (a := ⟨b, 0, none⟩) e x).setDesk (a := ⟨b, 1, none⟩) e1 y).setDesk (a := ⟨b, 2, none⟩) e2 z).setDesk (a := ⟨b, 3, none⟩) e3 u
theorem dkS_set4 {base : Nat} {v : Value} {d : Dsk} (h : DkS W base v d) (hb : DBox W b x' y' z' u') (x y z u : Value) : DkS ((((W.setCell ⟨b, 0, none⟩ x).setCell ⟨b, 1, none⟩ y).setCell ⟨b, 2, none⟩ z).setCell ⟨b, 3, none⟩ u) base v d := by
  obtain ⟨cs, e⟩ := hb.ob
  obtain ⟨c1, e1⟩ := desk_stays (a := ⟨b, 0, none⟩) e x
  obtain ⟨c2, e2⟩ := desk_stays (a := ⟨b, 1, none⟩) e1 y
  obtain ⟨c3, e3⟩ := desk_stays (a := ⟨b, 2, none⟩) e2 z
  exact (((h.setDesk (a := ⟨b, 0, none⟩) e x).setDesk (a := ⟨b, 1, none⟩) e1 y).setDesk (a := ⟨b, 2, none⟩) e2 z).setDesk (a := ⟨b, 3, none⟩) e3 u
theorem grown_set4 {w0 : World} {row : Option Nat} (h : w0.grownBy W row) (hb : w0.heap.size ≤ b) (x y z u : Value) : w0.grownBy ((((W.setCell ⟨b, 0, none⟩ x).setCell ⟨b, 1, none⟩ y).setCell ⟨b, 2, none⟩ z).setCell ⟨b, 3, none⟩ u) row := by
  have s : ∀ {X : World} {i : Nat} {v : Value}, w0.grownBy X row → w0.grownBy (X.setCell ⟨b, i, none⟩ v) row := fun {X i v} hX => grown_new hX (grown_at X ⟨b, i, none⟩ v) (fun j e => .inl (by have e2 : b = j := Option.some.inj e; omega))
  exact s (s (s (s h)))
theorem rd_set4 {g m : Nat} (h : Rd W g m) (hb : g < b) (x y z u : Value) : Rd ((((W.setCell ⟨b, 0, none⟩ x).setCell ⟨b, 1, none⟩ y).setCell ⟨b, 2, none⟩ z).setCell ⟨b, 3, none⟩ u) g m := by
  have s : ∀ {X : World} {i : Nat} {v : Value}, Rd X g m → Rd (X.setCell ⟨b, i, none⟩ v) g m := fun {X i v} hX => hX.kept (grown_at X ⟨b, i, none⟩ v) (fun k e => by have e2 : b = k := Option.some.inj e; omega)
  exact s (s (s (s h)))
theorem DBox.other4 {b' : Nat} (h : DBox W b' x' y' z' u') (hne : b ≠ b') (x y z u : Value) : DBox ((((W.setCell ⟨b, 0, none⟩ x).setCell ⟨b, 1, none⟩ y).setCell ⟨b, 2, none⟩ z).setCell ⟨b, 3, none⟩ u) b' x' y' z' u' :=
  (((h.other (a := ⟨b, 0, none⟩) hne x).other (a := ⟨b, 1, none⟩) hne y).other (a := ⟨b, 2, none⟩) hne z).other (a := ⟨b, 3, none⟩) hne u
end
/-- The state of a draw of a desk: the reader, the result's block, and the desk's block with what it holds. -/
structure Kq (w0 W : World) (g m b : Nat) (A : Option Addr) (n c : Nat) (A' : Option Addr) (n' c' : Nat) (A3 : Option Addr) (n3 c3 : Nat) (d : Dsk) : Prop where
  rd : Rd W g m
  gr : w0.grownBy W (some g)
  hg : g < w0.heap.size
  hb : w0.heap.size < b
  res : DBox W w0.heap.size (.slice none 0 0) (.int .i64 0) (.slice none 0 0) (.slice none 0 0)
  box : DBox W b (.slice A n c) (.int .i64 d.now.step) (.slice A' n' c') (.slice A3 n3 c3)
  dk : DkS W w0.heap.size (.agg #[.slice A n c, .int .i64 d.now.step, .slice A' n' c', .slice A3 n3 c3]) d
section
variable {w0 W W' : World} {g m m' b n c n' c' n3 c3 : Nat} {A A' A3 : Option Addr} {d : Dsk}
theorem Kq.below (h : Kq w0 W g m b A n c A' n' c' A3 n3 c3 d) (hq : Below W.heap.size W W') : Kq w0 W' g m b A n c A' n' c' A3 n3 c3 d :=
  have hg : W.grownBy W' none := ⟨hq.os, hq.tape, hq.output, hq.size, fun k hk _ => hq.block k hk⟩
  ⟨h.rd.kept hg (fun k e => by cases e), grown_new h.gr hg (fun j e => by cases e), h.hg, h.hb, h.res.up hq, h.box.up hq, h.dk.up hq⟩
theorem Kq.alloc (h : Kq w0 W g m b A n c A' n' c' A3 n3 c3 d) (o : Obj) : Kq w0 (W.alloc o) g m b A n c A' n' c' A3 n3 c3 d := h.below (al W o)
theorem Kq.drew (h : Kq w0 W g m b A n c A' n' c' A3 n3 c3 d) : Kq w0 W.drew g m b A n c A' n' c' A3 n3 c3 d := h.below (Below.refl _ _).drew
theorem Kq.more (h : Kq w0 W g m b A n c A' n' c' A3 n3 c3 d) (hm : m ≤ m') : Kq w0 W g m' b A n c A' n' c' A3 n3 c3 d := ⟨h.rd.more hm, h.gr, h.hg, h.hb, h.res, h.box, h.dk⟩
theorem Kq.read (h : Kq w0 W g m b A n c A' n' c' A3 n3 c3 d) (hr : Rd W' g m') (hg : W.grownBy W' (some g)) : Kq w0 W' g m' b A n c A' n' c' A3 n3 c3 d := by
  have h1 := h.hg
  have h2 := h.hb
  exact ⟨hr, grown_new h.gr hg (fun _ _ => .inr rfl), h.hg, h.hb, h.res.grown hg (fun k e => by injection e with e; omega), h.box.grown hg (fun k e => by injection e with e; omega), h.dk.far hg h.hg⟩
/-- Another desk's block is written. -/
theorem Kq.put {b8 : Nat} {x' y' z' u' : Value} (h : Kq w0 W g m b A n c A' n' c' A3 n3 c3 d) (h8 : DBox W b8 x' y' z' u') (hl : w0.heap.size < b8) (hne : b8 ≠ b) (x y z u : Value) : Kq w0 ((((W.setCell ⟨b8, 0, none⟩ x).setCell ⟨b8, 1, none⟩ y).setCell ⟨b8, 2, none⟩ z).setCell ⟨b8, 3, none⟩ u) g m b A n c A' n' c' A3 n3 c3 d :=
  have h1 := h.hg
  ⟨rd_set4 h.rd (by omega) x y z u, grown_set4 h.gr (by omega) x y z u, h.hg, h.hb, h.res.other4 (by omega) x y z u, h.box.other4 hne x y z u, dkS_set4 h.dk h8 x y z u⟩
/-- The desk's own block is written. -/
theorem Kq.setD {B1 B2 B3 : Option Addr} {n1 c1 n2 c2 n5 c5 : Nat} {e : Dsk} (h : Kq w0 W g m b A n c A' n' c' A3 n3 c3 d) (hd : DkS W w0.heap.size (.agg #[.slice B1 n1 c1, .int .i64 e.now.step, .slice B2 n2 c2, .slice B3 n5 c5]) e) :
    Kq w0 ((((W.setCell ⟨b, 0, none⟩ (.slice B1 n1 c1)).setCell ⟨b, 1, none⟩ (.int .i64 e.now.step)).setCell ⟨b, 2, none⟩ (.slice B2 n2 c2)).setCell ⟨b, 3, none⟩ (.slice B3 n5 c5)) g m b B1 n1 c1 B2 n2 c2 B3 n5 c5 e :=
  have h1 := h.hg
  have h2 := h.hb
  ⟨rd_set4 h.rd (by omega) _ _ _ _, grown_set4 h.gr (by omega) _ _ _ _, h.hg, h.hb, h.res.other4 (by omega) _ _ _ _, h.box.set _ _ _ _, dkS_set4 hd h.box _ _ _ _⟩
end
theorem deskOk_start {d : Dsk} (h : deskOk d = true ∨ d = noDsk) : d.now.start.length ≤ 3 ∧ d.now.word.length ≤ 6 := by
  rcases h with h | rfl
  · obtain ⟨⟨_, g⟩, _, _, g2, _⟩ := placeOk_yes (deskOk_yes h).2.1
    exact ⟨g, g2⟩
  · exact ⟨Nat.zero_le _, Nat.zero_le _⟩
theorem deskX_or {d : Dsk} {q : Ded} (h : deskOk d = true ∨ d = noDsk) : deskOk (deskX d q) = true ∨ deskX d q = noDsk := by
  rcases h with h | rfl
  · exact .inl (deskX_ok h)
  · exact .inr (deskX_no noDsk_no)
theorem deskX_past {d : Dsk} {q : Ded} : (deskX d q).past.length ≤ d.past.length + 1 := by
  unfold deskX
  split
  · unfold deskD
    split
    · show d.past.dropLast.length ≤ _
      rw [List.length_dropLast]; omega
    · split
      · show (pushP d.past d.now).length ≤ _
        unfold pushP
        split
        · simp
        · simp
      · omega
  · exact Nat.zero_le _
theorem newDsk_or (p : Plc) : deskOk (newDsk p) = true ∨ newDsk p = noDsk := by
  unfold newDsk
  cases h : placeOk p with
  | true => exact .inl (deskOk_mk (by simp) h (by simp))
  | false => exact .inr rfl
/-- A deed for the desk's place, and the desk after a deed, as the draw asks them. -/
theorem l20Deed_q {w0 W : World} {g m b n c n' c' n3 c3 : Nat} {A A' A3 : Option Addr} {d : Dsk} (h : Kq w0 W g m b A n c A' n' c' A3 n3 c3 d) (hm : m ≤ 50000) (hn : n ≤ 1000000) :
    Calls Tryd.prog 58 #[.pointer (some ⟨g, 0, none⟩), .agg #[.slice A n c, .int .i64 d.now.step, .slice A' n' c']] W fun e w' => ∃ x y z : Int, e = .returned (.agg #[.int .i64 x, .int .i64 y, .int .i64 z]) ∧ wfD ⟨x, y, z⟩ ∧ Kq w0 w' g (m + 10) b A n c A' n' c' A3 n3 c3 d ∧ W.grownBy w' (some g) ∧
      w'.cell? ⟨b, 0, none⟩ = some (.slice A n c) ∧ w'.cell? ⟨b, 1, none⟩ = some (.int .i64 d.now.step) ∧ w'.cell? ⟨b, 2, none⟩ = some (.slice A' n' c') ∧ w'.cell? ⟨b, 3, none⟩ = some (.slice A3 n3 c3) :=
  (l20Deed_c g m A n c d.now.step A' n' c' W h.rd hm hn).mono fun e w' ⟨x, y, z, e1, h1, h2, h3, h4, h5⟩ =>
    have hk := h.read h4 h5
    ⟨x, y, z, e1, ⟨wf_i64 (z := x) (by omega), wf_i64 (z := y) (by omega), wf_i64 (z := z) (by omega)⟩, hk, h5, hk.box.qua.c0, hk.box.qua.c1, hk.box.qua.c2, hk.box.qua.c3⟩
theorem deskDo_q {w0 W : World} {g m b n c n' c' n3 c3 : Nat} {A A' A3 : Option Addr} {d : Dsk} {x y z : Int} (h : Kq w0 W g m b A n c A' n' c' A3 n3 c3 d) (hw : wfD ⟨x, y, z⟩) :
    Calls Tryd.prog 9 #[.agg #[.slice A n c, .int .i64 d.now.step, .slice A' n' c', .slice A3 n3 c3], .agg #[.int .i64 x, .int .i64 y, .int .i64 z]] W fun e w' => ∃ B1 n1 c1 B2 n2 c2 B3 n5 c5, e = .returned (.tuple #[.agg #[.slice B1 n1 c1, .int .i64 (deskX d ⟨x, y, z⟩).now.step, .slice B2 n2 c2, .slice B3 n5 c5], .bool (deskB d ⟨x, y, z⟩)]) ∧
      DkS w' w0.heap.size (.agg #[.slice B1 n1 c1, .int .i64 (deskX d ⟨x, y, z⟩).now.step, .slice B2 n2 c2, .slice B3 n5 c5]) (deskX d ⟨x, y, z⟩) ∧ Kq w0 w' g m b A n c A' n' c' A3 n3 c3 d ∧ Below W.heap.size W w' ∧
      w'.cell? ⟨b, 0, none⟩ = some (.slice A n c) ∧ w'.cell? ⟨b, 1, none⟩ = some (.int .i64 d.now.step) ∧ w'.cell? ⟨b, 2, none⟩ = some (.slice A' n' c') ∧ w'.cell? ⟨b, 3, none⟩ = some (.slice A3 n3 c3) :=
  (deskDo_spec _ d ⟨x, y, z⟩ _ W h.dk.dkM (Nat.le_refl _) hw.2.1 hw.2.2).mono fun e w' ⟨u, e1, hd, hq⟩ => by
    have hk := h.below hq
    have hd' := hd
    obtain ⟨B1, n1, c1, B2, n2, c2, B3, n5, c5, rfl, _⟩ := hd.ex
    exact ⟨B1, n1, c1, B2, n2, c2, B3, n5, c5, e1, hd'.down (Nat.le_of_lt (Nat.lt_trans h.hb h.box.lt)), hk, hq, hk.box.qua.c0, hk.box.qua.c1, hk.box.qua.c2, hk.box.qua.c3⟩
end Go.Proofs.YtoafpokcbbncfaaDoor

namespace Go.Proofs.YtoafpokcbbncfaaDoor
open Go.RowKit
set_option linter.unusedVariables false

theorem DkF.set4 {w : World} {lo g : Nat} {v : Value} {d : Dsk} {x' y' z' u' : Value} (h : DkF w lo v d) (hb : DBox w g x' y' z' u') (x y z u : Value) : DkF ((((w.setCell ⟨g, 0, none⟩ x).setCell ⟨g, 1, none⟩ y).setCell ⟨g, 2, none⟩ z).setCell ⟨g, 3, none⟩ u) lo v d := dks_set4 h hb x y z u
theorem DkF.open_ {w : World} {lo : Nat} {v : Value} {d : Dsk} (h : DkF w lo v d) : ∃ A n c A' n' c' A3 n3 c3, v = .agg #[.slice A n c, .int .i64 d.now.step, .slice A' n' c', .slice A3 n3 c3] := by
  obtain ⟨A, n, c, A', n', c', A3, n3, c3, e, _⟩ := h.ex
  exact ⟨A, n, c, A', n', c', A3, n3, c3, e⟩
set_option maxRecDepth 100000 in
set_option maxHeartbeats 3200000 in
theorem l15Run_c (v : Value) (d : Dsk) (ds : List Ded) (Al : Option Addr) (nl cl B : Nat) (w : World) (h : DkM w B v d) (hB : B ≤ w.heap.size) (hok : deskOk d = true) (hn : nl ≤ 1048576) (hl : DdM w w.heap.size Al nl cl ds) :
    Calls Tryd.prog 53 #[v, .slice Al nl cl] w fun e w' => ∃ u, e = .returned (.tuple #[u, .int .i64 (runN d ds)]) ∧ DkF w' w.heap.size u (runD d ds) ∧ Below w.heap.size w w' := by
  have hdm := hide (h.more hB)
  obtain ⟨A, n, c, A2, n2, c2, A3, n3, c3, rfl, i1, i2, hwf, i3⟩ := h.ex
  clear i1 i2 i3 hwf h hB
  have hlen := hide hl.len
  replace hl := hide hl
  have hb := hide (show Below w.heap.size w ((w.alloc (.cells #[.slice A n c, .int .i64 d.now.step, .slice A2 n2 c2, .slice A3 n3 c3] 34)).alloc (.cells #[.slice none 0 0, .int .i64 0, .slice none 0 0, .slice none 0 0] 34)) from (al w _).alloc (by simp) _)
  have ta := hide (show QuaW ((w.alloc (.cells #[.slice A n c, .int .i64 d.now.step, .slice A2 n2 c2, .slice A3 n3 c3] 34)).alloc (.cells #[.slice none 0 0, .int .i64 0, .slice none 0 0, .slice none 0 0] 34)) w.heap.size (.slice A n c) (.int .i64 d.now.step) (.slice A2 n2 c2) (.slice A3 n3 c3) from (QuaW.made w _ _ _ _ _).alloc _)
  have tr := hide (show DBox ((w.alloc (.cells #[.slice A n c, .int .i64 d.now.step, .slice A2 n2 c2, .slice A3 n3 c3] 34)).alloc (.cells #[.slice none 0 0, .int .i64 0, .slice none 0 0, .slice none 0 0] 34)) (w.heap.size + 1) (.slice none 0 0) (.int .i64 0) (.slice none 0 0) (.slice none 0 0) from DBox.madeAt (by simp))
  have HC := hide (l15Copy_c _ d _ ((w.alloc (.cells #[.slice A n c, .int .i64 d.now.step, .slice A2 n2 c2, .slice A3 n3 c3] 34)).alloc (.cells #[.slice none 0 0, .int .i64 0, .slice none 0 0, .slice none 0 0] 34)) (hdm.out.up hb.out) (Nat.le_refl _) hok)
  obtain ⟨a0, a1, a2, a3, af0, af1, af2, af3, _⟩ := ta.out
  go_enter Tryd.func53, Tryd.ntmps53
  go_wp2_with fail
  refine HC.out.mono ?_
  rintro e w1 ⟨E1, r1, g1, E2, r2, g2, E3, r3, g3, rfl, hpz, hps, hq⟩
  have hdk0 := hide (show DkF w1 w.heap.size (.agg #[.slice E1 r1 g1, .int .i64 d.now.step, .slice E2 r2 g2, .slice E3 r3 g3]) d from
    DkF.down ⟨_, _, _, _, _, _, _, _, _, rfl, hpz.toY, .inl hps.toY⟩ hb.out.size)
  clear hpz hps HC a0 a1 a2 a3 af0 af1 af2 af3 ta
  have hb1 := hide ((upB hb.out hq).alloc (by have := hb.out.size; have := hq.size; omega) (.cells #[.slice E1 r1 g1, .int .i64 d.now.step, .slice E2 r2 g2, .slice E3 r3 g3] 34))
  have tr1 := hide ((tr.out.up hq).up (al w1 (.cells #[.slice E1 r1 g1, .int .i64 d.now.step, .slice E2 r2 g2, .slice E3 r3 g3] 34)))
  have hdk1 := hide (hdk0.out.up (al w1 (.cells #[.slice E1 r1 g1, .int .i64 d.now.step, .slice E2 r2 g2, .slice E3 r3 g3] 34)))
  have t6 := hide (show DBox (w1.alloc (.cells #[.slice E1 r1 g1, .int .i64 d.now.step, .slice E2 r2 g2, .slice E3 r3 g3] 34)) w1.heap.size (.slice E1 r1 g1) (.int .i64 d.now.step) (.slice E2 r2 g2) (.slice E3 r3 g3) from DBox.madeAt rfl)
  have hlt := hide (show w.heap.size + 1 < w1.heap.size from (tr.out.up hq).lt)
  clear hb tr hdk0 hq hdm
  go_wp2_with fail
  go_loopw [7, 8] (fun m i wr => ∃ k : Nat, ∃ B1 m1 e1 B2 m2 e2 B3 m3 e3, k ≤ nl ∧ i = .int .i64 k ∧ m = .int .i64 (runN d (ds.take k)) ∧ Hid (DkF wr w.heap.size (.agg #[.slice B1 m1 e1, .int .i64 (runD d (ds.take k)).now.step, .slice B2 m2 e2, .slice B3 m3 e3]) (runD d (ds.take k))) ∧ Hid (DBox wr w1.heap.size (.slice B1 m1 e1) (.int .i64 (runD d (ds.take k)).now.step) (.slice B2 m2 e2) (.slice B3 m3 e3)) ∧ Hid (DBox wr (w.heap.size + 1) (.slice none 0 0) (.int .i64 0) (.slice none 0 0) (.slice none 0 0)) ∧ Hid (Below w.heap.size w wr)) (fun _ i _ => nl - (intOf i).toNat)
  case atStart => exact ⟨0, E1, r1, g1, E2, r2, g2, E3, r3, g3, Nat.zero_le _, rfl, rfl, hdk1, t6, tr1, hb1⟩
  case round =>
    clear hdk1 t6 tr1 hb1
    obtain ⟨k, B1, m1, e1, B2, m2, e2, B3, m3, e3, hk, rfl, rfl, hdk, t6, tr, hb⟩ := hrel
    have hokD := hide (runD_ok hok (ds.take k))
    have hMl := runN_le d (ds.take k)
    rw [List.length_take] at hMl
    have hlr := hide t6.out.lt
    by_cases hltk : k < nl
    · have hst := hide (fun x (hx : ds[k]? = some x) => And.intro (runD_take (d := d) hx) (runN_take (d := d) hx))
      obtain ⟨D, hD⟩ : ∃ D, Hid (runD d (ds.take k) = D) := ⟨_, hide rfl⟩
      obtain ⟨M, hM⟩ : ∃ M, Hid (runN d (ds.take k) = M) := ⟨_, hide rfl⟩
      rw [hD.out] at hdk t6 hokD hst
      rw [hM.out] at hMl hst ⊢
      obtain ⟨b, off, x, rfl, hbB, hx, x0, x1, x2⟩ := (hl.out.below hb.out).look hltk
      obtain ⟨hw1, hw2, hw3⟩ := hl.out.wf x (List.mem_of_getElem? hx.out)
      obtain ⟨hst1, hst2⟩ := hst.out x hx.out
      clear hst hD hM
      obtain ⟨R, hR⟩ : ∃ R, Hid (deskX D x = R) := ⟨_, hide rfl⟩
      obtain ⟨K, hKb⟩ : ∃ K, Hid (deskB D x = K) := ⟨_, hide rfl⟩
      rw [hR.out, hKb.out] at hst1
      rw [hKb.out] at hst2
      replace hst1 := hide hst1
      replace hst2 := hide hst2
      replace hx := hide hx.out
      have xx0 := hide x0
      have xx1 := hide x1
      have xx2 := hide x2
      have HA := hide (fun (W : World) (hq : Below wr.heap.size wr W) => show Calls Tryd.prog 9 #[.agg #[.slice B1 m1 e1, .int .i64 D.now.step, .slice B2 m2 e2, .slice B3 m3 e3], .agg #[.int .i64 x.k, .int .i64 x.a, .int .i64 x.b]] W (fun e w' => ∃ C1 p1 f1 C2 p2 f2 C3 p3 f3, e = .returned (.tuple #[.agg #[.slice C1 p1 f1, .int .i64 R.now.step, .slice C2 p2 f2, .slice C3 p3 f3], .bool K]) ∧ DkF w' w.heap.size (.agg #[.slice C1 p1 f1, .int .i64 R.now.step, .slice C2 p2 f2, .slice C3 p3 f3]) R ∧ Below W.heap.size W w' ∧ Below wr.heap.size wr w' ∧ w'.cell? ⟨w1.heap.size, 0, none⟩ = some (.slice B1 m1 e1) ∧ w'.cell? ⟨w1.heap.size, 1, none⟩ = some (.int .i64 D.now.step) ∧ w'.cell? ⟨w1.heap.size, 2, none⟩ = some (.slice B2 m2 e2) ∧ w'.cell? ⟨w1.heap.size, 3, none⟩ = some (.slice B3 m3 e3) ∧ w'.cell? ⟨b, off + k * 3, none⟩ = some (.int .i64 x.k) ∧ w'.cell? ⟨b, off + k * 3 + 1, none⟩ = some (.int .i64 x.a) ∧ w'.cell? ⟨b, off + k * 3 + 2, none⟩ = some (.int .i64 x.b)) from
        (deskDo_spec _ D x _ W (hdk.out.up hq).dkM (Nat.le_refl _) hw2 hw3).mono fun e w' ⟨u, e1, hS, hq'⟩ => by
          have hF := (hS.down (show w.heap.size ≤ W.heap.size by have := hb.out.size; have := hq.size; omega)).toF
          rw [hR.out] at hF
          obtain ⟨C1, p1, f1, C2, p2, f2, C3, p3, f3, rfl⟩ := hF.open_
          obtain ⟨⟨k0, k1, k2, k3, _, _, _, _, _⟩, _⟩ := t6.out.up (upB hq hq')
          have hlow := (upB hq hq')
          have hbb : b < wr.heap.size := by have := hb.out.size; omega
          exact ⟨C1, p1, f1, C2, p2, f2, C3, p3, f3, by rw [e1, hKb.out], hF, hq', hlow, k0, k1, k2, k3, (hlow.cell (p := ⟨b, off + k * 3, none⟩) hbb).trans xx0.out, (hlow.cell (p := ⟨b, off + k * 3 + 1, none⟩) hbb).trans xx1.out, (hlow.cell (p := ⟨b, off + k * 3 + 2, none⟩) hbb).trans xx2.out⟩)
      obtain ⟨f0, f1, f2, f3, j0, j1, j2, j3, _⟩ := t6.out.qua
      clear hw1 hw2 hw3 hKb hR hokD
      go_upto_region 6 with fail
      go_cut [9, 10] (fun v9 v10 wx => ∃ (b9 : Nat) (C1 : Option Addr) (p1 f1 : Nat) (C2 : Option Addr) (p2 f2 : Nat) (C3 : Option Addr) (p3 f3 : Nat), v9 = .pointer (some ⟨b9, 0, none⟩) ∧ v10 = .bool K ∧ Hid (DBox wx b9 (.slice C1 p1 f1) (.int .i64 R.now.step) (.slice C2 p2 f2) (.slice C3 p3 f3)) ∧ Hid (b9 ≠ w1.heap.size ∧ b9 ≠ w.heap.size + 1) ∧ Hid (DkF wx w.heap.size (.agg #[.slice C1 p1 f1, .int .i64 R.now.step, .slice C2 p2 f2, .slice C3 p3 f3]) R) ∧ Hid (Below wr.heap.size wr wx))
      case first =>
        go_wp2_with fail
        have hbbx : b < wr.heap.size := by have := hb.out.size; omega
        have hlrx : w1.heap.size < wr.heap.size := hlr.out
        go_region_with ((go_at_call 9; (with_reducible refine (HA.out _ ?_).mono ?_); (focus (repeat (first | assumption | exact Below.refl _ _ | refine Below.drew ?_ | refine Below.alloc ?_ (by simp) _)); done); rintro e wd ⟨C1, p1, g1, C2, p2, g2, C3, p3, g3, rfl, hdF, hqd, hqr, k0, k1, k2, k3, k4, k5, k6⟩; (first | (have hZd : Hid (DBox wd wr.heap.size (.slice none 0 0) (.int .i64 0) (.slice none 0 0) (.slice none 0 0)) := (by first | exact hide (DBox.up (DBox.madeAt rfl) hqd) | exact hide (DBox.up (DBox.drew (DBox.madeAt rfl)) hqd)); obtain ⟨zd0, zd1, zd2, zd3, yd0, yd1, yd2, yd3, _⟩ := hZd.out.qua) | skip); replace hdF := hide hdF; replace hqd := hide hqd; replace hqr := hide hqr))
        all_goals
          go_wp2_with fail
          go_meet
          have hlw := hlt.out
          have hlwr := hlr.out
          have hszd := hqr.out.size
          first
            | exact ⟨wr.heap.size, C1, p1, g1, C2, p2, g2, C3, p3, g3, rfl, rfl, hide (hZd.out.set _ _ _ _), hide ⟨by omega, by omega⟩, hide (hdF.out.set4 hZd.out _ _ _ _), hide ((((hqr.out.setCell (Nat.le_refl _) _).setCell (Nat.le_refl _) _).setCell (Nat.le_refl _) _).setCell (Nat.le_refl _) _)⟩
            | exact ⟨wd.heap.size, C1, p1, g1, C2, p2, g2, C3, p3, g3, rfl, rfl, hide (DBox.madeAt rfl), hide ⟨by omega, by omega⟩, hide (hdF.out.up (al _ _)), hide (upB hqr.out (al _ _))⟩
      case rest =>
        clear f0 f1 f2 f3 j0 j1 j2 j3 x0 x1 x2 HA
        obtain ⟨b9, C1, p1, g1, C2, p2, g2, C3, p3, g3, rfl, rfl, h9, hne, hdF, hqr⟩ := hcut
        have t6x := hide (t6.out.up hqr.out)
        have trx := hide (tr.out.up hqr.out)
        have hbx := hide (upB hb.out hqr.out)
        have hdx := hide (hdk.out.up hqr.out)
        clear t6 tr hb hdk hqr
        obtain ⟨f0, f1, f2, f3, j0, j1, j2, j3, _⟩ := t6x.out.qua
        obtain ⟨x0, x1, x2, x3, _⟩ := h9.out.qua
        cases K with
        | true =>
          have hN := hide (show runN d (ds.take (k + 1)) = M + 1 from by have := hst2.out; simpa using this)
          have hRR := hide (show runD d (ds.take (k + 1)) = R from by have := hst1.out; simpa using this)
          have hfin := hide (And.intro (hdF.out.set4 t6x.out (.slice C1 p1 g1) (.int .i64 R.now.step) (.slice C2 p2 g2) (.slice C3 p3 g3)) (And.intro (t6x.out.set (.slice C1 p1 g1) (.int .i64 R.now.step) (.slice C2 p2 g2) (.slice C3 p3 g3)) (And.intro (trx.out.other4 (b := w1.heap.size) (by have := hlt.out; omega) (.slice C1 p1 g1) (.int .i64 R.now.step) (.slice C2 p2 g2) (.slice C3 p3 g3))
            ((((hbx.out.setCell (p := ⟨w1.heap.size, 0, none⟩) (by have := hlt.out; simp only; omega) (.slice C1 p1 g1)).setCell (p := ⟨w1.heap.size, 1, none⟩) (by have := hlt.out; simp only; omega) (.int .i64 R.now.step)).setCell (p := ⟨w1.heap.size, 2, none⟩) (by have := hlt.out; simp only; omega) (.slice C2 p2 g2)).setCell (p := ⟨w1.heap.size, 3, none⟩) (by have := hlt.out; simp only; omega) (.slice C3 p3 g3)))))
          clear hst1 hst2 t6x trx hbx hdx hdF h9 hne
          go_wp2_with fail
          go_roundw
          case rel =>
            obtain ⟨z1, z2, z3, z4⟩ := hfin.out
            exact ⟨k + 1, C1, p1, g1, C2, p2, g2, C3, p3, g3, by omega, by go_num, by rw [hN.out]; go_num, hide (by rw [hRR.out]; exact z1), hide (by rw [hRR.out]; exact z2), hide z3, hide z4⟩
          case measure => simp [intOf]; omega
        | false =>
          have hN := hide (show runN d (ds.take (k + 1)) = M from by have := hst2.out; simpa using this)
          have hRR := hide (show runD d (ds.take (k + 1)) = D from by have := hst1.out; simpa using this)
          clear hst1 hst2 hdF h9 hne
          go_wp2_with fail
          go_roundw
          case rel => exact ⟨k + 1, B1, m1, e1, B2, m2, e2, B3, m3, e3, by omega, by go_num, by rw [hN.out], hide (by rw [hRR.out]; exact hdx.out), hide (by rw [hRR.out]; exact t6x.out), trx, hbx⟩
          case measure => simp [intOf]; omega
    · obtain rfl : k = nl := by omega
      have htk : ds.take k = ds := List.take_of_length_le (by have := hlen.out; omega)
      rw [htk] at hdk t6 ⊢
      clear htk hokD hMl
      obtain ⟨a0, a1, a2, a3, af0, af1, af2, af3, _⟩ := t6.out.qua
      obtain ⟨b0, b1, b2, b3, bf0, bf1, bf2, bf3, _⟩ := tr.out.qua
      go_wp2_with fail
      obtain ⟨z0, z1, z2, z3, _⟩ := (tr.out.set (.slice B1 m1 e1) (.int .i64 (runD d ds).now.step) (.slice B2 m2 e2) (.slice B3 m3 e3)).qua
      exact bodyPost_ret (v := .tuple #[.agg #[.slice B1 m1 e1, .int .i64 (runD d ds).now.step, .slice B2 m2 e2, .slice B3 m3 e3], .int .i64 (runN d ds)]) (by simp [results, Tryd.results53, go_sem, z0, z1, z2, z3]) rfl ⟨_, rfl, hdk.out.set4 tr.out _ _ _ _, (((hb.out.setCell (Nat.le_succ _) _).setCell (Nat.le_succ _) _).setCell (Nat.le_succ _) _).setCell (Nat.le_succ _) _⟩
end Go.Proofs.YtoafpokcbbncfaaDoor

namespace Go.Proofs.YtoafpokcbbncfaaDoor
open Go.RowKit
set_option linter.unusedVariables false

theorem deskR_or (d : Dsk) (l : List Ded) : deskOk (deskR d l) = true ∨ deskR d l = noDsk := by
  unfold deskR runOk
  cases h : deskOk d with
  | false => exact .inr rfl
  | true =>
    rw [Bool.true_and]
    split
    · exact .inl (runD_ok h l)
    · exact .inr rfl

set_option maxRecDepth 100000 in
set_option maxHeartbeats 3200000 in
theorem deskRun_spec (v : Value) (d : Dsk) (ds : List Ded) (Al : Option Addr) (nl cl B : Nat) (w : World) (h : DkM w B v d) (hB : B ≤ w.heap.size) (hl : DdM w w.heap.size Al nl cl ds) :
    Calls Tryd.prog 17 #[v, .slice Al nl cl] w fun e w' => ∃ u, e = .returned (.tuple #[u, .int .i64 (deskN d ds)]) ∧ DkF w' w.heap.size u (deskR d ds) ∧ Below w.heap.size w w' := by
  have hdk := hide (h.more hB)
  have hnb := hl.nb
  have hlen := hide hl.len
  obtain ⟨A, n, c, A2, n2, c2, A3, n3, c3, rfl, i1, i2, hwf, i3⟩ := h.ex
  clear i1 i2 i3 hwf h hB
  replace hl := hide hl
  have hb := hide (show Below w.heap.size w ((w.alloc (.cells #[.slice A n c, .int .i64 d.now.step, .slice A2 n2 c2, .slice A3 n3 c3] 34)).alloc (.cells #[.slice none 0 0, .int .i64 0, .slice none 0 0, .slice none 0 0] 34)) from (al w _).alloc (by simp) _)
  have ta := hide (show QuaW ((w.alloc (.cells #[.slice A n c, .int .i64 d.now.step, .slice A2 n2 c2, .slice A3 n3 c3] 34)).alloc (.cells #[.slice none 0 0, .int .i64 0, .slice none 0 0, .slice none 0 0] 34)) w.heap.size (.slice A n c) (.int .i64 d.now.step) (.slice A2 n2 c2) (.slice A3 n3 c3) from (QuaW.made w _ _ _ _ _).alloc _)
  have tr := hide (show DBox ((w.alloc (.cells #[.slice A n c, .int .i64 d.now.step, .slice A2 n2 c2, .slice A3 n3 c3] 34)).alloc (.cells #[.slice none 0 0, .int .i64 0, .slice none 0 0, .slice none 0 0] 34)) (w.heap.size + 1) (.slice none 0 0) (.int .i64 0) (.slice none 0 0) (.slice none 0 0) from DBox.madeAt (by simp))
  replace hdk := hide (hdk.out.up hb.out)
  replace hl := hide (hl.out.up hb.out)
  have HO := hide (deskOk_spec _ d _ ((w.alloc (.cells #[.slice A n c, .int .i64 d.now.step, .slice A2 n2 c2, .slice A3 n3 c3] 34)).alloc (.cells #[.slice none 0 0, .int .i64 0, .slice none 0 0, .slice none 0 0] 34)) hdk.out (Nat.le_refl _))
  cases hok : deskOk d with
  | false =>
    rw [hok] at HO
    have hno := hide (show deskN d ds = 0 ∧ deskR d ds = noDsk by unfold deskN deskR runOk; rw [hok]; exact ⟨rfl, rfl⟩)
    go_enter Tryd.func17, Tryd.ntmps17
    obtain ⟨q1c0, q1c1, q1c2, q1c3, q1f0, q1f1, q1f2, q1f3, _⟩ := ta.out
    go_wp2_with fail
    refine (HO.out).mono ?_
    rintro e w1 ⟨rfl, hq⟩
    replace tr := hide (tr.out.up hq)
    replace hdk := hide (hdk.out.up hq)
    replace hl := hide (hl.out.up hq)
    replace ta := hide (ta.out.up hq)
    replace hb := hide (upB hb.out hq)
    clear hq
    clear q1c0 q1c1 q1c2 q1c3 q1f0 q1f1 q1f2 q1f3
    obtain ⟨q2c0, q2c1, q2c2, q2c3, q2f0, q2f1, q2f2, q2f3, _⟩ := ta.out
    obtain ⟨o0, o1, o2, o3, p0, p1, p2, p3, _⟩ := tr.out.qua
    go_wp2_with fail
    obtain ⟨z0, z1, z2, z3, _⟩ := (tr.out.set (.slice none 0 0) (.int .i64 0) (.slice none 0 0) (.slice none 0 0)).qua
    exact bodyPost_ret (v := .tuple #[.agg #[.slice none 0 0, .int .i64 0, .slice none 0 0, .slice none 0 0], .int .i64 0]) (by simp [results, Tryd.results17, go_sem, z0, z1, z2, z3]) rfl ⟨_, by rw [hno.out.1], by rw [hno.out.2]; exact DkS.none_.toF, (((hb.out.setCell (by simp only; omega) _).setCell (by simp only; omega) _).setCell (by simp only; omega) _).setCell (by simp only; omega) _⟩
  | true =>
    rw [hok] at HO
    by_cases h40 : 40 < nl
    ·
      have hno := hide (show deskN d ds = 0 ∧ deskR d ds = noDsk by unfold deskN deskR runOk; rw [hok, hlen.out, decide_eq_false (by omega)]; exact ⟨rfl, rfl⟩)
      go_enter Tryd.func17, Tryd.ntmps17
      obtain ⟨q3c0, q3c1, q3c2, q3c3, q3f0, q3f1, q3f2, q3f3, _⟩ := ta.out
      go_wp2_with fail
      refine (HO.out).mono ?_
      rintro e w1 ⟨rfl, hq⟩
      replace tr := hide (tr.out.up hq)
      replace hdk := hide (hdk.out.up hq)
      replace hl := hide (hl.out.up hq)
      replace ta := hide (ta.out.up hq)
      replace hb := hide (upB hb.out hq)
      clear hq
      clear q3c0 q3c1 q3c2 q3c3 q3f0 q3f1 q3f2 q3f3
      obtain ⟨q4c0, q4c1, q4c2, q4c3, q4f0, q4f1, q4f2, q4f3, _⟩ := ta.out
      obtain ⟨o0, o1, o2, o3, p0, p1, p2, p3, _⟩ := tr.out.qua
      go_wp2_with fail
      obtain ⟨z0, z1, z2, z3, _⟩ := (tr.out.set (.slice none 0 0) (.int .i64 0) (.slice none 0 0) (.slice none 0 0)).qua
      exact bodyPost_ret (v := .tuple #[.agg #[.slice none 0 0, .int .i64 0, .slice none 0 0, .slice none 0 0], .int .i64 0]) (by simp [results, Tryd.results17, go_sem, z0, z1, z2, z3]) rfl ⟨_, by rw [hno.out.1], by rw [hno.out.2]; exact DkS.none_.toF, (((hb.out.setCell (by simp only; omega) _).setCell (by simp only; omega) _).setCell (by simp only; omega) _).setCell (by simp only; omega) _⟩
    ·
      have hye := hide (show deskN d ds = (runN d ds : Int) ∧ deskR d ds = runD d ds by unfold deskN deskR runOk; rw [hok, hlen.out, decide_eq_true (by omega)]; exact ⟨rfl, rfl⟩)
      go_enter Tryd.func17, Tryd.ntmps17
      obtain ⟨q5c0, q5c1, q5c2, q5c3, q5f0, q5f1, q5f2, q5f3, _⟩ := ta.out
      go_wp2_with fail
      refine (HO.out).mono ?_
      rintro e w1 ⟨rfl, hq⟩
      replace tr := hide (tr.out.up hq)
      replace hdk := hide (hdk.out.up hq)
      replace hl := hide (hl.out.up hq)
      replace ta := hide (ta.out.up hq)
      replace hb := hide (upB hb.out hq)
      clear hq
      have hlt := hide (show w.heap.size + 1 < w1.heap.size from tr.out.lt)
      clear q5c0 q5c1 q5c2 q5c3 q5f0 q5f1 q5f2 q5f3
      obtain ⟨q6c0, q6c1, q6c2, q6c3, q6f0, q6f1, q6f2, q6f3, _⟩ := ta.out
      go_wp2_with fail
      refine (l15Run_c _ d ds Al nl cl _ _ hdk.out (Nat.le_refl _) hok (by omega) hl.out).mono ?_
      rintro e w2 ⟨u, rfl, hF, hq⟩
      replace tr := hide (tr.out.up hq)
      replace hdk := hide (hdk.out.up hq)
      replace hl := hide (hl.out.up hq)
      replace ta := hide (ta.out.up hq)
      replace hb := hide (upB hb.out hq)
      clear hq
      obtain ⟨B1, m1, e1, B2, m2, e2, B3, m3, e3, rfl⟩ := hF.open_
      replace hF := hide hF
      clear q6c0 q6c1 q6c2 q6c3 q6f0 q6f1 q6f2 q6f3
      obtain ⟨q7c0, q7c1, q7c2, q7c3, q7f0, q7f1, q7f2, q7f3, _⟩ := ta.out
      obtain ⟨o0, o1, o2, o3, p0, p1, p2, p3, _⟩ := tr.out.qua
      go_wp2_with fail
      obtain ⟨z0, z1, z2, z3, _⟩ := (tr.out.set (.slice B1 m1 e1) (.int .i64 (runD d ds).now.step) (.slice B2 m2 e2) (.slice B3 m3 e3)).qua
      exact bodyPost_ret (v := .tuple #[.agg #[.slice B1 m1 e1, .int .i64 (runD d ds).now.step, .slice B2 m2 e2, .slice B3 m3 e3], .int .i64 (runN d ds)]) (by simp [results, Tryd.results17, go_sem, z0, z1, z2, z3]) rfl ⟨_, by rw [hye.out.1], by rw [hye.out.2]; exact (hF.out.set4 tr.out _ _ _ _).down (by have := hlt.out; omega), (((hb.out.setCell (by simp only; omega) _).setCell (by simp only; omega) _).setCell (by simp only; omega) _).setCell (by simp only; omega) _⟩
end Go.Proofs.YtoafpokcbbncfaaDoor
