/-
  Contracts of chapter 14, the specification's side: DeskDo.
-/
import Derived.Test.YtpnjihpdipoajaaDkS
import Derived.Deep.DeepCutAuto
namespace Go.Proofs.Ytpnjihpdipoajaa
open Go.RowKit
set_option linter.unusedVariables false

/-- What is owned from 'base' on stays. -/
structure KP (base : Nat) (X Y : World) : Prop where
  pl : ∀ v p, PlY X base v p → PlY Y base v p
  ps : ∀ v ps, PsZ X base v ps → PsZ Y base v ps
theorem KP.refl {base : Nat} {X : World} : KP base X X := ⟨fun _ _ h => h, fun _ _ h => h⟩
theorem KP.up {base : Nat} {X Y Z : World} (h : KP base X Y) (hq : Below Y.heap.size Y Z) : KP base X Z := ⟨fun v p hp => (h.pl v p hp).up hq, fun v ps hp => (h.ps v ps hp).up hq⟩
theorem KP.low {base : Nat} {X Y : World} (h : KP base X Y) {a : Addr} (ha : a.block < base) (u : Value) : KP base X (Y.setCell a u) := ⟨fun v p hp => (h.pl v p hp).setLow ha u, fun v ps hp => (h.ps v ps hp).setLow ha u⟩
theorem KP.desk {base : Nat} {X Y : World} (h : KP base X Y) {a : Addr} {cs : Array Value} (hb : Y.heap[a.block]? = some (.cells cs 32 (0, 0))) (u : Value) : KP base X (Y.setCell a u) := ⟨fun v p hp => (h.pl v p hp).setDesk hb u, fun v ps hp => (h.ps v ps hp).setDesk hb u⟩
/-- What is owned from 'base' on stays, and block g is a desk still. -/
structure KD (base g : Nat) (X Y : World) : Prop where
  kp : KP base X Y
  ob : ∃ cs, Y.heap[g]? = some (.cells cs 32 (0, 0))
theorem KD.set {base g : Nat} {X Y : World} (h : KD base g X Y) (i : Nat) (u : Value) : KD base g X (Y.setCell ⟨g, i, none⟩ u) := by
  obtain ⟨cs, e⟩ := h.ob
  exact ⟨h.kp.desk (a := ⟨g, i, none⟩) e u, desk_stays (a := ⟨g, i, none⟩) e u⟩
theorem obj_made (w : World) (o : Obj) : (w.alloc o).heap[w.heap.size]? = some o := by show (w.heap.push o)[w.heap.size]? = some o; simp
/-- One place of a slice of copies. -/
theorem PsZ.atZ {w : World} {base n c j : Nat} {A : Option Addr} {ps : List Plc} {p : Plc} (h : PsZ w base (.slice A n c) ps) (hj : ps[j]? = some p) : ∃ g B1 m1 k1 B2 m2 k2, A = some ⟨g, 0, none⟩ ∧ base ≤ g ∧ g < w.heap.size ∧ n ≤ c ∧ n = ps.length ∧ w.cell? ⟨g, j * 3, none⟩ = some (.slice B1 m1 k1) ∧ w.cell? ⟨g, j * 3 + 1, none⟩ = some (.int .i64 p.step) ∧ w.cell? ⟨g, j * 3 + 2, none⟩ = some (.slice B2 m2 k2) ∧ PlZ w base (.agg #[.slice B1 m1 k1, .int .i64 p.step, .slice B2 m2 k2]) p := by
  obtain ⟨us, h1, h2, h3⟩ := h.ex
  have hjl := (List.getElem?_eq_some_iff.1 hj).1
  obtain ⟨u, hu⟩ : ∃ u, us[j]? = some u := ⟨_, List.getElem?_eq_getElem (by omega)⟩
  have hp := h3 j u p hu hj
  obtain ⟨B1, m1, k1, B2, m2, k2, rfl, _⟩ := hp.ex
  have h3e : ∀ u ∈ us, u.cells.size = 3 := by
    intro u hu
    obtain ⟨i, hi, rfl⟩ := List.getElem_of_mem hu
    obtain ⟨A1, n1, c1, A2, n2, c2, e, _⟩ := (h3 i _ _ (List.getElem?_eq_getElem hi) (List.getElem?_eq_getElem (by omega))).ex
    rw [e]; rfl
  obtain ⟨x0, x1, x2⟩ := cellsP_at h3e hu
  rcases row_shape h2 with ⟨hv, h0⟩ | ⟨g, cap, hv, hg, hh, hn, hm⟩
  · omega
  · injection hv with e1 e2 e3
    subst e1; subst e2; subst e3
    exact ⟨g, B1, m1, k1, B2, m2, k2, rfl, hg, hh, hn, rfl, by rw [h2.cellAt _ (by omega), x0], by rw [h2.cellAt _ (by omega), x1], by rw [h2.cellAt _ (by omega), x2], hp⟩
theorem rowCut3 {w : World} {base n c k g : Nat} {e : TypeId} {vs : List Value} (h : w.ownsRow base e 3 (.slice (some ⟨g, 0, none⟩) n c) n vs) (hk : k ≤ n) : w.ownsRow base e 3 (.slice (some ⟨g, 0, none⟩) k c) k (vs.take (k * 3)) := by
  obtain ⟨h1, h2⟩ := h
  rcases h2 with ⟨e, _⟩ | ⟨g', cap, cur, e, hg, hh, hn, hm, hs, ht⟩
  · cases e
  · injection e with e1 e2 e3
    injection e1 with e1
    injection e1 with e1
    subst e1; subst e3
    refine ⟨by rw [List.length_take]; omega, .inr ⟨_, _, cur, rfl, hg, hh, by omega, hm, hs, ?_⟩⟩
    rw [← ht, List.take_take, Nat.min_eq_left (by omega)]
theorem cellsP_take {us : List Value} (h : ∀ u ∈ us, u.cells.size = 3) (k : Nat) : (cellsP us).take (k * 3) = cellsP (us.take k) := by
  induction us generalizing k with
  | nil => simp [cellsP]
  | cons u r ih =>
    cases k with
    | zero => simp [cellsP]
    | succ k =>
      have hl : u.cells.toList.length = 3 := by rw [Array.length_toList]; exact h u List.mem_cons_self
      have e : ∀ l, cellsP (u :: l) = u.cells.toList ++ cellsP l := fun l => by unfold cellsP; simp
      rw [List.take_succ_cons, e, e, ← ih (fun x hx => h x (List.mem_cons_of_mem _ hx)) k, show (k + 1) * 3 = u.cells.toList.length + k * 3 by omega, List.take_length_add_append]
theorem PsZ.cut {w : World} {base n c k g : Nat} {ps : List Plc} (h : PsZ w base (.slice (some ⟨g, 0, none⟩) n c) ps) (hn : n = ps.length) (hk : k ≤ n) : PsZ w base (.slice (some ⟨g, 0, none⟩) k c) (ps.take k) := by
  obtain ⟨us, h1, h2, h3⟩ := h.ex
  subst hn
  have h3e : ∀ u ∈ us, u.cells.size = 3 := by
    intro u hu
    obtain ⟨i, hi, rfl⟩ := List.getElem_of_mem hu
    obtain ⟨A1, n1, c1, A2, n2, c2, e, _⟩ := (h3 i _ _ (List.getElem?_eq_getElem hi) (List.getElem?_eq_getElem (by omega))).ex
    rw [e]; rfl
  have hlk : (ps.take k).length = k := by rw [List.length_take]; omega
  refine ⟨us.take k, by rw [List.length_take, List.length_take, h1], ?_, fun j u p hu hp => ?_⟩
  · rw [hlk, ← cellsP_take h3e]
    exact rowCut3 h2 hk
  · have hj : j < k := by have := (List.getElem?_eq_some_iff.1 hp).1; omega
    rw [List.getElem?_take_of_lt hj] at hu hp
    exact h3 j u p hu hp
theorem PsM.dropS {w : World} {B b off n c h : Nat} {ps : List Plc} (hz : PsM w B (some ⟨b, off, none⟩) n c ps) (hh : h ≤ n) : PsM w B (some ⟨b, off + h * 3, none⟩) (n - h) (c - h) (ps.drop h) :=
  ⟨by rw [List.length_drop, hz.len], by have := hz.le; omega, by have := hz.big; omega, fun hp => by
    obtain ⟨b', off', e, hb, hc⟩ := hz.cells (by omega)
    injection e with e
    injection e with e1 e2 _
    subst e1; subst e2
    refine ⟨b, off + h * 3, rfl, hb, fun j x hx => ?_⟩
    rw [List.getElem?_drop] at hx
    have := hc _ x hx
    rwa [show off + h * 3 + j * 3 = off + (h + j) * 3 by omega], fun e => by cases e⟩
theorem DkM.now {w : World} {B : Nat} {d : Dsk} {A A' A3 : Option Addr} {n c n' c' n3 c3 : Nat} {z : Int} (h : DkM w B (.agg #[.slice A n c, .int .i64 z, .slice A' n' c', .slice A3 n3 c3]) d) : PlM w B (.agg #[.slice A n c, .int .i64 z, .slice A' n' c']) d.now := by
  obtain ⟨B1, m, e, B', m', e', B3, m3, e3, q, h3, h4, h5, _⟩ := h.ex
  injection q with q
  injection q with q
  simp only [List.cons.injEq, Value.slice.injEq, Value.int.injEq, and_true, true_and] at q
  obtain ⟨⟨rfl, rfl, rfl⟩, rfl, ⟨rfl, rfl, rfl⟩, rfl, rfl, rfl⟩ := q
  exact plM_mk h3 h4 h5
theorem dkM_mk {w : World} {A A' A3 : Option Addr} {n c n' c' n3 c3 : Nat} {z : Int} {p : Plc} {ps : List Plc} (h : PlM w w.heap.size (.agg #[.slice A n c, .int .i64 z, .slice A' n' c']) p) (h2 : PsM w w.heap.size A3 n3 c3 ps) : DkM w w.heap.size (.agg #[.slice A n c, .int .i64 z, .slice A' n' c', .slice A3 n3 c3]) ⟨p, ps⟩ := by
  obtain ⟨B, m, e, B', m', e', q, h3, h4, h5⟩ := h.ex
  injection q with q
  injection q with q
  simp only [List.cons.injEq, Value.slice.injEq, Value.int.injEq, and_true, true_and] at q
  obtain ⟨⟨rfl, rfl, rfl⟩, rfl, rfl, rfl, rfl⟩ := q
  exact ⟨_, _, _, _, _, _, _, _, _, rfl, h3, h4, h5, h2⟩

set_option maxRecDepth 100000 in
set_option maxHeartbeats 6400000 in
theorem deskDo_spec (v : Value) (d : Dsk) (q : Ded) (B : Nat) (w : World) (h : DkM w B v d) (hB : B ≤ w.heap.size) (hwa : (Lit.int .i64 q.a).wf = true) (hwb : (Lit.int .i64 q.b).wf = true) :
    Calls Try.prog 60 #[v, .agg #[.int .i64 q.k, .int .i64 q.a, .int .i64 q.b]] w fun e w' => ∃ u, e = .returned (.tuple #[u, .bool (deskB d q)]) ∧ DkS w' w.heap.size u (deskX d q) ∧ Below w.heap.size w w' := by
  obtain ⟨k, a, b⟩ := q
  show Calls Try.prog 60 #[v, .agg #[.int .i64 k, .int .i64 a, .int .i64 b]] w _
  obtain ⟨i0, hi, hz0, hz1, hz2⟩ := info_parts infoPlace
  obtain ⟨A, n, c, A2, n2, c2, A3, n3, c3, rfl, h1, h2, hwf, hps⟩ := h.ex
  have hn3 := hide hps.len
  obtain ⟨W0, hW0⟩ : ∃ W, Hid ((((w.alloc (.cells #[.slice A n c, .int .i64 d.now.step, .slice A2 n2 c2, .slice A3 n3 c3] 32)).alloc (.cells #[.int .i64 k, .int .i64 a, .int .i64 b] 75)).alloc (.cells #[.slice none 0 0, .int .i64 0, .slice none 0 0, .slice none 0 0] 32)) = W) := ⟨_, hide rfl⟩
  have hz := hide (show W0.heap.size = w.heap.size + 1 + 1 + 1 by rw [← hW0.out]; simp)
  have hq0 := hide (show Below w.heap.size w W0 by rw [← hW0.out]; exact ((al w _).alloc (by simp) _).alloc (by simp; omega) _)
  have hta := hide (show QuaW W0 w.heap.size (.slice A n c) (.int .i64 d.now.step) (.slice A2 n2 c2) (.slice A3 n3 c3) by rw [← hW0.out]; exact ((QuaW.made w _ _ _ _ _).alloc _).alloc _)
  have htb := hide (show TriW W0 (w.heap.size + 1) (.int .i64 k) (.int .i64 a) (.int .i64 b) by
    have := (TriW.made (w.alloc (.cells #[.slice A n c, .int .i64 d.now.step, .slice A2 n2 c2, .slice A3 n3 c3] 32)) (.int .i64 k) (.int .i64 a) (.int .i64 b) 75).alloc (.cells #[.slice none 0 0, .int .i64 0, .slice none 0 0, .slice none 0 0] 32)
    rw [← hW0.out]
    simpa using this)
  have htc := hide (show QuaW W0 (w.heap.size + 1 + 1) (.slice none 0 0) (.int .i64 0) (.slice none 0 0) (.slice none 0 0) by
    have := QuaW.made ((w.alloc (.cells #[.slice A n c, .int .i64 d.now.step, .slice A2 n2 c2, .slice A3 n3 c3] 32)).alloc (.cells #[.int .i64 k, .int .i64 a, .int .i64 b] 75)) (.slice none 0 0) (.int .i64 0) (.slice none 0 0) (.slice none 0 0) 32
    rw [← hW0.out]
    simpa using this)
  have hdk := hide (show DkM W0 W0.heap.size (.agg #[.slice A n c, .int .i64 d.now.step, .slice A2 n2 c2, .slice A3 n3 c3]) d from (h.more hB).up hq0.out)
  have HO := hide (deskOk_spec _ d _ W0 hdk.out (Nat.le_refl _))
  have HF := hide (fun (w1 : World) (hq : Below W0.heap.size W0 w1) => show Below w.heap.size w w1 ∧ w.heap.size + 1 + 1 + 1 ≤ w1.heap.size ∧ DkM w1 w1.heap.size (.agg #[.slice A n c, .int .i64 d.now.step, .slice A2 n2 c2, .slice A3 n3 c3]) d ∧ QuaW w1 w.heap.size (.slice A n c) (.int .i64 d.now.step) (.slice A2 n2 c2) (.slice A3 n3 c3) ∧ TriW w1 (w.heap.size + 1) (.int .i64 k) (.int .i64 a) (.int .i64 b) ∧ QuaW w1 (w.heap.size + 1 + 1) (.slice none 0 0) (.int .i64 0) (.slice none 0 0) (.slice none 0 0) from
    ⟨upB hq0.out hq, by have := hq.size; have := hz.out; omega, hdk.out.up hq, hta.out.up hq, htb.out.up hq, htc.out.up hq⟩)
  have e0 := hW0.out
  subst e0
  clear hW0 htb htc hta h1 h2 hps hdk
  cases hok : deskOk d with
  | false =>
    have e1 := hide (deskB_no (a := ⟨k, a, b⟩) hok)
    have e2 := hide (deskX_no (a := ⟨k, a, b⟩) hok)
    rw [hok] at HO
    clear hok
    go_enter Try.func60, Try.ntmps60
    go_wp2_with fail
    refine HO.out.mono ?_
    rintro e w1 ⟨rfl, hq1⟩
    obtain ⟨hb, hlw, _, hA1, hB1, hC1⟩ := HF.out w1 hq1
    have hb := hide hb
    have hC1 := hide hC1
    obtain ⟨a0, a1, a2, a3, _⟩ := hA1
    obtain ⟨r0, r1, r2, r3, f0, f1, f2, f3, _⟩ := hC1.out
    clear hq1 HF
    go_wp2_with fail
    have hT := hide ((((hC1.out.set0 (.slice none 0 0)).set1 (.int .i64 0)).set2 (.slice none 0 0)).set3 (.slice none 0 0))
    obtain ⟨k0, k1, k2, k3, _⟩ := hT.out
    exact bodyPost_ret (v := .tuple #[.agg #[.slice none 0 0, .int .i64 0, .slice none 0 0, .slice none 0 0], .bool false]) (by simp [results, Try.results60, go_sem, k0, k1, k2, k3]) rfl ⟨_, by rw [e1.out], by rw [e2.out]; exact DkS.none_, (((hb.out.setCell (p := ⟨w.heap.size + 1 + 1, 0, none⟩) (by simp; omega) _).setCell (p := ⟨w.heap.size + 1 + 1, 1, none⟩) (by simp; omega) _).setCell (p := ⟨w.heap.size + 1 + 1, 2, none⟩) (by simp; omega) _).setCell (p := ⟨w.heap.size + 1 + 1, 3, none⟩) (by simp; omega) _⟩
  | true =>
    obtain ⟨hpo, hno, h8⟩ := deskOk_yes hok
    have HC := hide (fun (w1 : World) (hq : Below (((w.alloc (.cells #[.slice A n c, .int .i64 d.now.step, .slice A2 n2 c2, .slice A3 n3 c3] 32)).alloc (.cells #[.int .i64 k, .int .i64 a, .int .i64 b] 75)).alloc (.cells #[.slice none 0 0, .int .i64 0, .slice none 0 0, .slice none 0 0] 32)).heap.size (((w.alloc (.cells #[.slice A n c, .int .i64 d.now.step, .slice A2 n2 c2, .slice A3 n3 c3] 32)).alloc (.cells #[.int .i64 k, .int .i64 a, .int .i64 b] 75)).alloc (.cells #[.slice none 0 0, .int .i64 0, .slice none 0 0, .slice none 0 0] 32)) w1) => l15Copy_c _ d _ w1 (HF.out w1 hq).2.2.1 (Nat.le_refl _) hok)
    cases hbk : backB d ⟨k, a, b⟩ with
    | true =>
      have hbq : (k = 4 ∧ a = 0 ∧ b = 0) ∧ d.past ≠ [] := by
        unfold backB at hbk
        simp only [Bool.and_eq_true, decide_eq_true_eq] at hbk
        refine ⟨hbk.1, fun e => ?_⟩
        rw [e] at hbk
        exact absurd hbk.2 (by decide)
      obtain ⟨⟨rfl, rfl, rfl⟩, hne⟩ := hbq
      obtain ⟨L, hL⟩ : ∃ L, Hid (d.past.length = L + 1) := ⟨d.past.length - 1, hide (by have := List.length_pos_iff.2 hne; omega)⟩
      obtain ⟨p, hp⟩ : ∃ p, Hid (d.past[L]? = some p) := ⟨_, hide (List.getElem?_eq_getElem (by have := hL.out; omega))⟩
      have e1 := hide (show deskB d ⟨4, 0, 0⟩ = true by unfold deskB doneB; rw [hok, hbk]; rfl)
      have e2 := hide (show deskX d ⟨4, 0, 0⟩ = ⟨p, d.past.take L⟩ by
        unfold deskX deskD
        rw [if_pos hok, if_pos hbk, List.getLast?_eq_getElem?, hL.out, Nat.add_sub_cancel, hp.out, List.dropLast_eq_take, hL.out, Nat.add_sub_cancel]
        rfl)
      rw [hok] at HO
      clear hok hbk hpo hno hne
      go_enter Try.func60, Try.ntmps60
      go_wp2_with fail
      refine HO.out.mono ?_
      rintro e w1 ⟨rfl, hq1⟩
      obtain ⟨a0, a1, a2, a3, _⟩ := (HF.out w1 hq1).2.2.2.1
      have HCw := hide (HC.out w1 hq1)
      go_wp2_with fail
      refine HCw.out.mono ?_
      rintro e w2 ⟨A4, n4, c4, A5, n5, c5, A6, n6, c6, rfl, hpl2, hps2, hq2⟩
      obtain ⟨hb2, hlw, hdk2, hA2, hB2, hC2⟩ := HF.out w2 (upB hq1 hq2)
      have hl1 := hide (HF.out w1 hq1).2.1
      have hb2 := hide hb2
      have hdk2 := hide hdk2
      have hA2 := hide hA2
      have hB2 := hide hB2
      have hC2 := hide hC2
      have hpl2 := hide hpl2
      have hps2 := hide hps2
      have hw12 := hide hq2.size
      clear a0 a1 a2 a3 hq1 hq2 HF HC HO HCw
      have s0 := fun o => (hA2.out.alloc o).c0
      have s1 := fun o => (hA2.out.alloc o).c1
      have s2 := fun o => (hA2.out.alloc o).c2
      have s3 := fun o => (hA2.out.alloc o).c3
      have t0 := fun o => (hB2.out.alloc o).c0
      have t1 := fun o => (hB2.out.alloc o).c1
      have t2 := fun o => (hB2.out.alloc o).c2
      have r0 := fun o => (hC2.out.alloc o).c0
      have r1 := fun o => (hC2.out.alloc o).c1
      have r2 := fun o => (hC2.out.alloc o).c2
      have r3 := fun o => (hC2.out.alloc o).c3
      have f0 := fun o => (hC2.out.alloc o).f0
      have f1 := fun o => (hC2.out.alloc o).f1
      have f2 := fun o => (hC2.out.alloc o).f2
      have f3 := fun o => (hC2.out.alloc o).f3
      obtain ⟨g, B1, m1, j1, B2, m2, j2, rfl, hg1, hg2, hnc, hn6, y0, y1, y2, hpp⟩ := hps2.out.atZ hp.out
      have hnL : (n6 : Int) - 1 = (L : Int) := by have := hL.out; omega
      have hLn : L < n6 := by have := hL.out; omega
      have hn63 : n6 ≤ 8 := by omega
      replace hn6 := hide hn6
      have z0 : ∀ o, (w2.alloc o).cell? ⟨g, L * 3, none⟩ = some (.slice B1 m1 j1) := fun o => (World.cell?_alloc_lt w2 o ⟨g, L * 3, none⟩ hg2).trans y0
      have z1 : ∀ o, (w2.alloc o).cell? ⟨g, L * 3 + 1, none⟩ = some (.int .i64 p.step) := fun o => (World.cell?_alloc_lt w2 o ⟨g, L * 3 + 1, none⟩ hg2).trans y1
      have z2 : ∀ o, (w2.alloc o).cell? ⟨g, L * 3 + 2, none⟩ = some (.slice B2 m2 j2) := fun o => (World.cell?_alloc_lt w2 o ⟨g, L * 3 + 2, none⟩ hg2).trans y2
      have hpp := hide hpp
      have hpos : 0 < n6 := by omega
      have hpos3 : 0 < n3 := by have := hn3.out; have := hL.out; omega
      clear h8
      go_wp2_with fail
      have hRb : w.heap.size + 1 + 1 < w1.heap.size := by have := hl1.out; omega
      have hRl := hide (show w.heap.size ≤ w1.heap.size by omega)
      have hKf := hide (((((KP.refl.up (al w2 (.cells #[.slice B1 m1 j1, .int .i64 p.step, .slice B2 m2 j2, .slice (some ⟨g, 0, none⟩) L c6] 32))).low (a := ⟨w.heap.size + 1 + 1, 0, none⟩) hRb (.slice B1 m1 j1)).low (a := ⟨w.heap.size + 1 + 1, 1, none⟩) hRb (.int .i64 p.step)).low (a := ⟨w.heap.size + 1 + 1, 2, none⟩) hRb (.slice B2 m2 j2)).low (a := ⟨w.heap.size + 1 + 1, 3, none⟩) hRb (.slice (some ⟨g, 0, none⟩) L c6))
      have hBf := hide (((((hb2.out.alloc hb2.out.size (.cells #[.slice B1 m1 j1, .int .i64 p.step, .slice B2 m2 j2, .slice (some ⟨g, 0, none⟩) L c6] 32)).setCell (p := ⟨w.heap.size + 1 + 1, 0, none⟩) (by simp; omega) (.slice B1 m1 j1)).setCell (p := ⟨w.heap.size + 1 + 1, 1, none⟩) (by simp; omega) (.int .i64 p.step)).setCell (p := ⟨w.heap.size + 1 + 1, 2, none⟩) (by simp; omega) (.slice B2 m2 j2)).setCell (p := ⟨w.heap.size + 1 + 1, 3, none⟩) (by simp; omega) (.slice (some ⟨g, 0, none⟩) L c6))
      have hTf := hide (((((hC2.out.alloc (.cells #[.slice B1 m1 j1, .int .i64 p.step, .slice B2 m2 j2, .slice (some ⟨g, 0, none⟩) L c6] 32)).set0 (.slice B1 m1 j1)).set1 (.int .i64 p.step)).set2 (.slice B2 m2 j2)).set3 (.slice (some ⟨g, 0, none⟩) L c6))
      obtain ⟨k0, k1, k2, k3, _⟩ := hTf.out
      exact bodyPost_ret (v := .tuple #[.agg #[.slice B1 m1 j1, .int .i64 p.step, .slice B2 m2 j2, .slice (some ⟨g, 0, none⟩) L c6], .bool true]) (by simp [results, Try.results60, go_sem, k0, k1, k2, k3]) rfl ⟨_, by rw [e1.out], by rw [e2.out]; exact dkS_mk ((hKf.out.pl _ _ hpp.out.toY).down hRl.out) (.inl ((hKf.out.ps _ _ (hps2.out.cut hn6.out (Nat.le_of_lt hLn))).down hRl.out)), hBf.out⟩
    | false =>
      rw [hok] at HO
      obtain ⟨M, hM⟩ : ∃ M, Hid (madeP d.now ⟨k, a, b⟩ = M) := ⟨_, hide rfl⟩
      have hno := hide hno
      have hpo := hide hpo
      by_cases hk4 : k = 4
      · subst hk4
        have hpm : placeOk M = false := by
          rw [← hM.out, show madeP d.now ⟨4, a, b⟩ = noPlc by unfold madeP; simp]
          exact noPlc_no
        by_cases ha0 : a = 0
        · subst ha0
          by_cases hb0 : b = 0
          · subst hb0
            have hpe : d.past = [] := by
              unfold backB at hbk
              simpa using hbk
            obtain rfl : n3 = 0 := by rw [← hn3.out, hpe]; rfl
            replace hpe := hide hpe
            have e1 := hide (show deskB d ⟨4, 0, 0⟩ = false by unfold deskB doneB newB; rw [hM.out, hbk, hpm]; simp)
            have e2 := hide (show deskX d ⟨4, 0, 0⟩ = ⟨d.now, d.past⟩ from (deskX_not hok e1.out))
            have hok := hide hok
            clear hbk
            go_enter Try.func60, Try.ntmps60
            go_wp2_with fail
            refine HO.out.mono ?_
            rintro e w1 ⟨rfl, hq1⟩
            obtain ⟨a0, a1, a2, a3, _⟩ := (HF.out w1 hq1).2.2.2.1
            have HCw := hide (HC.out w1 hq1)
            go_wp2_with fail
            refine HCw.out.mono ?_
            rintro e w2 ⟨A4, n4, c4, A5, n5, c5, A6, n6, c6, rfl, hpl2, hps2, hq2⟩
            obtain ⟨hb2, hlw, hdk2, hA2, hB2, hC2⟩ := HF.out w2 (upB hq1 hq2)
            have hl1 := hide (HF.out w1 hq1).2.1
            have hb2 := hide hb2
            have hdk2 := hide hdk2
            have hA2 := hide hA2
            have hB2 := hide hB2
            have hC2 := hide hC2
            have hpl2 := hide hpl2
            have hps2 := hide hps2
            have hw12 := hide hq2.size
            clear a0 a1 a2 a3 hq1 hq2 HF HC HO HCw
            have s0 := fun o => (hA2.out.alloc o).c0
            have s1 := fun o => (hA2.out.alloc o).c1
            have s2 := fun o => (hA2.out.alloc o).c2
            have s3 := fun o => (hA2.out.alloc o).c3
            have t0 := fun o => (hB2.out.alloc o).c0
            have t1 := fun o => (hB2.out.alloc o).c1
            have t2 := fun o => (hB2.out.alloc o).c2
            have r0 := fun o => (hC2.out.alloc o).c0
            have r1 := fun o => (hC2.out.alloc o).c1
            have r2 := fun o => (hC2.out.alloc o).c2
            have r3 := fun o => (hC2.out.alloc o).c3
            have f0 := fun o => (hC2.out.alloc o).f0
            have f1 := fun o => (hC2.out.alloc o).f1
            have f2 := fun o => (hC2.out.alloc o).f2
            have f3 := fun o => (hC2.out.alloc o).f3
            have HMk := hide (l15Made_c _ d.now ⟨4, 0, 0⟩ _ (w2.alloc (.cells #[.slice A4 n4 c4, .int .i64 d.now.step, .slice A5 n5 c5, .slice A6 n6 c6] 32)) ((hdk2.out.now).up (al w2 (.cells #[.slice A4 n4 c4, .int .i64 d.now.step, .slice A5 n5 c5, .slice A6 n6 c6] 32))) (Nat.le_refl _) hno.out hwa hwb)
            rw [hM.out] at HMk
            clear h8
            go_wp2_with fail
            refine HMk.out.mono ?_
            rintro e w3 ⟨u, rfl, hpm3, hq3⟩
            obtain ⟨A7, n7, c7, A8, n8, c8, rfl, _⟩ := hpm3.ex
            have hpm3 := hide hpm3
            have hq23 := hide ((al w2 (.cells #[.slice A4 n4 c4, .int .i64 d.now.step, .slice A5 n5 c5, .slice A6 n6 c6] 32)).trans (hq3.mono (al w2 (.cells #[.slice A4 n4 c4, .int .i64 d.now.step, .slice A5 n5 c5, .slice A6 n6 c6] 32)).size))
            have hO3 := hide ((QuaW.made w2 (.slice A4 n4 c4) (.int .i64 d.now.step) (.slice A5 n5 c5) (.slice A6 n6 c6) 32).up hq3)
            have hob3 := hide ((hq3.block w2.heap.size (by simp)).trans (obj_made w2 (.cells #[.slice A4 n4 c4, .int .i64 d.now.step, .slice A5 n5 c5, .slice A6 n6 c6] 32)))
            have hdk3 := hide (hdk2.out.up hq23.out)
            have hA3 := hide (hA2.out.up hq23.out)
            have hC3 := hide (hC2.out.up hq23.out)
            have hb3 := hide (upB hb2.out hq23.out)
            have hMl := hide (TriW.made w3 (.slice A7 n7 c7) (.int .i64 M.step) (.slice A8 n8 c8) 25)
            have hX := hide (al w3 (.cells #[.slice A7 n7 c7, .int .i64 M.step, .slice A8 n8 c8] 25))
            have hA3M := hide (hA3.out.alloc (.cells #[.slice A7 n7 c7, .int .i64 M.step, .slice A8 n8 c8] 25))
            have HPO := hide (fun (W : World) (hq : Below (w3.alloc (.cells #[.slice A7 n7 c7, .int .i64 M.step, .slice A8 n8 c8] 25)).heap.size (w3.alloc (.cells #[.slice A7 n7 c7, .int .i64 M.step, .slice A8 n8 c8] 25)) W) => show Calls Try.prog 9 #[.agg #[.slice A7 n7 c7, .int .i64 M.step, .slice A8 n8 c8]] W (fun e w' => e = .returned (.bool (placeOk M)) ∧ Hid (Below (w3.alloc (.cells #[.slice A7 n7 c7, .int .i64 M.step, .slice A8 n8 c8] 25)).heap.size (w3.alloc (.cells #[.slice A7 n7 c7, .int .i64 M.step, .slice A8 n8 c8] 25)) w') ∧ w'.cell? ⟨w3.heap.size, 0, none⟩ = some (.slice A7 n7 c7) ∧ w'.cell? ⟨w3.heap.size, 1, none⟩ = some (.int .i64 M.step) ∧ w'.cell? ⟨w3.heap.size, 2, none⟩ = some (.slice A8 n8 c8) ∧ w'.cell? ⟨w.heap.size, 0, none⟩ = some (.slice A n c) ∧ w'.cell? ⟨w.heap.size, 1, none⟩ = some (.int .i64 d.now.step) ∧ w'.cell? ⟨w.heap.size, 2, none⟩ = some (.slice A2 n2 c2)) from
              (placeOk_spec _ M _ W (((hpm3.out.plM).up hX.out).up hq) (Nat.le_refl _)).mono fun e w' ⟨e1, hb⟩ => ⟨e1, upB hq hb, ((hMl.out.up (upB hq hb))).c0, ((hMl.out.up (upB hq hb))).c1, ((hMl.out.up (upB hq hb))).c2, ((hA3M.out.up (upB hq hb))).c0, ((hA3M.out.up (upB hq hb))).c1, ((hA3M.out.up (upB hq hb))).c2⟩)
            obtain ⟨y0, y1, y2, _⟩ := hMl.out
            obtain ⟨x0, x1, x2, _⟩ := hA3M.out
            clear hq3 s0 s1 s2 s3 t0 t1 t2 r0 r1 r2 r3 f0 f1 f2 f3 hdk2 hA2 hB2 hC2 HMk
            go_wp2_with fail
            refine wp_region_any (by kernel_rfl) ?_
            try (change wpAny _ _ _ _ _ _ _ (World.drew _))
            refine wpAny_ready (rs := [0]) (by kernel_rfl) (by simp) ?_
            refine AllReady.cons rfl (fun K hK => ?_) AllReady.nil
            go_simp
            refine hK _ _ ?_
            clear hK K
            try simp only [Act.put, List.getElem_toArray, List.getElem_cons_succ, List.getElem_cons_zero, List.setIfInBounds_toArray, List.set_cons_zero, List.set_cons_succ]
            refine wpAny_ready (rs := [1]) (by kernel_rfl) (by simp) ?_
            refine AllReady.cons rfl (fun K hK => ?_) AllReady.nil
            go_simp
            go_wp2_with (go_at_call 9; (with_reducible refine (HPO.out _ ?_).mono ?_); (focus (repeat (first | assumption | exact Below.refl _ _ | refine Below.drew ?_)); done); rintro e w4 ⟨rfl, hq4, z0, z1, z2, z3, z4, z5⟩)
            try simp only [Act.put, List.getElem_toArray, List.getElem_cons_succ, List.getElem_cons_zero, List.setIfInBounds_toArray, List.set_cons_zero, List.set_cons_succ]
            refine wpAny_take (i := 2) (v := ?_) rfl (by kernel_rfl) (by kernel_rfl) (by kernel_rfl) (fun _ _ _ h => h) (Or.inl ⟨by rfl, ?y2⟩) ?_
            case y2 => (intro w; go_simp <;> with_reducible rfl)
            try simp only [Act.put, List.getElem_toArray, List.getElem_cons_succ, List.getElem_cons_zero, List.setIfInBounds_toArray, List.set_cons_zero, List.set_cons_succ]
            refine wpAny_take (i := 3) (v := ?_) rfl (by kernel_rfl) (by kernel_rfl) (by kernel_rfl) (fun _ _ _ h => h) (Or.inl ⟨by rfl, ?y3⟩) ?_
            case y3 => (intro w; go_simp <;> with_reducible rfl)
            try simp only [Act.put, List.getElem_toArray, List.getElem_cons_succ, List.getElem_cons_zero, List.setIfInBounds_toArray, List.set_cons_zero, List.set_cons_succ]
            refine wpAny_take (i := 4) (v := undef) rfl (by kernel_rfl) (by kernel_rfl) (by kernel_rfl) (fun _ _ _ h => h) (Or.inr ⟨by rfl, rfl⟩) ?_
            try simp only [Act.put, List.getElem_toArray, List.getElem_cons_succ, List.getElem_cons_zero, List.setIfInBounds_toArray, List.set_cons_zero, List.set_cons_succ]
            refine wpAny_take (i := 6) (v := undef) rfl (by kernel_rfl) (by kernel_rfl) (by kernel_rfl) (fun _ _ _ h => h) (Or.inr ⟨by rfl, rfl⟩) ?_
            try simp only [Act.put, List.getElem_toArray, List.getElem_cons_succ, List.getElem_cons_zero, List.setIfInBounds_toArray, List.set_cons_zero, List.set_cons_succ]
            refine wpAny_take (i := 7) (v := undef) rfl (by kernel_rfl) (by kernel_rfl) (by kernel_rfl) (fun _ _ _ h => h) (Or.inr ⟨by rfl, rfl⟩) ?_
            try simp only [Act.put, List.getElem_toArray, List.getElem_cons_succ, List.getElem_cons_zero, List.setIfInBounds_toArray, List.set_cons_zero, List.set_cons_succ]
            refine wpAny_ready (rs := [5]) (by kernel_rfl) (by simp) ?_
            refine AllReady.cons rfl (fun K hK => ?_) AllReady.nil
            go_simp
            refine hK _ _ ?_
            clear hK K
            try simp only [Act.put, List.getElem_toArray, List.getElem_cons_succ, List.getElem_cons_zero, List.setIfInBounds_toArray, List.set_cons_zero, List.set_cons_succ]
            refine wpAny_ready (rs := [8]) (by kernel_rfl) (by simp) ?_
            refine AllReady.cons rfl (fun K hK => ?_) AllReady.nil
            go_simp
            refine hK _ _ ?_
            clear hK K
            try simp only [Act.put, List.getElem_toArray, List.getElem_cons_succ, List.getElem_cons_zero, List.setIfInBounds_toArray, List.set_cons_zero, List.set_cons_succ]
            refine wpAny_take (i := 9) (v := undef) rfl (by kernel_rfl) (by kernel_rfl) (by kernel_rfl) (fun _ _ _ h => h) (Or.inr ⟨by rfl, rfl⟩) ?_
            try simp only [Act.put, List.getElem_toArray, List.getElem_cons_succ, List.getElem_cons_zero, List.setIfInBounds_toArray, List.set_cons_zero, List.set_cons_succ]
            refine wpAny_take (i := 10) (v := ?_) rfl (by kernel_rfl) (by kernel_rfl) (by kernel_rfl) (fun _ _ _ h => h) (Or.inl ⟨by rfl, ?y10⟩) ?_
            case y10 => (intro w; go_simp <;> with_reducible rfl)
            try simp only [Act.put, List.getElem_toArray, List.getElem_cons_succ, List.getElem_cons_zero, List.setIfInBounds_toArray, List.set_cons_zero, List.set_cons_succ]
            refine wpAny_done (by kernel_rfl) ?_ _
            have hq34 := hide (upB hX.out hq4.out)
            have hq24 := hide (upB hq23.out hq34.out)
            have hC4 := hide (hC3.out.up hq34.out)
            have hb4 := hide (upB hb3.out hq34.out)
            have hO4 := hide (hO3.out.up hq34.out)
            obtain ⟨a0, a1, a2, a3, g0, g1, g2, g3, _⟩ := hO4.out
            obtain ⟨r0, r1, r2, r3, f0, f1, f2, f3, _⟩ := hC4.out
            clear hq4 hq34 hO4 hO3 hdk3 hA3 hA3M hMl hX HPO
            go_wp2_with fail
            have hRb : w.heap.size + 1 + 1 < w1.heap.size := by have := hl1.out; omega
            have hRl := hide (show w.heap.size ≤ w1.heap.size by omega)
            have hKf := hide (((((KP.refl.up hq24.out).low (a := ⟨w.heap.size + 1 + 1, 0, none⟩) hRb (.slice A4 n4 c4)).low (a := ⟨w.heap.size + 1 + 1, 1, none⟩) hRb (.int .i64 d.now.step)).low (a := ⟨w.heap.size + 1 + 1, 2, none⟩) hRb (.slice A5 n5 c5)).low (a := ⟨w.heap.size + 1 + 1, 3, none⟩) hRb (.slice A6 n6 c6))
            have hBf := hide (((((hb4.out).setCell (p := ⟨w.heap.size + 1 + 1, 0, none⟩) (by simp; omega) (.slice A4 n4 c4)).setCell (p := ⟨w.heap.size + 1 + 1, 1, none⟩) (by simp; omega) (.int .i64 d.now.step)).setCell (p := ⟨w.heap.size + 1 + 1, 2, none⟩) (by simp; omega) (.slice A5 n5 c5)).setCell (p := ⟨w.heap.size + 1 + 1, 3, none⟩) (by simp; omega) (.slice A6 n6 c6))
            have hTf := hide (((((hC4.out).set0 (.slice A4 n4 c4)).set1 (.int .i64 d.now.step)).set2 (.slice A5 n5 c5)).set3 (.slice A6 n6 c6))
            obtain ⟨k0, k1, k2, k3, _⟩ := hTf.out
            exact bodyPost_ret (v := .tuple #[.agg #[.slice A4 n4 c4, .int .i64 d.now.step, .slice A5 n5 c5, .slice A6 n6 c6], .bool false]) (by simp [results, Try.results60, go_sem, k0, k1, k2, k3]) rfl ⟨_, by rw [e1.out], by rw [e2.out]; exact dkS_mk ((hKf.out.pl _ _ hpl2.out.toY).down hRl.out) (.inl ((hKf.out.ps _ _ hps2.out).down hRl.out)), hBf.out⟩
          · have hb0b : (b == 0) = false := by simpa using hb0
            replace hb0 := hide hb0
            have e1 := hide (show deskB d ⟨4, 0, b⟩ = false by unfold deskB doneB newB; rw [hM.out, hbk, hpm]; simp)
            have e2 := hide (show deskX d ⟨4, 0, b⟩ = ⟨d.now, d.past⟩ from (deskX_not hok e1.out))
            have hok := hide hok
            clear hbk
            go_enter Try.func60, Try.ntmps60
            go_wp2_with fail
            refine HO.out.mono ?_
            rintro e w1 ⟨rfl, hq1⟩
            obtain ⟨a0, a1, a2, a3, _⟩ := (HF.out w1 hq1).2.2.2.1
            have HCw := hide (HC.out w1 hq1)
            go_wp2_with fail
            refine HCw.out.mono ?_
            rintro e w2 ⟨A4, n4, c4, A5, n5, c5, A6, n6, c6, rfl, hpl2, hps2, hq2⟩
            obtain ⟨hb2, hlw, hdk2, hA2, hB2, hC2⟩ := HF.out w2 (upB hq1 hq2)
            have hl1 := hide (HF.out w1 hq1).2.1
            have hb2 := hide hb2
            have hdk2 := hide hdk2
            have hA2 := hide hA2
            have hB2 := hide hB2
            have hC2 := hide hC2
            have hpl2 := hide hpl2
            have hps2 := hide hps2
            have hw12 := hide hq2.size
            clear a0 a1 a2 a3 hq1 hq2 HF HC HO HCw
            have s0 := fun o => (hA2.out.alloc o).c0
            have s1 := fun o => (hA2.out.alloc o).c1
            have s2 := fun o => (hA2.out.alloc o).c2
            have s3 := fun o => (hA2.out.alloc o).c3
            have t0 := fun o => (hB2.out.alloc o).c0
            have t1 := fun o => (hB2.out.alloc o).c1
            have t2 := fun o => (hB2.out.alloc o).c2
            have r0 := fun o => (hC2.out.alloc o).c0
            have r1 := fun o => (hC2.out.alloc o).c1
            have r2 := fun o => (hC2.out.alloc o).c2
            have r3 := fun o => (hC2.out.alloc o).c3
            have f0 := fun o => (hC2.out.alloc o).f0
            have f1 := fun o => (hC2.out.alloc o).f1
            have f2 := fun o => (hC2.out.alloc o).f2
            have f3 := fun o => (hC2.out.alloc o).f3
            have HMk := hide (l15Made_c _ d.now ⟨4, 0, b⟩ _ (w2.alloc (.cells #[.slice A4 n4 c4, .int .i64 d.now.step, .slice A5 n5 c5, .slice A6 n6 c6] 32)) ((hdk2.out.now).up (al w2 (.cells #[.slice A4 n4 c4, .int .i64 d.now.step, .slice A5 n5 c5, .slice A6 n6 c6] 32))) (Nat.le_refl _) hno.out hwa hwb)
            rw [hM.out] at HMk
            clear h8
            go_wp2_with fail
            refine HMk.out.mono ?_
            rintro e w3 ⟨u, rfl, hpm3, hq3⟩
            obtain ⟨A7, n7, c7, A8, n8, c8, rfl, _⟩ := hpm3.ex
            have hpm3 := hide hpm3
            have hq23 := hide ((al w2 (.cells #[.slice A4 n4 c4, .int .i64 d.now.step, .slice A5 n5 c5, .slice A6 n6 c6] 32)).trans (hq3.mono (al w2 (.cells #[.slice A4 n4 c4, .int .i64 d.now.step, .slice A5 n5 c5, .slice A6 n6 c6] 32)).size))
            have hO3 := hide ((QuaW.made w2 (.slice A4 n4 c4) (.int .i64 d.now.step) (.slice A5 n5 c5) (.slice A6 n6 c6) 32).up hq3)
            have hob3 := hide ((hq3.block w2.heap.size (by simp)).trans (obj_made w2 (.cells #[.slice A4 n4 c4, .int .i64 d.now.step, .slice A5 n5 c5, .slice A6 n6 c6] 32)))
            have hdk3 := hide (hdk2.out.up hq23.out)
            have hA3 := hide (hA2.out.up hq23.out)
            have hC3 := hide (hC2.out.up hq23.out)
            have hb3 := hide (upB hb2.out hq23.out)
            have hMl := hide (TriW.made w3 (.slice A7 n7 c7) (.int .i64 M.step) (.slice A8 n8 c8) 25)
            have hX := hide (al w3 (.cells #[.slice A7 n7 c7, .int .i64 M.step, .slice A8 n8 c8] 25))
            have hA3M := hide (hA3.out.alloc (.cells #[.slice A7 n7 c7, .int .i64 M.step, .slice A8 n8 c8] 25))
            have HPO := hide (fun (W : World) (hq : Below (w3.alloc (.cells #[.slice A7 n7 c7, .int .i64 M.step, .slice A8 n8 c8] 25)).heap.size (w3.alloc (.cells #[.slice A7 n7 c7, .int .i64 M.step, .slice A8 n8 c8] 25)) W) => show Calls Try.prog 9 #[.agg #[.slice A7 n7 c7, .int .i64 M.step, .slice A8 n8 c8]] W (fun e w' => e = .returned (.bool (placeOk M)) ∧ Hid (Below (w3.alloc (.cells #[.slice A7 n7 c7, .int .i64 M.step, .slice A8 n8 c8] 25)).heap.size (w3.alloc (.cells #[.slice A7 n7 c7, .int .i64 M.step, .slice A8 n8 c8] 25)) w') ∧ w'.cell? ⟨w3.heap.size, 0, none⟩ = some (.slice A7 n7 c7) ∧ w'.cell? ⟨w3.heap.size, 1, none⟩ = some (.int .i64 M.step) ∧ w'.cell? ⟨w3.heap.size, 2, none⟩ = some (.slice A8 n8 c8) ∧ w'.cell? ⟨w.heap.size, 0, none⟩ = some (.slice A n c) ∧ w'.cell? ⟨w.heap.size, 1, none⟩ = some (.int .i64 d.now.step) ∧ w'.cell? ⟨w.heap.size, 2, none⟩ = some (.slice A2 n2 c2)) from
              (placeOk_spec _ M _ W (((hpm3.out.plM).up hX.out).up hq) (Nat.le_refl _)).mono fun e w' ⟨e1, hb⟩ => ⟨e1, upB hq hb, ((hMl.out.up (upB hq hb))).c0, ((hMl.out.up (upB hq hb))).c1, ((hMl.out.up (upB hq hb))).c2, ((hA3M.out.up (upB hq hb))).c0, ((hA3M.out.up (upB hq hb))).c1, ((hA3M.out.up (upB hq hb))).c2⟩)
            obtain ⟨y0, y1, y2, _⟩ := hMl.out
            obtain ⟨x0, x1, x2, _⟩ := hA3M.out
            clear hq3 s0 s1 s2 s3 t0 t1 t2 r0 r1 r2 r3 f0 f1 f2 f3 hdk2 hA2 hB2 hC2 HMk
            go_wp2_with fail
            refine wp_region_any (by kernel_rfl) ?_
            try (change wpAny _ _ _ _ _ _ _ (World.drew _))
            refine wpAny_ready (rs := [0]) (by kernel_rfl) (by simp) ?_
            refine AllReady.cons rfl (fun K hK => ?_) AllReady.nil
            go_simp
            refine hK _ _ ?_
            clear hK K
            try simp only [Act.put, List.getElem_toArray, List.getElem_cons_succ, List.getElem_cons_zero, List.setIfInBounds_toArray, List.set_cons_zero, List.set_cons_succ]
            refine wpAny_ready (rs := [1]) (by kernel_rfl) (by simp) ?_
            refine AllReady.cons rfl (fun K hK => ?_) AllReady.nil
            go_simp
            go_wp2_with (go_at_call 9; (with_reducible refine (HPO.out _ ?_).mono ?_); (focus (repeat (first | assumption | exact Below.refl _ _ | refine Below.drew ?_)); done); rintro e w4 ⟨rfl, hq4, z0, z1, z2, z3, z4, z5⟩)
            try simp only [Act.put, List.getElem_toArray, List.getElem_cons_succ, List.getElem_cons_zero, List.setIfInBounds_toArray, List.set_cons_zero, List.set_cons_succ]
            refine wpAny_take (i := 2) (v := ?_) rfl (by kernel_rfl) (by kernel_rfl) (by kernel_rfl) (fun _ _ _ h => h) (Or.inl ⟨by rfl, ?y2⟩) ?_
            case y2 => (intro w; go_simp <;> with_reducible rfl)
            try simp only [Act.put, List.getElem_toArray, List.getElem_cons_succ, List.getElem_cons_zero, List.setIfInBounds_toArray, List.set_cons_zero, List.set_cons_succ]
            refine wpAny_take (i := 3) (v := ?_) rfl (by kernel_rfl) (by kernel_rfl) (by kernel_rfl) (fun _ _ _ h => h) (Or.inl ⟨by rfl, ?y3⟩) ?_
            case y3 => (intro w; go_simp <;> with_reducible rfl)
            try simp only [Act.put, List.getElem_toArray, List.getElem_cons_succ, List.getElem_cons_zero, List.setIfInBounds_toArray, List.set_cons_zero, List.set_cons_succ]
            refine wpAny_take (i := 4) (v := undef) rfl (by kernel_rfl) (by kernel_rfl) (by kernel_rfl) (fun _ _ _ h => h) (Or.inr ⟨by rfl, rfl⟩) ?_
            try simp only [Act.put, List.getElem_toArray, List.getElem_cons_succ, List.getElem_cons_zero, List.setIfInBounds_toArray, List.set_cons_zero, List.set_cons_succ]
            refine wpAny_take (i := 6) (v := undef) rfl (by kernel_rfl) (by kernel_rfl) (by kernel_rfl) (fun _ _ _ h => h) (Or.inr ⟨by rfl, rfl⟩) ?_
            try simp only [Act.put, List.getElem_toArray, List.getElem_cons_succ, List.getElem_cons_zero, List.setIfInBounds_toArray, List.set_cons_zero, List.set_cons_succ]
            refine wpAny_take (i := 7) (v := undef) rfl (by kernel_rfl) (by kernel_rfl) (by kernel_rfl) (fun _ _ _ h => h) (Or.inr ⟨by rfl, rfl⟩) ?_
            try simp only [Act.put, List.getElem_toArray, List.getElem_cons_succ, List.getElem_cons_zero, List.setIfInBounds_toArray, List.set_cons_zero, List.set_cons_succ]
            refine wpAny_ready (rs := [5]) (by kernel_rfl) (by simp) ?_
            refine AllReady.cons rfl (fun K hK => ?_) AllReady.nil
            go_simp
            refine hK _ _ ?_
            clear hK K
            try simp only [Act.put, List.getElem_toArray, List.getElem_cons_succ, List.getElem_cons_zero, List.setIfInBounds_toArray, List.set_cons_zero, List.set_cons_succ]
            refine wpAny_ready (rs := [8]) (by kernel_rfl) (by simp) ?_
            refine AllReady.cons rfl (fun K hK => ?_) AllReady.nil
            go_simp
            refine hK _ _ ?_
            clear hK K
            try simp only [Act.put, List.getElem_toArray, List.getElem_cons_succ, List.getElem_cons_zero, List.setIfInBounds_toArray, List.set_cons_zero, List.set_cons_succ]
            refine wpAny_take (i := 9) (v := undef) rfl (by kernel_rfl) (by kernel_rfl) (by kernel_rfl) (fun _ _ _ h => h) (Or.inr ⟨by rfl, rfl⟩) ?_
            try simp only [Act.put, List.getElem_toArray, List.getElem_cons_succ, List.getElem_cons_zero, List.setIfInBounds_toArray, List.set_cons_zero, List.set_cons_succ]
            refine wpAny_take (i := 10) (v := ?_) rfl (by kernel_rfl) (by kernel_rfl) (by kernel_rfl) (fun _ _ _ h => h) (Or.inl ⟨by rfl, ?y10⟩) ?_
            case y10 => (intro w; go_simp <;> with_reducible rfl)
            try simp only [Act.put, List.getElem_toArray, List.getElem_cons_succ, List.getElem_cons_zero, List.setIfInBounds_toArray, List.set_cons_zero, List.set_cons_succ]
            refine wpAny_done (by kernel_rfl) ?_ _
            have hq34 := hide (upB hX.out hq4.out)
            have hq24 := hide (upB hq23.out hq34.out)
            have hC4 := hide (hC3.out.up hq34.out)
            have hb4 := hide (upB hb3.out hq34.out)
            have hO4 := hide (hO3.out.up hq34.out)
            obtain ⟨a0, a1, a2, a3, g0, g1, g2, g3, _⟩ := hO4.out
            obtain ⟨r0, r1, r2, r3, f0, f1, f2, f3, _⟩ := hC4.out
            clear hq4 hq34 hO4 hO3 hdk3 hA3 hA3M hMl hX HPO
            go_wp2_with fail
            have hRb : w.heap.size + 1 + 1 < w1.heap.size := by have := hl1.out; omega
            have hRl := hide (show w.heap.size ≤ w1.heap.size by omega)
            have hKf := hide (((((KP.refl.up hq24.out).low (a := ⟨w.heap.size + 1 + 1, 0, none⟩) hRb (.slice A4 n4 c4)).low (a := ⟨w.heap.size + 1 + 1, 1, none⟩) hRb (.int .i64 d.now.step)).low (a := ⟨w.heap.size + 1 + 1, 2, none⟩) hRb (.slice A5 n5 c5)).low (a := ⟨w.heap.size + 1 + 1, 3, none⟩) hRb (.slice A6 n6 c6))
            have hBf := hide (((((hb4.out).setCell (p := ⟨w.heap.size + 1 + 1, 0, none⟩) (by simp; omega) (.slice A4 n4 c4)).setCell (p := ⟨w.heap.size + 1 + 1, 1, none⟩) (by simp; omega) (.int .i64 d.now.step)).setCell (p := ⟨w.heap.size + 1 + 1, 2, none⟩) (by simp; omega) (.slice A5 n5 c5)).setCell (p := ⟨w.heap.size + 1 + 1, 3, none⟩) (by simp; omega) (.slice A6 n6 c6))
            have hTf := hide (((((hC4.out).set0 (.slice A4 n4 c4)).set1 (.int .i64 d.now.step)).set2 (.slice A5 n5 c5)).set3 (.slice A6 n6 c6))
            obtain ⟨k0, k1, k2, k3, _⟩ := hTf.out
            exact bodyPost_ret (v := .tuple #[.agg #[.slice A4 n4 c4, .int .i64 d.now.step, .slice A5 n5 c5, .slice A6 n6 c6], .bool false]) (by simp [results, Try.results60, go_sem, k0, k1, k2, k3]) rfl ⟨_, by rw [e1.out], by rw [e2.out]; exact dkS_mk ((hKf.out.pl _ _ hpl2.out.toY).down hRl.out) (.inl ((hKf.out.ps _ _ hps2.out).down hRl.out)), hBf.out⟩
        · have ha0b : (a == 0) = false := by simpa using ha0
          replace ha0 := hide ha0
          have e1 := hide (show deskB d ⟨4, a, b⟩ = false by unfold deskB doneB newB; rw [hM.out, hbk, hpm]; simp)
          have e2 := hide (show deskX d ⟨4, a, b⟩ = ⟨d.now, d.past⟩ from (deskX_not hok e1.out))
          have hok := hide hok
          clear hbk
          go_enter Try.func60, Try.ntmps60
          go_wp2_with fail
          refine HO.out.mono ?_
          rintro e w1 ⟨rfl, hq1⟩
          obtain ⟨a0, a1, a2, a3, _⟩ := (HF.out w1 hq1).2.2.2.1
          have HCw := hide (HC.out w1 hq1)
          go_wp2_with fail
          refine HCw.out.mono ?_
          rintro e w2 ⟨A4, n4, c4, A5, n5, c5, A6, n6, c6, rfl, hpl2, hps2, hq2⟩
          obtain ⟨hb2, hlw, hdk2, hA2, hB2, hC2⟩ := HF.out w2 (upB hq1 hq2)
          have hl1 := hide (HF.out w1 hq1).2.1
          have hb2 := hide hb2
          have hdk2 := hide hdk2
          have hA2 := hide hA2
          have hB2 := hide hB2
          have hC2 := hide hC2
          have hpl2 := hide hpl2
          have hps2 := hide hps2
          have hw12 := hide hq2.size
          clear a0 a1 a2 a3 hq1 hq2 HF HC HO HCw
          have s0 := fun o => (hA2.out.alloc o).c0
          have s1 := fun o => (hA2.out.alloc o).c1
          have s2 := fun o => (hA2.out.alloc o).c2
          have s3 := fun o => (hA2.out.alloc o).c3
          have t0 := fun o => (hB2.out.alloc o).c0
          have t1 := fun o => (hB2.out.alloc o).c1
          have t2 := fun o => (hB2.out.alloc o).c2
          have r0 := fun o => (hC2.out.alloc o).c0
          have r1 := fun o => (hC2.out.alloc o).c1
          have r2 := fun o => (hC2.out.alloc o).c2
          have r3 := fun o => (hC2.out.alloc o).c3
          have f0 := fun o => (hC2.out.alloc o).f0
          have f1 := fun o => (hC2.out.alloc o).f1
          have f2 := fun o => (hC2.out.alloc o).f2
          have f3 := fun o => (hC2.out.alloc o).f3
          have HMk := hide (l15Made_c _ d.now ⟨4, a, b⟩ _ (w2.alloc (.cells #[.slice A4 n4 c4, .int .i64 d.now.step, .slice A5 n5 c5, .slice A6 n6 c6] 32)) ((hdk2.out.now).up (al w2 (.cells #[.slice A4 n4 c4, .int .i64 d.now.step, .slice A5 n5 c5, .slice A6 n6 c6] 32))) (Nat.le_refl _) hno.out hwa hwb)
          rw [hM.out] at HMk
          clear h8
          go_wp2_with fail
          refine HMk.out.mono ?_
          rintro e w3 ⟨u, rfl, hpm3, hq3⟩
          obtain ⟨A7, n7, c7, A8, n8, c8, rfl, _⟩ := hpm3.ex
          have hpm3 := hide hpm3
          have hq23 := hide ((al w2 (.cells #[.slice A4 n4 c4, .int .i64 d.now.step, .slice A5 n5 c5, .slice A6 n6 c6] 32)).trans (hq3.mono (al w2 (.cells #[.slice A4 n4 c4, .int .i64 d.now.step, .slice A5 n5 c5, .slice A6 n6 c6] 32)).size))
          have hO3 := hide ((QuaW.made w2 (.slice A4 n4 c4) (.int .i64 d.now.step) (.slice A5 n5 c5) (.slice A6 n6 c6) 32).up hq3)
          have hob3 := hide ((hq3.block w2.heap.size (by simp)).trans (obj_made w2 (.cells #[.slice A4 n4 c4, .int .i64 d.now.step, .slice A5 n5 c5, .slice A6 n6 c6] 32)))
          have hdk3 := hide (hdk2.out.up hq23.out)
          have hA3 := hide (hA2.out.up hq23.out)
          have hC3 := hide (hC2.out.up hq23.out)
          have hb3 := hide (upB hb2.out hq23.out)
          have hMl := hide (TriW.made w3 (.slice A7 n7 c7) (.int .i64 M.step) (.slice A8 n8 c8) 25)
          have hX := hide (al w3 (.cells #[.slice A7 n7 c7, .int .i64 M.step, .slice A8 n8 c8] 25))
          have hA3M := hide (hA3.out.alloc (.cells #[.slice A7 n7 c7, .int .i64 M.step, .slice A8 n8 c8] 25))
          have HPO := hide (fun (W : World) (hq : Below (w3.alloc (.cells #[.slice A7 n7 c7, .int .i64 M.step, .slice A8 n8 c8] 25)).heap.size (w3.alloc (.cells #[.slice A7 n7 c7, .int .i64 M.step, .slice A8 n8 c8] 25)) W) => show Calls Try.prog 9 #[.agg #[.slice A7 n7 c7, .int .i64 M.step, .slice A8 n8 c8]] W (fun e w' => e = .returned (.bool (placeOk M)) ∧ Hid (Below (w3.alloc (.cells #[.slice A7 n7 c7, .int .i64 M.step, .slice A8 n8 c8] 25)).heap.size (w3.alloc (.cells #[.slice A7 n7 c7, .int .i64 M.step, .slice A8 n8 c8] 25)) w') ∧ w'.cell? ⟨w3.heap.size, 0, none⟩ = some (.slice A7 n7 c7) ∧ w'.cell? ⟨w3.heap.size, 1, none⟩ = some (.int .i64 M.step) ∧ w'.cell? ⟨w3.heap.size, 2, none⟩ = some (.slice A8 n8 c8) ∧ w'.cell? ⟨w.heap.size, 0, none⟩ = some (.slice A n c) ∧ w'.cell? ⟨w.heap.size, 1, none⟩ = some (.int .i64 d.now.step) ∧ w'.cell? ⟨w.heap.size, 2, none⟩ = some (.slice A2 n2 c2)) from
            (placeOk_spec _ M _ W (((hpm3.out.plM).up hX.out).up hq) (Nat.le_refl _)).mono fun e w' ⟨e1, hb⟩ => ⟨e1, upB hq hb, ((hMl.out.up (upB hq hb))).c0, ((hMl.out.up (upB hq hb))).c1, ((hMl.out.up (upB hq hb))).c2, ((hA3M.out.up (upB hq hb))).c0, ((hA3M.out.up (upB hq hb))).c1, ((hA3M.out.up (upB hq hb))).c2⟩)
          obtain ⟨y0, y1, y2, _⟩ := hMl.out
          obtain ⟨x0, x1, x2, _⟩ := hA3M.out
          clear hq3 s0 s1 s2 s3 t0 t1 t2 r0 r1 r2 r3 f0 f1 f2 f3 hdk2 hA2 hB2 hC2 HMk
          go_wp2_with fail
          refine wp_region_any (by kernel_rfl) ?_
          try (change wpAny _ _ _ _ _ _ _ (World.drew _))
          refine wpAny_ready (rs := [0]) (by kernel_rfl) (by simp) ?_
          refine AllReady.cons rfl (fun K hK => ?_) AllReady.nil
          go_simp
          refine hK _ _ ?_
          clear hK K
          try simp only [Act.put, List.getElem_toArray, List.getElem_cons_succ, List.getElem_cons_zero, List.setIfInBounds_toArray, List.set_cons_zero, List.set_cons_succ]
          refine wpAny_ready (rs := [1]) (by kernel_rfl) (by simp) ?_
          refine AllReady.cons rfl (fun K hK => ?_) AllReady.nil
          go_simp
          go_wp2_with (go_at_call 9; (with_reducible refine (HPO.out _ ?_).mono ?_); (focus (repeat (first | assumption | exact Below.refl _ _ | refine Below.drew ?_)); done); rintro e w4 ⟨rfl, hq4, z0, z1, z2, z3, z4, z5⟩)
          try simp only [Act.put, List.getElem_toArray, List.getElem_cons_succ, List.getElem_cons_zero, List.setIfInBounds_toArray, List.set_cons_zero, List.set_cons_succ]
          refine wpAny_take (i := 2) (v := ?_) rfl (by kernel_rfl) (by kernel_rfl) (by kernel_rfl) (fun _ _ _ h => h) (Or.inl ⟨by rfl, ?y2⟩) ?_
          case y2 => (intro w; go_simp <;> with_reducible rfl)
          try simp only [Act.put, List.getElem_toArray, List.getElem_cons_succ, List.getElem_cons_zero, List.setIfInBounds_toArray, List.set_cons_zero, List.set_cons_succ]
          refine wpAny_take (i := 3) (v := ?_) rfl (by kernel_rfl) (by kernel_rfl) (by kernel_rfl) (fun _ _ _ h => h) (Or.inl ⟨by rfl, ?y3⟩) ?_
          case y3 => (intro w; go_simp <;> with_reducible rfl)
          try simp only [Act.put, List.getElem_toArray, List.getElem_cons_succ, List.getElem_cons_zero, List.setIfInBounds_toArray, List.set_cons_zero, List.set_cons_succ]
          refine wpAny_take (i := 4) (v := undef) rfl (by kernel_rfl) (by kernel_rfl) (by kernel_rfl) (fun _ _ _ h => h) (Or.inr ⟨by rfl, rfl⟩) ?_
          try simp only [Act.put, List.getElem_toArray, List.getElem_cons_succ, List.getElem_cons_zero, List.setIfInBounds_toArray, List.set_cons_zero, List.set_cons_succ]
          refine wpAny_take (i := 6) (v := undef) rfl (by kernel_rfl) (by kernel_rfl) (by kernel_rfl) (fun _ _ _ h => h) (Or.inr ⟨by rfl, rfl⟩) ?_
          try simp only [Act.put, List.getElem_toArray, List.getElem_cons_succ, List.getElem_cons_zero, List.setIfInBounds_toArray, List.set_cons_zero, List.set_cons_succ]
          refine wpAny_take (i := 7) (v := undef) rfl (by kernel_rfl) (by kernel_rfl) (by kernel_rfl) (fun _ _ _ h => h) (Or.inr ⟨by rfl, rfl⟩) ?_
          try simp only [Act.put, List.getElem_toArray, List.getElem_cons_succ, List.getElem_cons_zero, List.setIfInBounds_toArray, List.set_cons_zero, List.set_cons_succ]
          refine wpAny_ready (rs := [5]) (by kernel_rfl) (by simp) ?_
          refine AllReady.cons rfl (fun K hK => ?_) AllReady.nil
          go_simp
          refine hK _ _ ?_
          clear hK K
          try simp only [Act.put, List.getElem_toArray, List.getElem_cons_succ, List.getElem_cons_zero, List.setIfInBounds_toArray, List.set_cons_zero, List.set_cons_succ]
          refine wpAny_ready (rs := [8]) (by kernel_rfl) (by simp) ?_
          refine AllReady.cons rfl (fun K hK => ?_) AllReady.nil
          go_simp
          refine hK _ _ ?_
          clear hK K
          try simp only [Act.put, List.getElem_toArray, List.getElem_cons_succ, List.getElem_cons_zero, List.setIfInBounds_toArray, List.set_cons_zero, List.set_cons_succ]
          refine wpAny_take (i := 9) (v := undef) rfl (by kernel_rfl) (by kernel_rfl) (by kernel_rfl) (fun _ _ _ h => h) (Or.inr ⟨by rfl, rfl⟩) ?_
          try simp only [Act.put, List.getElem_toArray, List.getElem_cons_succ, List.getElem_cons_zero, List.setIfInBounds_toArray, List.set_cons_zero, List.set_cons_succ]
          refine wpAny_take (i := 10) (v := ?_) rfl (by kernel_rfl) (by kernel_rfl) (by kernel_rfl) (fun _ _ _ h => h) (Or.inl ⟨by rfl, ?y10⟩) ?_
          case y10 => (intro w; go_simp <;> with_reducible rfl)
          try simp only [Act.put, List.getElem_toArray, List.getElem_cons_succ, List.getElem_cons_zero, List.setIfInBounds_toArray, List.set_cons_zero, List.set_cons_succ]
          refine wpAny_done (by kernel_rfl) ?_ _
          have hq34 := hide (upB hX.out hq4.out)
          have hq24 := hide (upB hq23.out hq34.out)
          have hC4 := hide (hC3.out.up hq34.out)
          have hb4 := hide (upB hb3.out hq34.out)
          have hO4 := hide (hO3.out.up hq34.out)
          obtain ⟨a0, a1, a2, a3, g0, g1, g2, g3, _⟩ := hO4.out
          obtain ⟨r0, r1, r2, r3, f0, f1, f2, f3, _⟩ := hC4.out
          clear hq4 hq34 hO4 hO3 hdk3 hA3 hA3M hMl hX HPO
          go_wp2_with fail
          have hRb : w.heap.size + 1 + 1 < w1.heap.size := by have := hl1.out; omega
          have hRl := hide (show w.heap.size ≤ w1.heap.size by omega)
          have hKf := hide (((((KP.refl.up hq24.out).low (a := ⟨w.heap.size + 1 + 1, 0, none⟩) hRb (.slice A4 n4 c4)).low (a := ⟨w.heap.size + 1 + 1, 1, none⟩) hRb (.int .i64 d.now.step)).low (a := ⟨w.heap.size + 1 + 1, 2, none⟩) hRb (.slice A5 n5 c5)).low (a := ⟨w.heap.size + 1 + 1, 3, none⟩) hRb (.slice A6 n6 c6))
          have hBf := hide (((((hb4.out).setCell (p := ⟨w.heap.size + 1 + 1, 0, none⟩) (by simp; omega) (.slice A4 n4 c4)).setCell (p := ⟨w.heap.size + 1 + 1, 1, none⟩) (by simp; omega) (.int .i64 d.now.step)).setCell (p := ⟨w.heap.size + 1 + 1, 2, none⟩) (by simp; omega) (.slice A5 n5 c5)).setCell (p := ⟨w.heap.size + 1 + 1, 3, none⟩) (by simp; omega) (.slice A6 n6 c6))
          have hTf := hide (((((hC4.out).set0 (.slice A4 n4 c4)).set1 (.int .i64 d.now.step)).set2 (.slice A5 n5 c5)).set3 (.slice A6 n6 c6))
          obtain ⟨k0, k1, k2, k3, _⟩ := hTf.out
          exact bodyPost_ret (v := .tuple #[.agg #[.slice A4 n4 c4, .int .i64 d.now.step, .slice A5 n5 c5, .slice A6 n6 c6], .bool false]) (by simp [results, Try.results60, go_sem, k0, k1, k2, k3]) rfl ⟨_, by rw [e1.out], by rw [e2.out]; exact dkS_mk ((hKf.out.pl _ _ hpl2.out.toY).down hRl.out) (.inl ((hKf.out.ps _ _ hps2.out).down hRl.out)), hBf.out⟩
      · have hk4b : (k == 4) = false := by simpa using hk4
        replace hk4 := hide hk4
        cases hpm : placeOk M with
        | false =>
          have e1 := hide (show deskB d ⟨k, a, b⟩ = false by unfold deskB doneB newB; rw [hM.out, hbk, hpm]; simp)
          have e2 := hide (show deskX d ⟨k, a, b⟩ = ⟨d.now, d.past⟩ from (deskX_not hok e1.out))
          have hok := hide hok
          clear hbk
          go_enter Try.func60, Try.ntmps60
          go_wp2_with fail
          refine HO.out.mono ?_
          rintro e w1 ⟨rfl, hq1⟩
          obtain ⟨a0, a1, a2, a3, _⟩ := (HF.out w1 hq1).2.2.2.1
          have HCw := hide (HC.out w1 hq1)
          go_wp2_with fail
          refine HCw.out.mono ?_
          rintro e w2 ⟨A4, n4, c4, A5, n5, c5, A6, n6, c6, rfl, hpl2, hps2, hq2⟩
          obtain ⟨hb2, hlw, hdk2, hA2, hB2, hC2⟩ := HF.out w2 (upB hq1 hq2)
          have hl1 := hide (HF.out w1 hq1).2.1
          have hb2 := hide hb2
          have hdk2 := hide hdk2
          have hA2 := hide hA2
          have hB2 := hide hB2
          have hC2 := hide hC2
          have hpl2 := hide hpl2
          have hps2 := hide hps2
          have hw12 := hide hq2.size
          clear a0 a1 a2 a3 hq1 hq2 HF HC HO HCw
          have s0 := fun o => (hA2.out.alloc o).c0
          have s1 := fun o => (hA2.out.alloc o).c1
          have s2 := fun o => (hA2.out.alloc o).c2
          have s3 := fun o => (hA2.out.alloc o).c3
          have t0 := fun o => (hB2.out.alloc o).c0
          have t1 := fun o => (hB2.out.alloc o).c1
          have t2 := fun o => (hB2.out.alloc o).c2
          have r0 := fun o => (hC2.out.alloc o).c0
          have r1 := fun o => (hC2.out.alloc o).c1
          have r2 := fun o => (hC2.out.alloc o).c2
          have r3 := fun o => (hC2.out.alloc o).c3
          have f0 := fun o => (hC2.out.alloc o).f0
          have f1 := fun o => (hC2.out.alloc o).f1
          have f2 := fun o => (hC2.out.alloc o).f2
          have f3 := fun o => (hC2.out.alloc o).f3
          have HMk := hide (l15Made_c _ d.now ⟨k, a, b⟩ _ (w2.alloc (.cells #[.slice A4 n4 c4, .int .i64 d.now.step, .slice A5 n5 c5, .slice A6 n6 c6] 32)) ((hdk2.out.now).up (al w2 (.cells #[.slice A4 n4 c4, .int .i64 d.now.step, .slice A5 n5 c5, .slice A6 n6 c6] 32))) (Nat.le_refl _) hno.out hwa hwb)
          rw [hM.out] at HMk
          clear h8
          go_wp2_with fail
          refine HMk.out.mono ?_
          rintro e w3 ⟨u, rfl, hpm3, hq3⟩
          obtain ⟨A7, n7, c7, A8, n8, c8, rfl, _⟩ := hpm3.ex
          have hpm3 := hide hpm3
          have hq23 := hide ((al w2 (.cells #[.slice A4 n4 c4, .int .i64 d.now.step, .slice A5 n5 c5, .slice A6 n6 c6] 32)).trans (hq3.mono (al w2 (.cells #[.slice A4 n4 c4, .int .i64 d.now.step, .slice A5 n5 c5, .slice A6 n6 c6] 32)).size))
          have hO3 := hide ((QuaW.made w2 (.slice A4 n4 c4) (.int .i64 d.now.step) (.slice A5 n5 c5) (.slice A6 n6 c6) 32).up hq3)
          have hob3 := hide ((hq3.block w2.heap.size (by simp)).trans (obj_made w2 (.cells #[.slice A4 n4 c4, .int .i64 d.now.step, .slice A5 n5 c5, .slice A6 n6 c6] 32)))
          have hdk3 := hide (hdk2.out.up hq23.out)
          have hA3 := hide (hA2.out.up hq23.out)
          have hC3 := hide (hC2.out.up hq23.out)
          have hb3 := hide (upB hb2.out hq23.out)
          have hMl := hide (TriW.made w3 (.slice A7 n7 c7) (.int .i64 M.step) (.slice A8 n8 c8) 25)
          have hX := hide (al w3 (.cells #[.slice A7 n7 c7, .int .i64 M.step, .slice A8 n8 c8] 25))
          have hA3M := hide (hA3.out.alloc (.cells #[.slice A7 n7 c7, .int .i64 M.step, .slice A8 n8 c8] 25))
          have HPO := hide (fun (W : World) (hq : Below (w3.alloc (.cells #[.slice A7 n7 c7, .int .i64 M.step, .slice A8 n8 c8] 25)).heap.size (w3.alloc (.cells #[.slice A7 n7 c7, .int .i64 M.step, .slice A8 n8 c8] 25)) W) => show Calls Try.prog 9 #[.agg #[.slice A7 n7 c7, .int .i64 M.step, .slice A8 n8 c8]] W (fun e w' => e = .returned (.bool (placeOk M)) ∧ Hid (Below (w3.alloc (.cells #[.slice A7 n7 c7, .int .i64 M.step, .slice A8 n8 c8] 25)).heap.size (w3.alloc (.cells #[.slice A7 n7 c7, .int .i64 M.step, .slice A8 n8 c8] 25)) w') ∧ w'.cell? ⟨w3.heap.size, 0, none⟩ = some (.slice A7 n7 c7) ∧ w'.cell? ⟨w3.heap.size, 1, none⟩ = some (.int .i64 M.step) ∧ w'.cell? ⟨w3.heap.size, 2, none⟩ = some (.slice A8 n8 c8) ∧ w'.cell? ⟨w.heap.size, 0, none⟩ = some (.slice A n c) ∧ w'.cell? ⟨w.heap.size, 1, none⟩ = some (.int .i64 d.now.step) ∧ w'.cell? ⟨w.heap.size, 2, none⟩ = some (.slice A2 n2 c2)) from
            (placeOk_spec _ M _ W (((hpm3.out.plM).up hX.out).up hq) (Nat.le_refl _)).mono fun e w' ⟨e1, hb⟩ => ⟨e1, upB hq hb, ((hMl.out.up (upB hq hb))).c0, ((hMl.out.up (upB hq hb))).c1, ((hMl.out.up (upB hq hb))).c2, ((hA3M.out.up (upB hq hb))).c0, ((hA3M.out.up (upB hq hb))).c1, ((hA3M.out.up (upB hq hb))).c2⟩)
          obtain ⟨y0, y1, y2, _⟩ := hMl.out
          obtain ⟨x0, x1, x2, _⟩ := hA3M.out
          clear hq3 s0 s1 s2 s3 t0 t1 t2 r0 r1 r2 r3 f0 f1 f2 f3 hdk2 hA2 hB2 hC2 HMk
          go_wp2_with fail
          refine wp_region_any (by kernel_rfl) ?_
          try (change wpAny _ _ _ _ _ _ _ (World.drew _))
          refine wpAny_ready (rs := [0]) (by kernel_rfl) (by simp) ?_
          refine AllReady.cons rfl (fun K hK => ?_) AllReady.nil
          go_simp
          refine hK _ _ ?_
          clear hK K
          try simp only [Act.put, List.getElem_toArray, List.getElem_cons_succ, List.getElem_cons_zero, List.setIfInBounds_toArray, List.set_cons_zero, List.set_cons_succ]
          refine wpAny_ready (rs := [1]) (by kernel_rfl) (by simp) ?_
          refine AllReady.cons rfl (fun K hK => ?_) AllReady.nil
          go_simp
          go_wp2_with (go_at_call 9; (with_reducible refine (HPO.out _ ?_).mono ?_); (focus (repeat (first | assumption | exact Below.refl _ _ | refine Below.drew ?_)); done); rintro e w4 ⟨rfl, hq4, z0, z1, z2, z3, z4, z5⟩)
          try simp only [Act.put, List.getElem_toArray, List.getElem_cons_succ, List.getElem_cons_zero, List.setIfInBounds_toArray, List.set_cons_zero, List.set_cons_succ]
          refine wpAny_take (i := 2) (v := ?_) rfl (by kernel_rfl) (by kernel_rfl) (by kernel_rfl) (fun _ _ _ h => h) (Or.inl ⟨by rfl, ?y2⟩) ?_
          case y2 => (intro w; go_simp <;> with_reducible rfl)
          try simp only [Act.put, List.getElem_toArray, List.getElem_cons_succ, List.getElem_cons_zero, List.setIfInBounds_toArray, List.set_cons_zero, List.set_cons_succ]
          refine wpAny_take (i := 3) (v := ?_) rfl (by kernel_rfl) (by kernel_rfl) (by kernel_rfl) (fun _ _ _ h => h) (Or.inl ⟨by rfl, ?y3⟩) ?_
          case y3 => (intro w; go_simp <;> with_reducible rfl)
          try simp only [Act.put, List.getElem_toArray, List.getElem_cons_succ, List.getElem_cons_zero, List.setIfInBounds_toArray, List.set_cons_zero, List.set_cons_succ]
          refine wpAny_take (i := 4) (v := undef) rfl (by kernel_rfl) (by kernel_rfl) (by kernel_rfl) (fun _ _ _ h => h) (Or.inr ⟨by rfl, rfl⟩) ?_
          try simp only [Act.put, List.getElem_toArray, List.getElem_cons_succ, List.getElem_cons_zero, List.setIfInBounds_toArray, List.set_cons_zero, List.set_cons_succ]
          refine wpAny_take (i := 6) (v := undef) rfl (by kernel_rfl) (by kernel_rfl) (by kernel_rfl) (fun _ _ _ h => h) (Or.inr ⟨by rfl, rfl⟩) ?_
          try simp only [Act.put, List.getElem_toArray, List.getElem_cons_succ, List.getElem_cons_zero, List.setIfInBounds_toArray, List.set_cons_zero, List.set_cons_succ]
          refine wpAny_take (i := 7) (v := undef) rfl (by kernel_rfl) (by kernel_rfl) (by kernel_rfl) (fun _ _ _ h => h) (Or.inr ⟨by rfl, rfl⟩) ?_
          try simp only [Act.put, List.getElem_toArray, List.getElem_cons_succ, List.getElem_cons_zero, List.setIfInBounds_toArray, List.set_cons_zero, List.set_cons_succ]
          refine wpAny_ready (rs := [5]) (by kernel_rfl) (by simp) ?_
          refine AllReady.cons rfl (fun K hK => ?_) AllReady.nil
          go_simp
          refine hK _ _ ?_
          clear hK K
          try simp only [Act.put, List.getElem_toArray, List.getElem_cons_succ, List.getElem_cons_zero, List.setIfInBounds_toArray, List.set_cons_zero, List.set_cons_succ]
          refine wpAny_ready (rs := [8]) (by kernel_rfl) (by simp) ?_
          refine AllReady.cons rfl (fun K hK => ?_) AllReady.nil
          go_simp
          refine hK _ _ ?_
          clear hK K
          try simp only [Act.put, List.getElem_toArray, List.getElem_cons_succ, List.getElem_cons_zero, List.setIfInBounds_toArray, List.set_cons_zero, List.set_cons_succ]
          refine wpAny_take (i := 9) (v := undef) rfl (by kernel_rfl) (by kernel_rfl) (by kernel_rfl) (fun _ _ _ h => h) (Or.inr ⟨by rfl, rfl⟩) ?_
          try simp only [Act.put, List.getElem_toArray, List.getElem_cons_succ, List.getElem_cons_zero, List.setIfInBounds_toArray, List.set_cons_zero, List.set_cons_succ]
          refine wpAny_take (i := 10) (v := ?_) rfl (by kernel_rfl) (by kernel_rfl) (by kernel_rfl) (fun _ _ _ h => h) (Or.inl ⟨by rfl, ?y10⟩) ?_
          case y10 => (intro w; go_simp <;> with_reducible rfl)
          try simp only [Act.put, List.getElem_toArray, List.getElem_cons_succ, List.getElem_cons_zero, List.setIfInBounds_toArray, List.set_cons_zero, List.set_cons_succ]
          refine wpAny_done (by kernel_rfl) ?_ _
          have hq34 := hide (upB hX.out hq4.out)
          have hq24 := hide (upB hq23.out hq34.out)
          have hC4 := hide (hC3.out.up hq34.out)
          have hb4 := hide (upB hb3.out hq34.out)
          have hO4 := hide (hO3.out.up hq34.out)
          obtain ⟨a0, a1, a2, a3, g0, g1, g2, g3, _⟩ := hO4.out
          obtain ⟨r0, r1, r2, r3, f0, f1, f2, f3, _⟩ := hC4.out
          clear hq4 hq34 hO4 hO3 hdk3 hA3 hA3M hMl hX HPO
          go_wp2_with fail
          have hRb : w.heap.size + 1 + 1 < w1.heap.size := by have := hl1.out; omega
          have hRl := hide (show w.heap.size ≤ w1.heap.size by omega)
          have hKf := hide (((((KP.refl.up hq24.out).low (a := ⟨w.heap.size + 1 + 1, 0, none⟩) hRb (.slice A4 n4 c4)).low (a := ⟨w.heap.size + 1 + 1, 1, none⟩) hRb (.int .i64 d.now.step)).low (a := ⟨w.heap.size + 1 + 1, 2, none⟩) hRb (.slice A5 n5 c5)).low (a := ⟨w.heap.size + 1 + 1, 3, none⟩) hRb (.slice A6 n6 c6))
          have hBf := hide (((((hb4.out).setCell (p := ⟨w.heap.size + 1 + 1, 0, none⟩) (by simp; omega) (.slice A4 n4 c4)).setCell (p := ⟨w.heap.size + 1 + 1, 1, none⟩) (by simp; omega) (.int .i64 d.now.step)).setCell (p := ⟨w.heap.size + 1 + 1, 2, none⟩) (by simp; omega) (.slice A5 n5 c5)).setCell (p := ⟨w.heap.size + 1 + 1, 3, none⟩) (by simp; omega) (.slice A6 n6 c6))
          have hTf := hide (((((hC4.out).set0 (.slice A4 n4 c4)).set1 (.int .i64 d.now.step)).set2 (.slice A5 n5 c5)).set3 (.slice A6 n6 c6))
          obtain ⟨k0, k1, k2, k3, _⟩ := hTf.out
          exact bodyPost_ret (v := .tuple #[.agg #[.slice A4 n4 c4, .int .i64 d.now.step, .slice A5 n5 c5, .slice A6 n6 c6], .bool false]) (by simp [results, Try.results60, go_sem, k0, k1, k2, k3]) rfl ⟨_, by rw [e1.out], by rw [e2.out]; exact dkS_mk ((hKf.out.pl _ _ hpl2.out.toY).down hRl.out) (.inl ((hKf.out.ps _ _ hps2.out).down hRl.out)), hBf.out⟩
        | true =>
          by_cases hs : placeT M = placeT d.now
          · have e1 := hide (show deskB d ⟨k, a, b⟩ = false by unfold deskB doneB newB; rw [hM.out, hbk, hpm]; simp [hs])
            have e2 := hide (show deskX d ⟨k, a, b⟩ = ⟨d.now, d.past⟩ from (deskX_not hok e1.out))
            have hok := hide hok
            clear hbk
            go_enter Try.func60, Try.ntmps60
            go_wp2_with fail
            refine HO.out.mono ?_
            rintro e w1 ⟨rfl, hq1⟩
            obtain ⟨a0, a1, a2, a3, _⟩ := (HF.out w1 hq1).2.2.2.1
            have HCw := hide (HC.out w1 hq1)
            go_wp2_with fail
            refine HCw.out.mono ?_
            rintro e w2 ⟨A4, n4, c4, A5, n5, c5, A6, n6, c6, rfl, hpl2, hps2, hq2⟩
            obtain ⟨hb2, hlw, hdk2, hA2, hB2, hC2⟩ := HF.out w2 (upB hq1 hq2)
            have hl1 := hide (HF.out w1 hq1).2.1
            have hb2 := hide hb2
            have hdk2 := hide hdk2
            have hA2 := hide hA2
            have hB2 := hide hB2
            have hC2 := hide hC2
            have hpl2 := hide hpl2
            have hps2 := hide hps2
            have hw12 := hide hq2.size
            clear a0 a1 a2 a3 hq1 hq2 HF HC HO HCw
            have s0 := fun o => (hA2.out.alloc o).c0
            have s1 := fun o => (hA2.out.alloc o).c1
            have s2 := fun o => (hA2.out.alloc o).c2
            have s3 := fun o => (hA2.out.alloc o).c3
            have t0 := fun o => (hB2.out.alloc o).c0
            have t1 := fun o => (hB2.out.alloc o).c1
            have t2 := fun o => (hB2.out.alloc o).c2
            have r0 := fun o => (hC2.out.alloc o).c0
            have r1 := fun o => (hC2.out.alloc o).c1
            have r2 := fun o => (hC2.out.alloc o).c2
            have r3 := fun o => (hC2.out.alloc o).c3
            have f0 := fun o => (hC2.out.alloc o).f0
            have f1 := fun o => (hC2.out.alloc o).f1
            have f2 := fun o => (hC2.out.alloc o).f2
            have f3 := fun o => (hC2.out.alloc o).f3
            have HMk := hide (l15Made_c _ d.now ⟨k, a, b⟩ _ (w2.alloc (.cells #[.slice A4 n4 c4, .int .i64 d.now.step, .slice A5 n5 c5, .slice A6 n6 c6] 32)) ((hdk2.out.now).up (al w2 (.cells #[.slice A4 n4 c4, .int .i64 d.now.step, .slice A5 n5 c5, .slice A6 n6 c6] 32))) (Nat.le_refl _) hno.out hwa hwb)
            rw [hM.out] at HMk
            clear h8
            go_wp2_with fail
            refine HMk.out.mono ?_
            rintro e w3 ⟨u, rfl, hpm3, hq3⟩
            obtain ⟨A7, n7, c7, A8, n8, c8, rfl, _⟩ := hpm3.ex
            have hpm3 := hide hpm3
            have hq23 := hide ((al w2 (.cells #[.slice A4 n4 c4, .int .i64 d.now.step, .slice A5 n5 c5, .slice A6 n6 c6] 32)).trans (hq3.mono (al w2 (.cells #[.slice A4 n4 c4, .int .i64 d.now.step, .slice A5 n5 c5, .slice A6 n6 c6] 32)).size))
            have hO3 := hide ((QuaW.made w2 (.slice A4 n4 c4) (.int .i64 d.now.step) (.slice A5 n5 c5) (.slice A6 n6 c6) 32).up hq3)
            have hob3 := hide ((hq3.block w2.heap.size (by simp)).trans (obj_made w2 (.cells #[.slice A4 n4 c4, .int .i64 d.now.step, .slice A5 n5 c5, .slice A6 n6 c6] 32)))
            have hdk3 := hide (hdk2.out.up hq23.out)
            have hA3 := hide (hA2.out.up hq23.out)
            have hC3 := hide (hC2.out.up hq23.out)
            have hb3 := hide (upB hb2.out hq23.out)
            have hMl := hide (TriW.made w3 (.slice A7 n7 c7) (.int .i64 M.step) (.slice A8 n8 c8) 25)
            have hX := hide (al w3 (.cells #[.slice A7 n7 c7, .int .i64 M.step, .slice A8 n8 c8] 25))
            have hA3M := hide (hA3.out.alloc (.cells #[.slice A7 n7 c7, .int .i64 M.step, .slice A8 n8 c8] 25))
            have HPO := hide (fun (W : World) (hq : Below (w3.alloc (.cells #[.slice A7 n7 c7, .int .i64 M.step, .slice A8 n8 c8] 25)).heap.size (w3.alloc (.cells #[.slice A7 n7 c7, .int .i64 M.step, .slice A8 n8 c8] 25)) W) => show Calls Try.prog 9 #[.agg #[.slice A7 n7 c7, .int .i64 M.step, .slice A8 n8 c8]] W (fun e w' => e = .returned (.bool (placeOk M)) ∧ Hid (Below (w3.alloc (.cells #[.slice A7 n7 c7, .int .i64 M.step, .slice A8 n8 c8] 25)).heap.size (w3.alloc (.cells #[.slice A7 n7 c7, .int .i64 M.step, .slice A8 n8 c8] 25)) w') ∧ w'.cell? ⟨w3.heap.size, 0, none⟩ = some (.slice A7 n7 c7) ∧ w'.cell? ⟨w3.heap.size, 1, none⟩ = some (.int .i64 M.step) ∧ w'.cell? ⟨w3.heap.size, 2, none⟩ = some (.slice A8 n8 c8) ∧ w'.cell? ⟨w.heap.size, 0, none⟩ = some (.slice A n c) ∧ w'.cell? ⟨w.heap.size, 1, none⟩ = some (.int .i64 d.now.step) ∧ w'.cell? ⟨w.heap.size, 2, none⟩ = some (.slice A2 n2 c2)) from
              (placeOk_spec _ M _ W (((hpm3.out.plM).up hX.out).up hq) (Nat.le_refl _)).mono fun e w' ⟨e1, hb⟩ => ⟨e1, upB hq hb, ((hMl.out.up (upB hq hb))).c0, ((hMl.out.up (upB hq hb))).c1, ((hMl.out.up (upB hq hb))).c2, ((hA3M.out.up (upB hq hb))).c0, ((hA3M.out.up (upB hq hb))).c1, ((hA3M.out.up (upB hq hb))).c2⟩)
            rw [hpm] at HPO
            have HTM := hide (fun (W : World) (hq : Below (w3.alloc (.cells #[.slice A7 n7 c7, .int .i64 M.step, .slice A8 n8 c8] 25)).heap.size (w3.alloc (.cells #[.slice A7 n7 c7, .int .i64 M.step, .slice A8 n8 c8] 25)) W) => show Calls Try.prog 71 #[.agg #[.slice A7 n7 c7, .int .i64 M.step, .slice A8 n8 c8]] W (fun e w' => e = .returned (.string (strB (placeT M))) ∧ Hid (Below (w3.alloc (.cells #[.slice A7 n7 c7, .int .i64 M.step, .slice A8 n8 c8] 25)).heap.size (w3.alloc (.cells #[.slice A7 n7 c7, .int .i64 M.step, .slice A8 n8 c8] 25)) w') ∧ w'.cell? ⟨w3.heap.size, 0, none⟩ = some (.slice A7 n7 c7) ∧ w'.cell? ⟨w3.heap.size, 1, none⟩ = some (.int .i64 M.step) ∧ w'.cell? ⟨w3.heap.size, 2, none⟩ = some (.slice A8 n8 c8) ∧ w'.cell? ⟨w.heap.size, 0, none⟩ = some (.slice A n c) ∧ w'.cell? ⟨w.heap.size, 1, none⟩ = some (.int .i64 d.now.step) ∧ w'.cell? ⟨w.heap.size, 2, none⟩ = some (.slice A2 n2 c2)) from
              (placeText_spec _ M _ W (((hpm3.out.plM).up hX.out).up hq) (Nat.le_refl _)).mono fun e w' ⟨e1, hb⟩ => ⟨e1, upB hq hb, ((hMl.out.up (upB hq hb))).c0, ((hMl.out.up (upB hq hb))).c1, ((hMl.out.up (upB hq hb))).c2, ((hA3M.out.up (upB hq hb))).c0, ((hA3M.out.up (upB hq hb))).c1, ((hA3M.out.up (upB hq hb))).c2⟩)
            have HTN := hide (fun (W : World) (hq : Below (w3.alloc (.cells #[.slice A7 n7 c7, .int .i64 M.step, .slice A8 n8 c8] 25)).heap.size (w3.alloc (.cells #[.slice A7 n7 c7, .int .i64 M.step, .slice A8 n8 c8] 25)) W) => show Calls Try.prog 71 #[.agg #[.slice A n c, .int .i64 d.now.step, .slice A2 n2 c2]] W (fun e w' => e = .returned (.string (strB (placeT d.now))) ∧ Hid (Below (w3.alloc (.cells #[.slice A7 n7 c7, .int .i64 M.step, .slice A8 n8 c8] 25)).heap.size (w3.alloc (.cells #[.slice A7 n7 c7, .int .i64 M.step, .slice A8 n8 c8] 25)) w') ∧ w'.cell? ⟨w3.heap.size, 0, none⟩ = some (.slice A7 n7 c7) ∧ w'.cell? ⟨w3.heap.size, 1, none⟩ = some (.int .i64 M.step) ∧ w'.cell? ⟨w3.heap.size, 2, none⟩ = some (.slice A8 n8 c8) ∧ w'.cell? ⟨w.heap.size, 0, none⟩ = some (.slice A n c) ∧ w'.cell? ⟨w.heap.size, 1, none⟩ = some (.int .i64 d.now.step) ∧ w'.cell? ⟨w.heap.size, 2, none⟩ = some (.slice A2 n2 c2)) from
              (placeText_spec _ d.now _ W (((hdk3.out.now).up hX.out).up hq) (Nat.le_refl _)).mono fun e w' ⟨e1, hb⟩ => ⟨e1, upB hq hb, ((hMl.out.up (upB hq hb))).c0, ((hMl.out.up (upB hq hb))).c1, ((hMl.out.up (upB hq hb))).c2, ((hA3M.out.up (upB hq hb))).c0, ((hA3M.out.up (upB hq hb))).c1, ((hA3M.out.up (upB hq hb))).c2⟩)
            obtain ⟨y0, y1, y2, _⟩ := hMl.out
            obtain ⟨x0, x1, x2, _⟩ := hA3M.out
            clear hq3 s0 s1 s2 s3 t0 t1 t2 r0 r1 r2 r3 f0 f1 f2 f3 hdk2 hA2 hB2 hC2 HMk
            rw [hs] at HTM
            replace hs := hide hs
            go_wp2_with fail
            go_region_held3 (fun wX => wX.cell? ⟨w3.heap.size, 0, none⟩ = some (.slice A7 n7 c7) ∧ wX.cell? ⟨w3.heap.size, 1, none⟩ = some (.int .i64 M.step) ∧ wX.cell? ⟨w3.heap.size, 2, none⟩ = some (.slice A8 n8 c8) ∧ wX.cell? ⟨w.heap.size, 0, none⟩ = some (.slice A n c) ∧ wX.cell? ⟨w.heap.size, 1, none⟩ = some (.int .i64 d.now.step) ∧ wX.cell? ⟨w.heap.size, 2, none⟩ = some (.slice A2 n2 c2)) (first | exact ⟨y0, y1, y2, x0, x1, x2⟩ | exact ⟨z0, z1, z2, z3, z4, z5⟩ | exact ⟨p0, p1, p2, p3, p4, p5⟩ | exact ⟨q0, q1, q2, q3, q4, q5⟩ | go_keep) (first | (go_at_call 9; (with_reducible refine (HPO.out _ ?_).mono ?_); (focus (repeat (first | assumption | exact Below.refl _ _ | refine Below.drew ?_)); done); rintro e w4 ⟨rfl, hq4, z0, z1, z2, z3, z4, z5⟩) | (go_at_call 71; (with_reducible refine (HTM.out _ ?_).mono ?_); (focus (repeat (first | assumption | exact Below.refl _ _ | refine Below.drew ?_)); done); rintro e w5 ⟨rfl, hq5, p0, p1, p2, p3, p4, p5⟩) | (go_at_call 71; (with_reducible refine (HTN.out _ ?_).mono ?_); (focus (repeat (first | assumption | exact Below.refl _ _ | refine Below.drew ?_)); done); rintro e w6 ⟨rfl, hq6, q0, q1, q2, q3, q4, q5⟩))
            have hq34 := hide (upB hX.out hq6.out)
            have hq24 := hide (upB hq23.out hq34.out)
            have hC4 := hide (hC3.out.up hq34.out)
            have hb4 := hide (upB hb3.out hq34.out)
            have hO4 := hide (hO3.out.up hq34.out)
            obtain ⟨a0, a1, a2, a3, g0, g1, g2, g3, _⟩ := hO4.out
            obtain ⟨r0, r1, r2, r3, f0, f1, f2, f3, _⟩ := hC4.out
            clear hq6 hq34 hO4 hO3 hdk3 hA3 hA3M hMl hX HPO HTM HTN hq4 hq5 y0 y1 y2 x0 x1 x2 z0 z1 z2 z3 z4 z5 p0 p1 p2 p3 p4 p5 q0 q1 q2 q3 q4 q5
            go_wp2_with fail
            have hRb : w.heap.size + 1 + 1 < w1.heap.size := by have := hl1.out; omega
            have hRl := hide (show w.heap.size ≤ w1.heap.size by omega)
            have hKf := hide (((((KP.refl.up hq24.out).low (a := ⟨w.heap.size + 1 + 1, 0, none⟩) hRb (.slice A4 n4 c4)).low (a := ⟨w.heap.size + 1 + 1, 1, none⟩) hRb (.int .i64 d.now.step)).low (a := ⟨w.heap.size + 1 + 1, 2, none⟩) hRb (.slice A5 n5 c5)).low (a := ⟨w.heap.size + 1 + 1, 3, none⟩) hRb (.slice A6 n6 c6))
            have hBf := hide (((((hb4.out).setCell (p := ⟨w.heap.size + 1 + 1, 0, none⟩) (by simp; omega) (.slice A4 n4 c4)).setCell (p := ⟨w.heap.size + 1 + 1, 1, none⟩) (by simp; omega) (.int .i64 d.now.step)).setCell (p := ⟨w.heap.size + 1 + 1, 2, none⟩) (by simp; omega) (.slice A5 n5 c5)).setCell (p := ⟨w.heap.size + 1 + 1, 3, none⟩) (by simp; omega) (.slice A6 n6 c6))
            have hTf := hide (((((hC4.out).set0 (.slice A4 n4 c4)).set1 (.int .i64 d.now.step)).set2 (.slice A5 n5 c5)).set3 (.slice A6 n6 c6))
            obtain ⟨k0, k1, k2, k3, _⟩ := hTf.out
            exact bodyPost_ret (v := .tuple #[.agg #[.slice A4 n4 c4, .int .i64 d.now.step, .slice A5 n5 c5, .slice A6 n6 c6], .bool false]) (by simp [results, Try.results60, go_sem, k0, k1, k2, k3]) rfl ⟨_, by rw [e1.out], by rw [e2.out]; exact dkS_mk ((hKf.out.pl _ _ hpl2.out.toY).down hRl.out) (.inl ((hKf.out.ps _ _ hps2.out).down hRl.out)), hBf.out⟩
          · have e1 := hide (show deskB d ⟨k, a, b⟩ = true by unfold deskB doneB newB; rw [hM.out, hbk, hpm, hok]; simp [hs])
            have e2 := hide (show deskX d ⟨k, a, b⟩ = ⟨M, pushP d.past d.now⟩ by
              unfold deskX deskD newB
              rw [if_pos hok, hbk, hM.out, hpm]
              simp [hs])
            have hok := hide hok
            have hl8 := hide h8
            clear hbk
            go_enter Try.func60, Try.ntmps60
            go_wp2_with fail
            refine HO.out.mono ?_
            rintro e w1 ⟨rfl, hq1⟩
            obtain ⟨a0, a1, a2, a3, _⟩ := (HF.out w1 hq1).2.2.2.1
            have HCw := hide (HC.out w1 hq1)
            go_wp2_with fail
            refine HCw.out.mono ?_
            rintro e w2 ⟨A4, n4, c4, A5, n5, c5, A6, n6, c6, rfl, hpl2, hps2, hq2⟩
            obtain ⟨hb2, hlw, hdk2, hA2, hB2, hC2⟩ := HF.out w2 (upB hq1 hq2)
            have hl1 := hide (HF.out w1 hq1).2.1
            have hb2 := hide hb2
            have hdk2 := hide hdk2
            have hA2 := hide hA2
            have hB2 := hide hB2
            have hC2 := hide hC2
            have hpl2 := hide hpl2
            have hps2 := hide hps2
            have hw12 := hide hq2.size
            clear a0 a1 a2 a3 hq1 hq2 HF HC HO HCw
            have s0 := fun o => (hA2.out.alloc o).c0
            have s1 := fun o => (hA2.out.alloc o).c1
            have s2 := fun o => (hA2.out.alloc o).c2
            have s3 := fun o => (hA2.out.alloc o).c3
            have t0 := fun o => (hB2.out.alloc o).c0
            have t1 := fun o => (hB2.out.alloc o).c1
            have t2 := fun o => (hB2.out.alloc o).c2
            have r0 := fun o => (hC2.out.alloc o).c0
            have r1 := fun o => (hC2.out.alloc o).c1
            have r2 := fun o => (hC2.out.alloc o).c2
            have r3 := fun o => (hC2.out.alloc o).c3
            have f0 := fun o => (hC2.out.alloc o).f0
            have f1 := fun o => (hC2.out.alloc o).f1
            have f2 := fun o => (hC2.out.alloc o).f2
            have f3 := fun o => (hC2.out.alloc o).f3
            have HMk := hide (l15Made_c _ d.now ⟨k, a, b⟩ _ (w2.alloc (.cells #[.slice A4 n4 c4, .int .i64 d.now.step, .slice A5 n5 c5, .slice A6 n6 c6] 32)) ((hdk2.out.now).up (al w2 (.cells #[.slice A4 n4 c4, .int .i64 d.now.step, .slice A5 n5 c5, .slice A6 n6 c6] 32))) (Nat.le_refl _) hno.out hwa hwb)
            rw [hM.out] at HMk
            clear h8
            go_wp2_with fail
            refine HMk.out.mono ?_
            rintro e w3 ⟨u, rfl, hpm3, hq3⟩
            obtain ⟨A7, n7, c7, A8, n8, c8, rfl, _⟩ := hpm3.ex
            have hpm3 := hide hpm3
            have hq23 := hide ((al w2 (.cells #[.slice A4 n4 c4, .int .i64 d.now.step, .slice A5 n5 c5, .slice A6 n6 c6] 32)).trans (hq3.mono (al w2 (.cells #[.slice A4 n4 c4, .int .i64 d.now.step, .slice A5 n5 c5, .slice A6 n6 c6] 32)).size))
            have hO3 := hide ((QuaW.made w2 (.slice A4 n4 c4) (.int .i64 d.now.step) (.slice A5 n5 c5) (.slice A6 n6 c6) 32).up hq3)
            have hob3 := hide ((hq3.block w2.heap.size (by simp)).trans (obj_made w2 (.cells #[.slice A4 n4 c4, .int .i64 d.now.step, .slice A5 n5 c5, .slice A6 n6 c6] 32)))
            have hdk3 := hide (hdk2.out.up hq23.out)
            have hA3 := hide (hA2.out.up hq23.out)
            have hC3 := hide (hC2.out.up hq23.out)
            have hb3 := hide (upB hb2.out hq23.out)
            have hMl := hide (TriW.made w3 (.slice A7 n7 c7) (.int .i64 M.step) (.slice A8 n8 c8) 25)
            have hX := hide (al w3 (.cells #[.slice A7 n7 c7, .int .i64 M.step, .slice A8 n8 c8] 25))
            have hA3M := hide (hA3.out.alloc (.cells #[.slice A7 n7 c7, .int .i64 M.step, .slice A8 n8 c8] 25))
            have HPO := hide (fun (W : World) (hq : Below (w3.alloc (.cells #[.slice A7 n7 c7, .int .i64 M.step, .slice A8 n8 c8] 25)).heap.size (w3.alloc (.cells #[.slice A7 n7 c7, .int .i64 M.step, .slice A8 n8 c8] 25)) W) => show Calls Try.prog 9 #[.agg #[.slice A7 n7 c7, .int .i64 M.step, .slice A8 n8 c8]] W (fun e w' => e = .returned (.bool (placeOk M)) ∧ Hid (Below (w3.alloc (.cells #[.slice A7 n7 c7, .int .i64 M.step, .slice A8 n8 c8] 25)).heap.size (w3.alloc (.cells #[.slice A7 n7 c7, .int .i64 M.step, .slice A8 n8 c8] 25)) w') ∧ w'.cell? ⟨w3.heap.size, 0, none⟩ = some (.slice A7 n7 c7) ∧ w'.cell? ⟨w3.heap.size, 1, none⟩ = some (.int .i64 M.step) ∧ w'.cell? ⟨w3.heap.size, 2, none⟩ = some (.slice A8 n8 c8) ∧ w'.cell? ⟨w.heap.size, 0, none⟩ = some (.slice A n c) ∧ w'.cell? ⟨w.heap.size, 1, none⟩ = some (.int .i64 d.now.step) ∧ w'.cell? ⟨w.heap.size, 2, none⟩ = some (.slice A2 n2 c2)) from
              (placeOk_spec _ M _ W (((hpm3.out.plM).up hX.out).up hq) (Nat.le_refl _)).mono fun e w' ⟨e1, hb⟩ => ⟨e1, upB hq hb, ((hMl.out.up (upB hq hb))).c0, ((hMl.out.up (upB hq hb))).c1, ((hMl.out.up (upB hq hb))).c2, ((hA3M.out.up (upB hq hb))).c0, ((hA3M.out.up (upB hq hb))).c1, ((hA3M.out.up (upB hq hb))).c2⟩)
            rw [hpm] at HPO
            have HTM := hide (fun (W : World) (hq : Below (w3.alloc (.cells #[.slice A7 n7 c7, .int .i64 M.step, .slice A8 n8 c8] 25)).heap.size (w3.alloc (.cells #[.slice A7 n7 c7, .int .i64 M.step, .slice A8 n8 c8] 25)) W) => show Calls Try.prog 71 #[.agg #[.slice A7 n7 c7, .int .i64 M.step, .slice A8 n8 c8]] W (fun e w' => e = .returned (.string (strB (placeT M))) ∧ Hid (Below (w3.alloc (.cells #[.slice A7 n7 c7, .int .i64 M.step, .slice A8 n8 c8] 25)).heap.size (w3.alloc (.cells #[.slice A7 n7 c7, .int .i64 M.step, .slice A8 n8 c8] 25)) w') ∧ w'.cell? ⟨w3.heap.size, 0, none⟩ = some (.slice A7 n7 c7) ∧ w'.cell? ⟨w3.heap.size, 1, none⟩ = some (.int .i64 M.step) ∧ w'.cell? ⟨w3.heap.size, 2, none⟩ = some (.slice A8 n8 c8) ∧ w'.cell? ⟨w.heap.size, 0, none⟩ = some (.slice A n c) ∧ w'.cell? ⟨w.heap.size, 1, none⟩ = some (.int .i64 d.now.step) ∧ w'.cell? ⟨w.heap.size, 2, none⟩ = some (.slice A2 n2 c2)) from
              (placeText_spec _ M _ W (((hpm3.out.plM).up hX.out).up hq) (Nat.le_refl _)).mono fun e w' ⟨e1, hb⟩ => ⟨e1, upB hq hb, ((hMl.out.up (upB hq hb))).c0, ((hMl.out.up (upB hq hb))).c1, ((hMl.out.up (upB hq hb))).c2, ((hA3M.out.up (upB hq hb))).c0, ((hA3M.out.up (upB hq hb))).c1, ((hA3M.out.up (upB hq hb))).c2⟩)
            have HTN := hide (fun (W : World) (hq : Below (w3.alloc (.cells #[.slice A7 n7 c7, .int .i64 M.step, .slice A8 n8 c8] 25)).heap.size (w3.alloc (.cells #[.slice A7 n7 c7, .int .i64 M.step, .slice A8 n8 c8] 25)) W) => show Calls Try.prog 71 #[.agg #[.slice A n c, .int .i64 d.now.step, .slice A2 n2 c2]] W (fun e w' => e = .returned (.string (strB (placeT d.now))) ∧ Hid (Below (w3.alloc (.cells #[.slice A7 n7 c7, .int .i64 M.step, .slice A8 n8 c8] 25)).heap.size (w3.alloc (.cells #[.slice A7 n7 c7, .int .i64 M.step, .slice A8 n8 c8] 25)) w') ∧ w'.cell? ⟨w3.heap.size, 0, none⟩ = some (.slice A7 n7 c7) ∧ w'.cell? ⟨w3.heap.size, 1, none⟩ = some (.int .i64 M.step) ∧ w'.cell? ⟨w3.heap.size, 2, none⟩ = some (.slice A8 n8 c8) ∧ w'.cell? ⟨w.heap.size, 0, none⟩ = some (.slice A n c) ∧ w'.cell? ⟨w.heap.size, 1, none⟩ = some (.int .i64 d.now.step) ∧ w'.cell? ⟨w.heap.size, 2, none⟩ = some (.slice A2 n2 c2)) from
              (placeText_spec _ d.now _ W (((hdk3.out.now).up hX.out).up hq) (Nat.le_refl _)).mono fun e w' ⟨e1, hb⟩ => ⟨e1, upB hq hb, ((hMl.out.up (upB hq hb))).c0, ((hMl.out.up (upB hq hb))).c1, ((hMl.out.up (upB hq hb))).c2, ((hA3M.out.up (upB hq hb))).c0, ((hA3M.out.up (upB hq hb))).c1, ((hA3M.out.up (upB hq hb))).c2⟩)
            obtain ⟨y0, y1, y2, _⟩ := hMl.out
            obtain ⟨x0, x1, x2, _⟩ := hA3M.out
            clear hq3 s0 s1 s2 s3 t0 t1 t2 r0 r1 r2 r3 f0 f1 f2 f3 hdk2 hA2 hB2 hC2 HMk
            obtain ⟨S1, hS1⟩ : ∃ S, Hid (strB (placeT M) = S) := ⟨_, hide rfl⟩
            obtain ⟨S2, hS2⟩ : ∃ S, Hid (strB (placeT d.now) = S) := ⟨_, hide rfl⟩
            have hse : (S1.toList == S2.toList) = false := by
              rw [← hS1.out, ← hS2.out, ByteArray.toList_eq, ByteArray.toList_eq]
              exact beq_eq_false_iff_ne.2 fun e => hs (strB_inj (bts_inj e))
            rw [hS1.out] at HTM
            rw [hS2.out] at HTN
            replace hs := hide hs
            go_wp2_with fail
            go_region_held3 (fun wX => wX.cell? ⟨w3.heap.size, 0, none⟩ = some (.slice A7 n7 c7) ∧ wX.cell? ⟨w3.heap.size, 1, none⟩ = some (.int .i64 M.step) ∧ wX.cell? ⟨w3.heap.size, 2, none⟩ = some (.slice A8 n8 c8) ∧ wX.cell? ⟨w.heap.size, 0, none⟩ = some (.slice A n c) ∧ wX.cell? ⟨w.heap.size, 1, none⟩ = some (.int .i64 d.now.step) ∧ wX.cell? ⟨w.heap.size, 2, none⟩ = some (.slice A2 n2 c2)) (first | exact ⟨y0, y1, y2, x0, x1, x2⟩ | exact ⟨z0, z1, z2, z3, z4, z5⟩ | exact ⟨p0, p1, p2, p3, p4, p5⟩ | exact ⟨q0, q1, q2, q3, q4, q5⟩ | go_keep) (first | (go_at_call 9; (with_reducible refine (HPO.out _ ?_).mono ?_); (focus (repeat (first | assumption | exact Below.refl _ _ | refine Below.drew ?_)); done); rintro e w4 ⟨rfl, hq4, z0, z1, z2, z3, z4, z5⟩) | (go_at_call 71; (with_reducible refine (HTM.out _ ?_).mono ?_); (focus (repeat (first | assumption | exact Below.refl _ _ | refine Below.drew ?_)); done); rintro e w5 ⟨rfl, hq5, p0, p1, p2, p3, p4, p5⟩) | (go_at_call 71; (with_reducible refine (HTN.out _ ?_).mono ?_); (focus (repeat (first | assumption | exact Below.refl _ _ | refine Below.drew ?_)); done); rintro e w6 ⟨rfl, hq6, q0, q1, q2, q3, q4, q5⟩))
            have hq34 := hide (upB hX.out hq6.out)
            have hq24 := hide (upB hq23.out hq34.out)
            have hC4 := hide (hC3.out.up hq34.out)
            have hb4 := hide (upB hb3.out hq34.out)
            have hO4 := hide (hO3.out.up hq34.out)
            have hM4 := hide (hMl.out.up hq6.out)
            have hPM4 := hide (hpm3.out.up hq34.out)
            have hPN4 := hide (hpl2.out.up hq24.out)
            have hlo := hO3.out.lt
            have hob4 := hide ((hq34.out.block _ hlo).trans hob3.out)
            have hlt := hide (show ∀ q, (Value.slice A6 n6 c6).ownBlock = some q → w1.heap.size ≤ q ∧ q < w2.heap.size from fun q hq => by
              obtain ⟨xs, hx⟩ := hps2.out.row.2
              exact hx.lt q hq)
            have hn6 := hide hps2.out.row.1
            obtain ⟨us, hus, hrow0, hall⟩ := (hps2.out.up hq24.out).ex
            have hrow := hide (show w6.ownsRow w1.heap.size 25 3 (.slice A6 n6 c6) n6 (cellsP us) by rw [← hn6.out] at hrow0; exact hrow0)
            have hus := hide hus
            have hall := hide hall
            have hn68 : n6 ≤ 8 := by have := hn6.out; have := hl8.out; omega
            have hw12p : w1.heap.size ≤ w2.heap.size := hw12.out
            have hw36 : w3.heap.size ≤ w6.heap.size := hq34.out.size
            have hRl : w.heap.size + 1 + 1 < w1.heap.size := by have := hl1.out; omega
            obtain ⟨a0, a1, a2, a3, g0, g1, g2, g3, _⟩ := hO4.out
            clear hrow0 hq6 hq34 hO3 hdk3 hA3 hA3M hMl hX HPO HTM HTN hq4 hq5 y0 y1 y2 x0 x1 x2 z0 z1 z2 z3 z4 z5 p0 p1 p2 p3 p4 p5 q0 q1 q2 q3 q4 q5
            go_upto_region 12 with fail
            go_cut [] (fun wx => ∃ A9 c9, QuaW wx w2.heap.size (.slice A4 n4 c4) (.int .i64 d.now.step) (.slice A5 n5 c5) (.slice A9 (n6 + 1) c9) ∧ QuaW wx (w.heap.size + 1 + 1) (.slice none 0 0) (.int .i64 0) (.slice none 0 0) (.slice none 0 0) ∧ TriW wx w3.heap.size (.slice A7 n7 c7) (.int .i64 M.step) (.slice A8 n8 c8) ∧ PlY wx w1.heap.size (.agg #[.slice A7 n7 c7, .int .i64 M.step, .slice A8 n8 c8]) M ∧ PsZ wx w1.heap.size (.slice A9 (n6 + 1) c9) (d.past ++ [d.now]) ∧ Below w.heap.size w wx ∧ KD w1.heap.size w2.heap.size wx wx)
            case first =>
              go_wp2_with (at_builtin; refine wpList_push _ rfl _ _ 30 rfl w1.heap.size 25 i0 (.agg #[.slice none 0 0, .int .i64 0, .slice none 0 0]) 3 56 Try.underlying30 hi hz0 hz1 hz2 rfl (by decide) (by decide) _ n6 _ rfl (hrow.out.alloc _) _ 1 [.slice A4 n4 c4, .int .i64 d.now.step, .slice A5 n5 c5] rfl rfl (lit_cellsAt _ _ _ _ (by simp)) (by intro u hu; simp at hu; rcases hu with rfl | rfl | rfl <;> rfl) (by omega) (by simp; omega) ?_; go_loud (intro A9 c9 w7 hr7 hg7; have hO7 := hide (QuaW.grown (hO4.out.alloc _) hg7 (fun q hq => by have := (hlt.out q hq).2; omega)); have hC7 := hide (QuaW.grown (hC4.out.alloc _) hg7 (fun q hq => by have := (hlt.out q hq).1; omega)); have hM7 := hide (TriW.grown (hM4.out.alloc _) hg7 (fun q hq => by have := (hlt.out q hq).2; omega)); have hPM7 := hide (PlY.kept (hPM4.out.up (al w6 _)) (hrow.out.alloc _) hg7); have hP7 := hide (PsZ.pushM hn6.out hus.out (hrow.out.alloc _) (fun j u q hu hq => (hall.out j u q hu hq).alloc _) (hPN4.out.alloc _) hr7 hg7); have hb7 := hide ((hb4.out.alloc (by have := hb4.out.size; omega) _).grown hg7 (by simp; omega) (fun q hq => by have := (hlt.out q hq).1; omega)); have hob7 := hide (((hg7.block w2.heap.size (by simp; omega) (fun e => by have := (hlt.out _ e.symm).2; omega)).trans (Below.heap_alloc _ _ _ (by omega))).trans hob4.out); obtain ⟨b0, b1, b2, b3, j0, j1, j2, j3, _⟩ := hO7.out; clear hr7 hg7 a0 a1 a2 a3 g0 g1 g2 g3))
              go_meet
              exact ⟨A9, c9, hO7.out.set3 _, hC7.out.other (a := ⟨w2.heap.size, 3, none⟩) (show w2.heap.size ≠ w.heap.size + 1 + 1 by omega) _, hM7.out.other (a := ⟨w2.heap.size, 3, none⟩) (show w2.heap.size ≠ w3.heap.size by omega) _, (hPM7.out.down (by simp; omega)).setDesk (a := ⟨w2.heap.size, 3, none⟩) hob7.out _, hP7.out.setDesk (a := ⟨w2.heap.size, 3, none⟩) hob7.out _, hb7.out.setCell (p := ⟨w2.heap.size, 3, none⟩) (show w.heap.size ≤ w2.heap.size by omega) _, ⟨KP.refl, desk_stays (a := ⟨w2.heap.size, 3, none⟩) hob7.out _⟩⟩
            case rest =>
              obtain ⟨A9, c9, hO8, hC8, hM8, hPM8, hP8, hb8, hK8⟩ := hcut
              have hne23 : w2.heap.size ≠ w3.heap.size := by omega
              have hne2R : w2.heap.size ≠ w.heap.size + 1 + 1 := by omega
              clear hO4 hC4 hM4 hPM4 hPN4 hob4 hlt hrow hus hall hb4 a0 a1 a2 a3 g0 g1 g2 g3
              by_cases hn8 : n6 = 8
              · have hn8b : 8 < n6 + 1 := by omega
                have e3 := hide (show pushP d.past d.now = (d.past ++ [d.now]).drop 1 by
                  unfold pushP
                  rw [if_pos (by have := hn6.out; simp; omega)])
                obtain ⟨gp, _, _, _, _, _, _, rfl, _, _, hc9, _⟩ := hP8.atZ (j := 0) (List.getElem?_eq_getElem (by simp))
                have hn8 := hide hn8
                clear hn68
                have hP8 := hide hP8
                have hPM8 := hide hPM8
                have hM9 := hide ((hM8).other (a := ⟨w2.heap.size, 3, none⟩) hne23 (.slice (some ⟨gp, 3, none⟩) 8 (c9 - 1)))
                have hC9 := hide (((((hC8).other (a := ⟨w2.heap.size, 3, none⟩) hne2R (.slice (some ⟨gp, 3, none⟩) 8 (c9 - 1))).other (a := ⟨w2.heap.size, 0, none⟩) hne2R (.slice A7 n7 c7)).other (a := ⟨w2.heap.size, 1, none⟩) hne2R (.int .i64 M.step)).other (a := ⟨w2.heap.size, 2, none⟩) hne2R (.slice A8 n8 c8))
                have hK9 := hide (((((hK8).set 3 (.slice (some ⟨gp, 3, none⟩) 8 (c9 - 1))).set 0 (.slice A7 n7 c7)).set 1 (.int .i64 M.step)).set 2 (.slice A8 n8 c8))
                have hb9 := hide (((((hb8).setCell (p := ⟨w2.heap.size, 3, none⟩) (show w.heap.size ≤ w2.heap.size by omega) (.slice (some ⟨gp, 3, none⟩) 8 (c9 - 1))).setCell (p := ⟨w2.heap.size, 0, none⟩) (show w.heap.size ≤ w2.heap.size by omega) (.slice A7 n7 c7)).setCell (p := ⟨w2.heap.size, 1, none⟩) (show w.heap.size ≤ w2.heap.size by omega) (.int .i64 M.step)).setCell (p := ⟨w2.heap.size, 2, none⟩) (show w.heap.size ≤ w2.heap.size by omega) (.slice A8 n8 c8))
                obtain ⟨m0, m1, m2, _⟩ := hM9.out
                obtain ⟨r0, r1, r2, r3, f0, f1, f2, f3, _⟩ := hC9.out
                obtain ⟨b0, b1, b2, b3, j0, j1, j2, j3, _⟩ := hO8
                clear hM8 hC8 hK8 hb8 hM9
                go_wp2_with fail
                have hRb : w.heap.size + 1 + 1 < w1.heap.size := by have := hl1.out; omega
                have hRl := hide (show w.heap.size ≤ w1.heap.size by omega)
                have hKf := hide (((((hK9.out.kp).low (a := ⟨w.heap.size + 1 + 1, 0, none⟩) hRb (.slice A7 n7 c7)).low (a := ⟨w.heap.size + 1 + 1, 1, none⟩) hRb (.int .i64 M.step)).low (a := ⟨w.heap.size + 1 + 1, 2, none⟩) hRb (.slice A8 n8 c8)).low (a := ⟨w.heap.size + 1 + 1, 3, none⟩) hRb (.slice (some ⟨gp, 3, none⟩) 8 (c9 - 1)))
                have hBf := hide (((((hb9.out).setCell (p := ⟨w.heap.size + 1 + 1, 0, none⟩) (by simp; omega) (.slice A7 n7 c7)).setCell (p := ⟨w.heap.size + 1 + 1, 1, none⟩) (by simp; omega) (.int .i64 M.step)).setCell (p := ⟨w.heap.size + 1 + 1, 2, none⟩) (by simp; omega) (.slice A8 n8 c8)).setCell (p := ⟨w.heap.size + 1 + 1, 3, none⟩) (by simp; omega) (.slice (some ⟨gp, 3, none⟩) 8 (c9 - 1)))
                have hTf := hide (((((hC9.out).set0 (.slice A7 n7 c7)).set1 (.int .i64 M.step)).set2 (.slice A8 n8 c8)).set3 (.slice (some ⟨gp, 3, none⟩) 8 (c9 - 1)))
                obtain ⟨k0, k1, k2, k3, _⟩ := hTf.out
                exact bodyPost_ret (v := .tuple #[.agg #[.slice A7 n7 c7, .int .i64 M.step, .slice A8 n8 c8, .slice (some ⟨gp, 3, none⟩) 8 (c9 - 1)], .bool true]) (by simp [results, Try.results60, go_sem, k0, k1, k2, k3]) rfl ⟨_, by rw [e1.out], by rw [e2.out, e3.out]; exact dkS_mk ((hKf.out.pl _ _ hPM8.out).down hRl.out) (.inr ⟨_, _, _, _, (hKf.out.ps _ _ hP8.out).down hRl.out, by omega, by have hz := hn8.out; first | rfl | (rw [show n6 + 1 - 1 = 8 by omega]), rfl, by have h1 := (hKf.out.ps _ _ hP8.out).psM.len; rw [List.length_drop]; omega⟩), hBf.out⟩
              · have hn8 : n6 < 8 := by omega
                have e3 := hide (show pushP d.past d.now = d.past ++ [d.now] by
                  unfold pushP
                  rw [if_neg (by have := hn6.out; simp; omega)])
                have hP8 := hide hP8
                have hPM8 := hide hPM8
                have hM9 := hide (hM8)
                have hC9 := hide ((((hC8).other (a := ⟨w2.heap.size, 0, none⟩) hne2R (.slice A7 n7 c7)).other (a := ⟨w2.heap.size, 1, none⟩) hne2R (.int .i64 M.step)).other (a := ⟨w2.heap.size, 2, none⟩) hne2R (.slice A8 n8 c8))
                have hK9 := hide ((((hK8).set 0 (.slice A7 n7 c7)).set 1 (.int .i64 M.step)).set 2 (.slice A8 n8 c8))
                have hb9 := hide ((((hb8).setCell (p := ⟨w2.heap.size, 0, none⟩) (show w.heap.size ≤ w2.heap.size by omega) (.slice A7 n7 c7)).setCell (p := ⟨w2.heap.size, 1, none⟩) (show w.heap.size ≤ w2.heap.size by omega) (.int .i64 M.step)).setCell (p := ⟨w2.heap.size, 2, none⟩) (show w.heap.size ≤ w2.heap.size by omega) (.slice A8 n8 c8))
                obtain ⟨m0, m1, m2, _⟩ := hM9.out
                obtain ⟨r0, r1, r2, r3, f0, f1, f2, f3, _⟩ := hC9.out
                obtain ⟨b0, b1, b2, b3, j0, j1, j2, j3, _⟩ := hO8
                clear hM8 hC8 hK8 hb8 hM9
                go_wp2_with fail
                have hRb : w.heap.size + 1 + 1 < w1.heap.size := by have := hl1.out; omega
                have hRl := hide (show w.heap.size ≤ w1.heap.size by omega)
                have hKf := hide (((((hK9.out.kp).low (a := ⟨w.heap.size + 1 + 1, 0, none⟩) hRb (.slice A7 n7 c7)).low (a := ⟨w.heap.size + 1 + 1, 1, none⟩) hRb (.int .i64 M.step)).low (a := ⟨w.heap.size + 1 + 1, 2, none⟩) hRb (.slice A8 n8 c8)).low (a := ⟨w.heap.size + 1 + 1, 3, none⟩) hRb (.slice A9 (n6 + 1) c9))
                have hBf := hide (((((hb9.out).setCell (p := ⟨w.heap.size + 1 + 1, 0, none⟩) (by simp; omega) (.slice A7 n7 c7)).setCell (p := ⟨w.heap.size + 1 + 1, 1, none⟩) (by simp; omega) (.int .i64 M.step)).setCell (p := ⟨w.heap.size + 1 + 1, 2, none⟩) (by simp; omega) (.slice A8 n8 c8)).setCell (p := ⟨w.heap.size + 1 + 1, 3, none⟩) (by simp; omega) (.slice A9 (n6 + 1) c9))
                have hTf := hide (((((hC9.out).set0 (.slice A7 n7 c7)).set1 (.int .i64 M.step)).set2 (.slice A8 n8 c8)).set3 (.slice A9 (n6 + 1) c9))
                obtain ⟨k0, k1, k2, k3, _⟩ := hTf.out
                exact bodyPost_ret (v := .tuple #[.agg #[.slice A7 n7 c7, .int .i64 M.step, .slice A8 n8 c8, .slice A9 (n6 + 1) c9], .bool true]) (by simp [results, Try.results60, go_sem, k0, k1, k2, k3]) rfl ⟨_, by rw [e1.out], by rw [e2.out, e3.out]; exact dkS_mk ((hKf.out.pl _ _ hPM8.out).down hRl.out) (.inl ((hKf.out.ps _ _ hP8.out).down hRl.out)), hBf.out⟩
end Go.Proofs.Ytpnjihpdipoajaa
