/-
  Words, plain lemmas and contracts that belong together, joined into one file.
-/
import Derived.Test.YtoafpokcbbncfaaDoorZcs
import Derived.Test.YtoafpokcbbncfaaDoorZpd
import Derived.Test.YtoafpokcbbncfaaDoorZoks
namespace Go.Proofs.YtoafpokcbbncfaaDoor
open Go.RowKit
set_option linter.unusedVariables false

/-- What l15Made hands back. -/
structure PlY (w : World) (base : Nat) (v : Value) (p : Plc) : Prop where
  ex : ∃ A n c A' n' c', v = .agg #[.slice A n c, .int .i64 p.step, .slice A' n' c'] ∧ Own w base (.slice A n c) p.start ∧ OwnZ w base (.slice A' n' c') p.word ∧ (Lit.int .i64 p.step).wf = true
theorem PlY.up {w w' : World} {base : Nat} {v : Value} {p : Plc} (h : PlY w base v p) (hq : Below w.heap.size w w') : PlY w' base v p := by
  obtain ⟨A, n, c, A', n', c', e, h1, h2, h3⟩ := h.ex
  exact ⟨A, n, c, A', n', c', e, h1.up hq, h2.up hq, h3⟩
theorem PlY.down {w : World} {base base' : Nat} {v : Value} {p : Plc} (h : PlY w base v p) (hb : base' ≤ base) : PlY w base' v p := by
  obtain ⟨A, n, c, A', n', c', e, h1, h2, h3⟩ := h.ex
  exact ⟨A, n, c, A', n', c', e, h1.down hb, h2.down hb, h3⟩
theorem PlY.setLow {w : World} {base : Nat} {v : Value} {p : Plc} (h : PlY w base v p) {a : Addr} (ha : a.block < base) (u : Value) : PlY (w.setCell a u) base v p := by
  obtain ⟨A, n, c, A', n', c', e, h1, h2, h3⟩ := h.ex
  exact ⟨A, n, c, A', n', c', e, h1.setLow ha u, h2.setLow ha u, h3⟩
theorem PlY.kept {w w' : World} {base b m : Nat} {v r : Value} {p : Plc} {xs : List Value} (h : PlY w base v p) (hr : w.ownsRow b 31 3 r m xs) (hg : w.grownBy w' r.ownBlock) : PlY w' base v p := by
  obtain ⟨A, n, c, A', n', c', e, h1, h2, h3⟩ := h.ex
  exact ⟨A, n, c, A', n', c', e, h1.kept hg (own_neP hr h1), h2.kept hg (fun l hl => own_neP hr hl), h3⟩
theorem PlZ.toY {w : World} {base : Nat} {v : Value} {p : Plc} (h : PlZ w base v p) : PlY w base v p := by
  obtain ⟨A, n, c, A', n', c', e, h1, h2, _, h4⟩ := h.ex
  exact ⟨A, n, c, A', n', c', e, h1, h2, h4⟩
theorem own_setAt {w : World} {base : Nat} {v : Value} {zs : List Int} (h : Own w base v zs) {a : Addr} (hne : v.ownBlock ≠ some a.block) (u : Value) : Own (w.setCell a u) base v zs :=
  h.kept (row := some a.block) ⟨rfl, rfl, rfl, by simp, fun k _ hk => Below.heap_setCell _ _ _ k (fun e => hk (by rw [e]))⟩ (.inr hne)
theorem own_nePlace {w : World} {base g : Nat} {v : Value} {zs : List Int} {xs : Array Value} (h : Own w base v zs) (hb : w.heap[g]? = some (.cells xs 31 (0, 0))) : v.ownBlock ≠ some g := by
  intro e
  rcases h.row.2 with ⟨rfl, _⟩ | ⟨g', cap, cur, rfl, _, hg, _⟩
  · cases e
  · simp only [Value.ownBlock, Option.some.injEq] at e
    subst e
    rw [hb] at hg
    injection hg with hg
    injection hg with _ h2
    exact absurd h2 (by decide)
theorem plZ_stored {X : World} {base base' g : Nat} {v : Value} {p : Plc} (h : PlY X base v p) (hg : g < base) (hb : base' ≤ base) (x y z : Value) : PlY (((X.setCell ⟨g, 0, none⟩ x).setCell ⟨g, 1, none⟩ y).setCell ⟨g, 2, none⟩ z) base' v p :=
  (((h.setLow (a := ⟨g, 0, none⟩) hg x).setLow (a := ⟨g, 1, none⟩) hg y).setLow (a := ⟨g, 2, none⟩) hg z).down hb
theorem plZ_zero {w : World} {base : Nat} : PlY w base (.agg #[.slice none 0 0, .int .i64 0, .slice none 0 0]) noPlc :=
  ⟨_, _, _, _, _, _, rfl, Own.none_, .inl Own.none_, by decide⟩

set_option maxRecDepth 100000 in
set_option maxHeartbeats 6400000 in
theorem l15Made_c (v : Value) (p : Plc) (d : Ded) (B : Nat) (w : World) (h : PlM w B v p) (hB : B ≤ w.heap.size) (hok : placeOk p = true) (hwa : (Lit.int .i64 d.a).wf = true) (hwb : (Lit.int .i64 d.b).wf = true) :
    Calls Tryd.prog 40 #[v, .agg #[.int .i64 d.k, .int .i64 d.a, .int .i64 d.b]] w fun e w' => ∃ u, e = .returned u ∧ PlY w' w.heap.size u (madeP p d) ∧ Below w.heap.size w w' := by
  obtain ⟨k, a, b⟩ := d
  show Calls Tryd.prog 40 #[v, .agg #[.int .i64 k, .int .i64 a, .int .i64 b]] w _
  obtain ⟨i0, hi, hz0, hz1, hz2⟩ := info_parts infoInt
  obtain ⟨A, n, c, A2, n2, c2, rfl, h1, h2, hwf⟩ := h.ex
  obtain ⟨⟨p1, p3⟩, _, _, p6, _⟩ := placeOk_yes hok
  have hn2 := h2.len
  obtain ⟨W0, hW0⟩ : ∃ W, Hid ((((w.alloc (.cells #[.slice A n c, .int .i64 p.step, .slice A2 n2 c2] 31)).alloc (.cells #[.int .i64 k, .int .i64 a, .int .i64 b] 38)).alloc (.cells #[.slice none 0 0, .int .i64 0, .slice none 0 0] 31)) = W) := ⟨_, hide rfl⟩
  have hz := hide (show W0.heap.size = w.heap.size + 3 by rw [← hW0.out]; simp)
  have hq0 := hide (show Below w.heap.size w W0 by rw [← hW0.out]; exact ((al w _).alloc (by simp) _).alloc (by simp; omega) _)
  have hta := hide (show TriW W0 w.heap.size (.slice A n c) (.int .i64 p.step) (.slice A2 n2 c2) by rw [← hW0.out]; exact ((TriW.made w _ _ _ _).alloc _).alloc _)
  have htb := hide (show TriW W0 (w.heap.size + 1) (.int .i64 k) (.int .i64 a) (.int .i64 b) by
    have := (TriW.made (w.alloc (.cells #[.slice A n c, .int .i64 p.step, .slice A2 n2 c2] 31)) (.int .i64 k) (.int .i64 a) (.int .i64 b) 38).alloc (.cells #[.slice none 0 0, .int .i64 0, .slice none 0 0] 31)
    rw [← hW0.out]
    simpa using this)
  have htc := hide (show TriW W0 (w.heap.size + 1 + 1) (.slice none 0 0) (.int .i64 0) (.slice none 0 0) by
    have := TriW.made ((w.alloc (.cells #[.slice A n c, .int .i64 p.step, .slice A2 n2 c2] 31)).alloc (.cells #[.int .i64 k, .int .i64 a, .int .i64 b] 38)) (.slice none 0 0) (.int .i64 0) (.slice none 0 0) 31
    rw [← hW0.out]
    simpa using this)
  have hmx := hide (plM_mk (p := p) ((h1.more hB).up hq0.out) ((h2.more hB).up hq0.out) hwf)
  have HP := hide (l15Place_c _ p _ W0 hmx.out (Nat.le_refl _) p1 (by omega) (by omega))
  have HF := hide (fun (w1 : World) (hq : Below W0.heap.size W0 w1) => show Below w.heap.size w w1 ∧ w.heap.size + 3 ≤ w1.heap.size ∧ ((∀ o, (w1.alloc o).cell? ⟨w.heap.size, 0, none⟩ = some (.slice A n c)) ∧ (∀ o, (w1.alloc o).cell? ⟨w.heap.size, 1, none⟩ = some (.int .i64 p.step)) ∧ (∀ o, (w1.alloc o).cell? ⟨w.heap.size, 2, none⟩ = some (.slice A2 n2 c2)) ∧ (∀ o, (w1.alloc o).cell? ⟨w.heap.size + 1, 0, none⟩ = some (.int .i64 k)) ∧ (∀ o, (w1.alloc o).cell? ⟨w.heap.size + 1, 1, none⟩ = some (.int .i64 a)) ∧ (∀ o, (w1.alloc o).cell? ⟨w.heap.size + 1, 2, none⟩ = some (.int .i64 b))) ∧ ((∀ o, (w1.alloc o).cell? ⟨w.heap.size + 2, 0, none⟩ = some (.slice none 0 0)) ∧ (∀ o, (w1.alloc o).cell? ⟨w.heap.size + 2, 1, none⟩ = some (.int .i64 0)) ∧ (∀ o, (w1.alloc o).cell? ⟨w.heap.size + 2, 2, none⟩ = some (.slice none 0 0)) ∧ (∀ o, (w1.alloc o).frozen? ⟨w.heap.size + 2, 0, none⟩ = false) ∧ (∀ o, (w1.alloc o).frozen? ⟨w.heap.size + 2, 1, none⟩ = false) ∧ (∀ o, (w1.alloc o).frozen? ⟨w.heap.size + 2, 2, none⟩ = false)) from
    ⟨upB hq0.out hq, by have := hq.size; have := hz.out; omega, ⟨fun o => ((hta.out.up hq).alloc o).c0, fun o => ((hta.out.up hq).alloc o).c1, fun o => ((hta.out.up hq).alloc o).c2, fun o => ((htb.out.up hq).alloc o).c0, fun o => ((htb.out.up hq).alloc o).c1, fun o => ((htb.out.up hq).alloc o).c2⟩, ⟨fun o => ((htc.out.up hq).alloc o).c0, fun o => ((htc.out.up hq).alloc o).c1, fun o => ((htc.out.up hq).alloc o).c2, fun o => ((htc.out.up hq).alloc o).f0, fun o => ((htc.out.up hq).alloc o).f1, fun o => ((htc.out.up hq).alloc o).f2⟩⟩)
  have HT := hide (fun (w1 : World) (hq : Below W0.heap.size W0 w1) => htc.out.up hq)
  have e0 := hW0.out
  subst e0
  clear hW0 htb htc p1 p3 hok
  by_cases hk0 : k = 0
  · subst hk0
    by_cases hw : n2 = 0
    · subst hw
      have hpw : p.word = [] := List.eq_nil_of_length_eq_zero hn2
      have hmd := hide (show madeP p ⟨0, a, b⟩ = ⟨putL p.start a b, p.step, []⟩ by unfold madeP; simp [hpw])
      go_enter Tryd.func40, Tryd.ntmps40
      go_wp2_with fail
      refine HP.out.mono ?_
      rintro e w1 ⟨u, rfl, hp1, hq1⟩
      have hp1 := hide hp1
      have hF := hide (HF.out w1 hq1)
      obtain ⟨A4, n4, c4, A5, n5, c5, rfl, hs4, hs5, hs6, _⟩ := hp1.out.ex
      replace hs4 := hide hs4
      replace hs5 := hide hs5
      replace hs6 := hide hs6
      obtain ⟨hb1, hlw, hcs, hfz⟩ := hF.out
      have hb1 := hide hb1
      obtain ⟨t0, t1, t2, t3, t4, t5⟩ := hcs
      obtain ⟨r0, r1, r2, f0, f1, f2⟩ := hfz
      have hTr := hide (HT.out w1 hq1)
      have hta1 := hide (hta.out.up hq1)
      clear hq1 HP HF hF HT
      have HQ := hide (fun (W : World) (hq : Below w1.heap.size w1 W) => putIn_spec A n c B p.start a b W (h1.below ((hb1.out.trans (hq.mono hb1.out.size)).mono hB)) (Nat.le_trans hB (Nat.le_trans hb1.out.size hq.size)) hwb)
      go_wp2_with (go_at_call 78; refine (HQ.out _ (al w1 _)).mono ?_; rintro e w2 ⟨A6, n6, c6, rfl, ho6, hq6⟩; obtain ⟨r0, r1, r2, f0, f1, f2, _⟩ := (hTr.out.alloc (.cells #[.slice A4 n4 c4, .int .i64 p.step, .slice A5 n5 c5] 31)).up hq6; have v0 := ((hta1.out.alloc (.cells #[.slice A4 n4 c4, .int .i64 p.step, .slice A5 n5 c5] 31)).up hq6).c1)
      have hT := hide (((((hTr.out.alloc (.cells #[.slice A4 n4 c4, .int .i64 p.step, .slice A5 n5 c5] 31)).up hq6).set0 (.slice A6 n6 c6)).set1 (.int .i64 p.step)).set2 (.slice none 0 0))
      have hB1 := hide (((((hb1.out.alloc hb1.out.size (.cells #[.slice A4 n4 c4, .int .i64 p.step, .slice A5 n5 c5] 31)).trans (hq6.mono (by have := hb1.out.size; simp; omega))).setCell (p := ⟨w.heap.size + 1 + 1, 0, none⟩) (by simp; omega) (.slice A6 n6 c6)).setCell (p := ⟨w.heap.size + 1 + 1, 1, none⟩) (by simp; omega) (.int .i64 p.step)).setCell (p := ⟨w.heap.size + 1 + 1, 2, none⟩) (by simp; omega) (.slice none 0 0))
      have hP1 := hide (plZ_stored (show PlY w2 (w.heap.size + 1 + 1 + 1) (.agg #[.slice A6 n6 c6, .int .i64 p.step, .slice none 0 0]) ⟨putL p.start a b, p.step, []⟩ from ⟨_, _, _, _, _, _, rfl, ho6.down (by simp; omega), .inl Own.none_, hwf⟩) (Nat.lt_succ_self (w.heap.size + 1 + 1)) (show w.heap.size ≤ w.heap.size + 1 + 1 + 1 by omega) (.slice A6 n6 c6) (.int .i64 p.step) (.slice none 0 0))
      obtain ⟨k0, k1, k2, _, _, _, _⟩ := hT.out
      exact bodyPost_ret (v := .agg #[.slice A6 n6 c6, .int .i64 p.step, .slice none 0 0]) (by simp [results, Tryd.results40, go_sem, k0, k1, k2]) rfl ⟨_, rfl, by rw [hmd.out]; exact hP1.out, hB1.out⟩
    · have hw2 : ((n2 : Int) == 0) = false := by simp; omega
      have hpw : p.word ≠ [] := fun e => hw (by rw [← hn2, e]; rfl)
      have hmd := hide (show madeP p ⟨0, a, b⟩ = noPlc by unfold madeP; simp [hpw])
      replace hpw := hide hpw
      go_enter Tryd.func40, Tryd.ntmps40
      go_wp2_with fail
      refine HP.out.mono ?_
      rintro e w1 ⟨u, rfl, hp1, hq1⟩
      have hp1 := hide hp1
      have hF := hide (HF.out w1 hq1)
      obtain ⟨A4, n4, c4, A5, n5, c5, rfl, hs4, hs5, hs6, _⟩ := hp1.out.ex
      replace hs4 := hide hs4
      replace hs5 := hide hs5
      replace hs6 := hide hs6
      obtain ⟨hb1, hlw, hcs, hfz⟩ := hF.out
      have hb1 := hide hb1
      obtain ⟨t0, t1, t2, t3, t4, t5⟩ := hcs
      obtain ⟨r0, r1, r2, f0, f1, f2⟩ := hfz
      have hTr := hide (HT.out w1 hq1)
      have hta1 := hide (hta.out.up hq1)
      clear hq1 HP HF hF HT
      go_wp2_with fail
      have hT := hide ((((hTr.out.alloc (.cells #[.slice A4 n4 c4, .int .i64 p.step, .slice A5 n5 c5] 31)).set0 (.slice none 0 0)).set1 (.int .i64 0)).set2 (.slice none 0 0))
      have hB1 := hide ((((hb1.out.alloc hb1.out.size (.cells #[.slice A4 n4 c4, .int .i64 p.step, .slice A5 n5 c5] 31)).setCell (p := ⟨w.heap.size + 1 + 1, 0, none⟩) (by simp; omega) (.slice none 0 0)).setCell (p := ⟨w.heap.size + 1 + 1, 1, none⟩) (by simp; omega) (.int .i64 0)).setCell (p := ⟨w.heap.size + 1 + 1, 2, none⟩) (by simp; omega) (.slice none 0 0))
      have hP1 := hide (plZ_stored (plZ_zero (w := w1.alloc (.cells #[.slice A4 n4 c4, .int .i64 p.step, .slice A5 n5 c5] 31)) (base := w.heap.size + 1 + 1 + 1)) (Nat.lt_succ_self (w.heap.size + 1 + 1)) (show w.heap.size ≤ w.heap.size + 1 + 1 + 1 by omega) (.slice none 0 0) (.int .i64 0) (.slice none 0 0))
      obtain ⟨k0, k1, k2, _, _, _, _⟩ := hT.out
      exact bodyPost_ret (v := .agg #[.slice none 0 0, .int .i64 0, .slice none 0 0]) (by simp [results, Tryd.results40, go_sem, k0, k1, k2]) rfl ⟨_, rfl, by rw [hmd.out]; exact hP1.out, hB1.out⟩
  · have hk0b : (k == 0) = false := by simpa using hk0
    by_cases hk1 : k = 1
    · subst hk1
      by_cases hbz : b = 0
      · subst hbz
        by_cases hw : n2 = 0
        · subst hw
          have hpw : p.word = [] := List.eq_nil_of_length_eq_zero hn2
          have hmd := hide (show madeP p ⟨1, a, 0⟩ = ⟨p.start, a, p.word⟩ by unfold madeP; simp [hpw])
          go_enter Tryd.func40, Tryd.ntmps40
          go_wp2_with fail
          refine HP.out.mono ?_
          rintro e w1 ⟨u, rfl, hp1, hq1⟩
          have hp1 := hide hp1
          have hF := hide (HF.out w1 hq1)
          obtain ⟨A4, n4, c4, A5, n5, c5, rfl, hs4, hs5, hs6, _⟩ := hp1.out.ex
          replace hs4 := hide hs4
          replace hs5 := hide hs5
          replace hs6 := hide hs6
          obtain ⟨hb1, hlw, hcs, hfz⟩ := hF.out
          have hb1 := hide hb1
          obtain ⟨t0, t1, t2, t3, t4, t5⟩ := hcs
          obtain ⟨r0, r1, r2, f0, f1, f2⟩ := hfz
          have hTr := hide (HT.out w1 hq1)
          have hta1 := hide (hta.out.up hq1)
          clear hq1 HP HF hF HT
          go_wp2_with fail
          have hT := hide ((((hTr.out.alloc (.cells #[.slice A4 n4 c4, .int .i64 a, .slice A5 n5 c5] 31)).set0 (.slice A4 n4 c4)).set1 (.int .i64 a)).set2 (.slice A5 n5 c5))
          have hB1 := hide ((((hb1.out.alloc hb1.out.size (.cells #[.slice A4 n4 c4, .int .i64 a, .slice A5 n5 c5] 31)).setCell (p := ⟨w.heap.size + 1 + 1, 0, none⟩) (by simp; omega) (.slice A4 n4 c4)).setCell (p := ⟨w.heap.size + 1 + 1, 1, none⟩) (by simp; omega) (.int .i64 a)).setCell (p := ⟨w.heap.size + 1 + 1, 2, none⟩) (by simp; omega) (.slice A5 n5 c5))
          have hP1 := hide (plZ_stored (show PlY (w1.alloc (.cells #[.slice A4 n4 c4, .int .i64 a, .slice A5 n5 c5] 31)) (w.heap.size + 1 + 1 + 1) (.agg #[.slice A4 n4 c4, .int .i64 a, .slice A5 n5 c5]) ⟨p.start, a, p.word⟩ from ⟨_, _, _, _, _, _, rfl, ((hs4.out.below (al w1 (.cells #[.slice A4 n4 c4, .int .i64 a, .slice A5 n5 c5] 31)) (Nat.le_refl _)).down (by rw [hz.out]; exact Nat.le_refl _)), ((hs5.out.up (al w1 (.cells #[.slice A4 n4 c4, .int .i64 a, .slice A5 n5 c5] 31))).down (by rw [hz.out]; exact Nat.le_refl _)), hwa⟩) (Nat.lt_succ_self (w.heap.size + 1 + 1)) (show w.heap.size ≤ w.heap.size + 1 + 1 + 1 by omega) (.slice A4 n4 c4) (.int .i64 a) (.slice A5 n5 c5))
          obtain ⟨k0, k1, k2, _, _, _, _⟩ := hT.out
          exact bodyPost_ret (v := .agg #[.slice A4 n4 c4, .int .i64 a, .slice A5 n5 c5]) (by simp [results, Tryd.results40, go_sem, k0, k1, k2]) rfl ⟨_, rfl, by rw [hmd.out]; exact hP1.out, hB1.out⟩
        · have hw2 : ((n2 : Int) == 0) = false := by simp; omega
          have hpw : p.word ≠ [] := fun e => hw (by rw [← hn2, e]; rfl)
          have hmd := hide (show madeP p ⟨1, a, 0⟩ = noPlc by unfold madeP; simp [hpw])
          replace hpw := hide hpw
          go_enter Tryd.func40, Tryd.ntmps40
          go_wp2_with fail
          refine HP.out.mono ?_
          rintro e w1 ⟨u, rfl, hp1, hq1⟩
          have hp1 := hide hp1
          have hF := hide (HF.out w1 hq1)
          obtain ⟨A4, n4, c4, A5, n5, c5, rfl, hs4, hs5, hs6, _⟩ := hp1.out.ex
          replace hs4 := hide hs4
          replace hs5 := hide hs5
          replace hs6 := hide hs6
          obtain ⟨hb1, hlw, hcs, hfz⟩ := hF.out
          have hb1 := hide hb1
          obtain ⟨t0, t1, t2, t3, t4, t5⟩ := hcs
          obtain ⟨r0, r1, r2, f0, f1, f2⟩ := hfz
          have hTr := hide (HT.out w1 hq1)
          have hta1 := hide (hta.out.up hq1)
          clear hq1 HP HF hF HT
          go_wp2_with fail
          have hT := hide ((((hTr.out.alloc (.cells #[.slice A4 n4 c4, .int .i64 p.step, .slice A5 n5 c5] 31)).set0 (.slice none 0 0)).set1 (.int .i64 0)).set2 (.slice none 0 0))
          have hB1 := hide ((((hb1.out.alloc hb1.out.size (.cells #[.slice A4 n4 c4, .int .i64 p.step, .slice A5 n5 c5] 31)).setCell (p := ⟨w.heap.size + 1 + 1, 0, none⟩) (by simp; omega) (.slice none 0 0)).setCell (p := ⟨w.heap.size + 1 + 1, 1, none⟩) (by simp; omega) (.int .i64 0)).setCell (p := ⟨w.heap.size + 1 + 1, 2, none⟩) (by simp; omega) (.slice none 0 0))
          have hP1 := hide (plZ_stored (plZ_zero (w := w1.alloc (.cells #[.slice A4 n4 c4, .int .i64 p.step, .slice A5 n5 c5] 31)) (base := w.heap.size + 1 + 1 + 1)) (Nat.lt_succ_self (w.heap.size + 1 + 1)) (show w.heap.size ≤ w.heap.size + 1 + 1 + 1 by omega) (.slice none 0 0) (.int .i64 0) (.slice none 0 0))
          obtain ⟨k0, k1, k2, _, _, _, _⟩ := hT.out
          exact bodyPost_ret (v := .agg #[.slice none 0 0, .int .i64 0, .slice none 0 0]) (by simp [results, Tryd.results40, go_sem, k0, k1, k2]) rfl ⟨_, rfl, by rw [hmd.out]; exact hP1.out, hB1.out⟩
      · have hbb : (b == 0) = false := by simpa using hbz
        have hmd := hide (show madeP p ⟨1, a, b⟩ = noPlc by unfold madeP; simp [hbz])
        go_enter Tryd.func40, Tryd.ntmps40
        go_wp2_with fail
        refine HP.out.mono ?_
        rintro e w1 ⟨u, rfl, hp1, hq1⟩
        have hp1 := hide hp1
        have hF := hide (HF.out w1 hq1)
        obtain ⟨A4, n4, c4, A5, n5, c5, rfl, hs4, hs5, hs6, _⟩ := hp1.out.ex
        replace hs4 := hide hs4
        replace hs5 := hide hs5
        replace hs6 := hide hs6
        obtain ⟨hb1, hlw, hcs, hfz⟩ := hF.out
        have hb1 := hide hb1
        obtain ⟨t0, t1, t2, t3, t4, t5⟩ := hcs
        obtain ⟨r0, r1, r2, f0, f1, f2⟩ := hfz
        have hTr := hide (HT.out w1 hq1)
        have hta1 := hide (hta.out.up hq1)
        clear hq1 HP HF hF HT
        go_wp2_with fail
        have hT := hide ((((hTr.out.alloc (.cells #[.slice A4 n4 c4, .int .i64 p.step, .slice A5 n5 c5] 31)).set0 (.slice none 0 0)).set1 (.int .i64 0)).set2 (.slice none 0 0))
        have hB1 := hide ((((hb1.out.alloc hb1.out.size (.cells #[.slice A4 n4 c4, .int .i64 p.step, .slice A5 n5 c5] 31)).setCell (p := ⟨w.heap.size + 1 + 1, 0, none⟩) (by simp; omega) (.slice none 0 0)).setCell (p := ⟨w.heap.size + 1 + 1, 1, none⟩) (by simp; omega) (.int .i64 0)).setCell (p := ⟨w.heap.size + 1 + 1, 2, none⟩) (by simp; omega) (.slice none 0 0))
        have hP1 := hide (plZ_stored (plZ_zero (w := w1.alloc (.cells #[.slice A4 n4 c4, .int .i64 p.step, .slice A5 n5 c5] 31)) (base := w.heap.size + 1 + 1 + 1)) (Nat.lt_succ_self (w.heap.size + 1 + 1)) (show w.heap.size ≤ w.heap.size + 1 + 1 + 1 by omega) (.slice none 0 0) (.int .i64 0) (.slice none 0 0))
        obtain ⟨k0, k1, k2, _, _, _, _⟩ := hT.out
        exact bodyPost_ret (v := .agg #[.slice none 0 0, .int .i64 0, .slice none 0 0]) (by simp [results, Tryd.results40, go_sem, k0, k1, k2]) rfl ⟨_, rfl, by rw [hmd.out]; exact hP1.out, hB1.out⟩
    · have hk1b : (k == 1) = false := by simpa using hk1
      by_cases hk2 : k = 2
      · subst hk2
        by_cases hbz : b = 0
        · subst hbz
          have hmd := hide (show madeP p ⟨2, a, 0⟩ = ⟨p.start, p.step, p.word ++ [a]⟩ by unfold madeP; simp)
          go_enter Tryd.func40, Tryd.ntmps40
          go_wp2_with fail
          refine HP.out.mono ?_
          rintro e w1 ⟨u, rfl, hp1, hq1⟩
          have hp1 := hide hp1
          have hF := hide (HF.out w1 hq1)
          obtain ⟨A4, n4, c4, A5, n5, c5, rfl, hs4, hs5, hs6, _⟩ := hp1.out.ex
          replace hs4 := hide hs4
          replace hs5 := hide hs5
          replace hs6 := hide hs6
          obtain ⟨hb1, hlw, hcs, hfz⟩ := hF.out
          have hb1 := hide hb1
          obtain ⟨t0, t1, t2, t3, t4, t5⟩ := hcs
          obtain ⟨r0, r1, r2, f0, f1, f2⟩ := hfz
          have hTr := hide (HT.out w1 hq1)
          have hta1 := hide (hta.out.up hq1)
          clear hq1 HP HF hF HT
          by_cases hpe : p.word = []
          · obtain ⟨b0, e5⟩ := hs6.out.2 hpe
            have hpe := hide hpe
            replace e5 := hide e5
            have hne4 : (Value.slice A4 n4 c4).ownBlock = none ∨ (Value.slice A4 n4 c4).ownBlock ≠ none := by cases (Value.slice A4 n4 c4).ownBlock <;> simp
            replace hne4 := hide hne4
            have hlit := hide (show Ints ((w1.alloc (.cells #[.slice A4 n4 c4, .int .i64 p.step, .slice A5 n5 c5] 31)).alloc (.cells #[.int .i64 a] 3)) (w1.heap.size + 1 + 1) (some ⟨w1.heap.size + 1, 0, none⟩) 1 1 [a] from by
              have := ints_lit1 (w := w1.alloc (.cells #[.slice A4 n4 c4, .int .i64 p.step, .slice A5 n5 c5] 31)) hwa
              rw [World.size_alloc] at this
              exact this)
            have hzle := hide (show w.heap.size + 1 + 1 + 1 ≤ (((w.alloc (.cells #[.slice A n c, .int .i64 p.step, .slice A2 n2 c2] 31)).alloc (.cells #[.int .i64 2, .int .i64 a, .int .i64 0] 38)).alloc (.cells #[.slice none 0 0, .int .i64 0, .slice none 0 0] 31)).heap.size by rw [hz.out]; omega)
            have hbs3 : (((w.alloc (.cells #[.slice A n c, .int .i64 p.step, .slice A2 n2 c2] 31)).alloc (.cells #[.int .i64 2, .int .i64 a, .int .i64 0] 38)).alloc (.cells #[.slice none 0 0, .int .i64 0, .slice none 0 0] 31)).heap.size ≤ ((w1.alloc (.cells #[.slice A4 n4 c4, .int .i64 p.step, .slice A5 n5 c5] 31)).alloc (.cells #[.int .i64 a] 3)).heap.size := by rw [hz.out]; simp; omega
            go_wp2_with (at_builtin; refine wpList_copy _ rfl _ _ 22 rfl i0 Tryd.underlying22 hi hz0 hz1 hz2 b0 [a] (by exact e5.out) _ 1 1 _ rfl hlit.out (by omega) (by omega) ?_; intro A6 n6 c6 w3 ho6 hg6; have hto := hide (((TriW.made w1 (.slice A4 n4 c4) (.int .i64 p.step) (.slice A5 n5 c5) 31).alloc (.cells #[.int .i64 a] 3)).grown hg6 (fun q hq => by cases hq)); have htr := hide (((hTr.out.alloc (.cells #[.slice A4 n4 c4, .int .i64 p.step, .slice A5 n5 c5] 31)).alloc (.cells #[.int .i64 a] 3)).grown hg6 (fun q hq => by cases hq)); have hbl := hide (((hb1.out.alloc hb1.out.size (.cells #[.slice A4 n4 c4, .int .i64 p.step, .slice A5 n5 c5] 31)).alloc (by have := hb1.out.size; simp; omega) (.cells #[.int .i64 a] 3)).grown hg6 (by have := hb1.out.size; simp; omega) (fun q hq => by cases hq)); have ha4 := hide (((hs4.out.below (al w1 (.cells #[.slice A4 n4 c4, .int .i64 p.step, .slice A5 n5 c5] 31)) (Nat.le_refl _)).below (al _ (.cells #[.int .i64 a] 3)) (Nat.le_refl _)).kept hg6 hne4.out); have hblk := hide ((hg6.block w1.heap.size (by simp; omega) (fun e => (show ∀ q, (none : Option Nat) = some q → q ≠ w1.heap.size from (fun q hq => by cases hq)) _ e.symm rfl)).trans ((heap_alloc_old (w1.alloc (.cells #[.slice A4 n4 c4, .int .i64 p.step, .slice A5 n5 c5] 31)) (.cells #[.int .i64 a] 3) (by simp)).trans (heap_alloc_new w1 (.cells #[.slice A4 n4 c4, .int .i64 p.step, .slice A5 n5 c5] 31)))); obtain ⟨x0, x1, x2, y0, y1, y2, _⟩ := hto.out; obtain ⟨r0, r1, r2, f0, f1, f2, _⟩ := htr.out; have ho7 := hide (show Own w3 (w.heap.size + 1 + 1 + 1) (.slice A6 n6 c6) (p.word ++ [a]) from by rw [hpe.out]; exact ho6.down (by have := hb1.out.size; simp; omega)); clear hg6 ho6)
            go_wp2_with fail
            have hT := hide ((((htr.out.other (a := ⟨w1.heap.size, 2, none⟩) (by simp; omega) (.slice A6 n6 c6)).set0 (.slice A4 n4 c4)).set1 (.int .i64 p.step)).set2 (.slice A6 n6 c6))
            have hB1 := hide ((((hbl.out.setCell (p := ⟨w1.heap.size, 2, none⟩) (by have := hb1.out.size; simp; omega) (.slice A6 n6 c6)).setCell (p := ⟨w.heap.size + 1 + 1, 0, none⟩) (by simp; omega) (.slice A4 n4 c4)).setCell (p := ⟨w.heap.size + 1 + 1, 1, none⟩) (by simp; omega) (.int .i64 p.step)).setCell (p := ⟨w.heap.size + 1 + 1, 2, none⟩) (by simp; omega) (.slice A6 n6 c6))
            have hP1 := hide (plZ_stored (show PlY (w3.setCell ⟨w1.heap.size, 2, none⟩ (.slice A6 n6 c6)) (w.heap.size + 1 + 1 + 1) (.agg #[.slice A4 n4 c4, .int .i64 p.step, .slice A6 n6 c6]) ⟨p.start, p.step, p.word ++ [a]⟩ from ⟨_, _, _, _, _, _, rfl, (own_setAt ha4.out (a := ⟨w1.heap.size, 2, none⟩) (own_nePlace ha4.out hblk.out) (.slice A6 n6 c6)).down hzle.out, .inl (own_setAt ho7.out (a := ⟨w1.heap.size, 2, none⟩) (own_nePlace ho7.out hblk.out) (.slice A6 n6 c6)), hwf⟩) (Nat.lt_succ_self (w.heap.size + 1 + 1)) (show w.heap.size ≤ w.heap.size + 1 + 1 + 1 by omega) (.slice A4 n4 c4) (.int .i64 p.step) (.slice A6 n6 c6))
            obtain ⟨k0, k1, k2, _, _, _, _⟩ := hT.out
            exact bodyPost_ret (v := .agg #[.slice A4 n4 c4, .int .i64 p.step, .slice A6 n6 c6]) (by simp [results, Tryd.results40, go_sem, k0, k1, k2]) rfl ⟨_, rfl, by rw [hmd.out]; exact hP1.out, hB1.out⟩
          · have hown : Own w1 (((w.alloc (.cells #[.slice A n c, .int .i64 p.step, .slice A2 n2 c2] 31)).alloc (.cells #[.int .i64 2, .int .i64 a, .int .i64 0] 38)).alloc (.cells #[.slice none 0 0, .int .i64 0, .slice none 0 0] 31)).heap.size (.slice A5 n5 c5) p.word := by
              rcases hs5.out with h | ⟨h, _⟩
              · exact h
              · exact absurd h hpe
            replace hown := hide hown
            have hpw := hide hpe
            clear hpe
            have hne4 : (Value.slice A4 n4 c4).ownBlock = none ∨ (Value.slice A4 n4 c4).ownBlock ≠ (Value.slice A5 n5 c5).ownBlock := .inr (hs6.out.1 hpw.out)
            replace hne4 := hide hne4
            have hlit := hide (show Ints ((w1.alloc (.cells #[.slice A4 n4 c4, .int .i64 p.step, .slice A5 n5 c5] 31)).alloc (.cells #[.int .i64 a] 3)) (w1.heap.size + 1 + 1) (some ⟨w1.heap.size + 1, 0, none⟩) 1 1 [a] from by
              have := ints_lit1 (w := w1.alloc (.cells #[.slice A4 n4 c4, .int .i64 p.step, .slice A5 n5 c5] 31)) hwa
              rw [World.size_alloc] at this
              exact this)
            have hzle := hide (show w.heap.size + 1 + 1 + 1 ≤ (((w.alloc (.cells #[.slice A n c, .int .i64 p.step, .slice A2 n2 c2] 31)).alloc (.cells #[.int .i64 2, .int .i64 a, .int .i64 0] 38)).alloc (.cells #[.slice none 0 0, .int .i64 0, .slice none 0 0] 31)).heap.size by rw [hz.out]; omega)
            have hbs3 : (((w.alloc (.cells #[.slice A n c, .int .i64 p.step, .slice A2 n2 c2] 31)).alloc (.cells #[.int .i64 2, .int .i64 a, .int .i64 0] 38)).alloc (.cells #[.slice none 0 0, .int .i64 0, .slice none 0 0] 31)).heap.size ≤ ((w1.alloc (.cells #[.slice A4 n4 c4, .int .i64 p.step, .slice A5 n5 c5] 31)).alloc (.cells #[.int .i64 a] 3)).heap.size := by rw [hz.out]; simp; omega
            go_wp2_with (at_builtin; refine wpList_app _ rfl _ _ 22 rfl i0 Tryd.underlying22 hi hz0 hz1 hz2 (.slice A5 n5 c5) p.word rfl ((hown.out.below (al w1 (.cells #[.slice A4 n4 c4, .int .i64 p.step, .slice A5 n5 c5] 31)) (Nat.le_refl _)).below (al _ (.cells #[.int .i64 a] 3)) (Nat.le_refl _)) _ 1 1 _ [a] rfl hlit.out hbs3 (by omega) ?_; intro A6 n6 c6 w3 ho6 hg6; have hto := hide (((TriW.made w1 (.slice A4 n4 c4) (.int .i64 p.step) (.slice A5 n5 c5) 31).alloc (.cells #[.int .i64 a] 3)).grown hg6 (fun q hq => by have := (hown.out.row.lt q hq).2; omega)); have htr := hide (((hTr.out.alloc (.cells #[.slice A4 n4 c4, .int .i64 p.step, .slice A5 n5 c5] 31)).alloc (.cells #[.int .i64 a] 3)).grown hg6 (fun q hq => by have := (hown.out.row.lt q hq).1; have := hz.out; omega)); have hbl := hide (((hb1.out.alloc hb1.out.size (.cells #[.slice A4 n4 c4, .int .i64 p.step, .slice A5 n5 c5] 31)).alloc (by have := hb1.out.size; simp; omega) (.cells #[.int .i64 a] 3)).grown hg6 (by have := hb1.out.size; simp; omega) (fun q hq => by have := (hown.out.row.lt q hq).1; have := hz.out; omega)); have ha4 := hide (((hs4.out.below (al w1 (.cells #[.slice A4 n4 c4, .int .i64 p.step, .slice A5 n5 c5] 31)) (Nat.le_refl _)).below (al _ (.cells #[.int .i64 a] 3)) (Nat.le_refl _)).kept hg6 hne4.out); have hblk := hide ((hg6.block w1.heap.size (by simp; omega) (fun e => (show ∀ q, ((Value.slice A5 n5 c5).ownBlock : Option Nat) = some q → q ≠ w1.heap.size from (fun q hq => by have := (hown.out.row.lt q hq).2; omega)) _ e.symm rfl)).trans ((heap_alloc_old (w1.alloc (.cells #[.slice A4 n4 c4, .int .i64 p.step, .slice A5 n5 c5] 31)) (.cells #[.int .i64 a] 3) (by simp)).trans (heap_alloc_new w1 (.cells #[.slice A4 n4 c4, .int .i64 p.step, .slice A5 n5 c5] 31)))); obtain ⟨x0, x1, x2, y0, y1, y2, _⟩ := hto.out; obtain ⟨r0, r1, r2, f0, f1, f2, _⟩ := htr.out; have ho7 := hide (ho6.down hzle.out); clear hg6 ho6)
            go_wp2_with fail
            have hT := hide ((((htr.out.other (a := ⟨w1.heap.size, 2, none⟩) (by simp; omega) (.slice A6 n6 c6)).set0 (.slice A4 n4 c4)).set1 (.int .i64 p.step)).set2 (.slice A6 n6 c6))
            have hB1 := hide ((((hbl.out.setCell (p := ⟨w1.heap.size, 2, none⟩) (by have := hb1.out.size; simp; omega) (.slice A6 n6 c6)).setCell (p := ⟨w.heap.size + 1 + 1, 0, none⟩) (by simp; omega) (.slice A4 n4 c4)).setCell (p := ⟨w.heap.size + 1 + 1, 1, none⟩) (by simp; omega) (.int .i64 p.step)).setCell (p := ⟨w.heap.size + 1 + 1, 2, none⟩) (by simp; omega) (.slice A6 n6 c6))
            have hP1 := hide (plZ_stored (show PlY (w3.setCell ⟨w1.heap.size, 2, none⟩ (.slice A6 n6 c6)) (w.heap.size + 1 + 1 + 1) (.agg #[.slice A4 n4 c4, .int .i64 p.step, .slice A6 n6 c6]) ⟨p.start, p.step, p.word ++ [a]⟩ from ⟨_, _, _, _, _, _, rfl, (own_setAt ha4.out (a := ⟨w1.heap.size, 2, none⟩) (own_nePlace ha4.out hblk.out) (.slice A6 n6 c6)).down hzle.out, .inl (own_setAt ho7.out (a := ⟨w1.heap.size, 2, none⟩) (own_nePlace ho7.out hblk.out) (.slice A6 n6 c6)), hwf⟩) (Nat.lt_succ_self (w.heap.size + 1 + 1)) (show w.heap.size ≤ w.heap.size + 1 + 1 + 1 by omega) (.slice A4 n4 c4) (.int .i64 p.step) (.slice A6 n6 c6))
            obtain ⟨k0, k1, k2, _, _, _, _⟩ := hT.out
            exact bodyPost_ret (v := .agg #[.slice A4 n4 c4, .int .i64 p.step, .slice A6 n6 c6]) (by simp [results, Tryd.results40, go_sem, k0, k1, k2]) rfl ⟨_, rfl, by rw [hmd.out]; exact hP1.out, hB1.out⟩
        · have hbb : (b == 0) = false := by simpa using hbz
          have hmd := hide (show madeP p ⟨2, a, b⟩ = noPlc by unfold madeP; simp [hbz])
          go_enter Tryd.func40, Tryd.ntmps40
          go_wp2_with fail
          refine HP.out.mono ?_
          rintro e w1 ⟨u, rfl, hp1, hq1⟩
          have hp1 := hide hp1
          have hF := hide (HF.out w1 hq1)
          obtain ⟨A4, n4, c4, A5, n5, c5, rfl, hs4, hs5, hs6, _⟩ := hp1.out.ex
          replace hs4 := hide hs4
          replace hs5 := hide hs5
          replace hs6 := hide hs6
          obtain ⟨hb1, hlw, hcs, hfz⟩ := hF.out
          have hb1 := hide hb1
          obtain ⟨t0, t1, t2, t3, t4, t5⟩ := hcs
          obtain ⟨r0, r1, r2, f0, f1, f2⟩ := hfz
          have hTr := hide (HT.out w1 hq1)
          have hta1 := hide (hta.out.up hq1)
          clear hq1 HP HF hF HT
          go_wp2_with fail
          have hT := hide ((((hTr.out.alloc (.cells #[.slice A4 n4 c4, .int .i64 p.step, .slice A5 n5 c5] 31)).set0 (.slice none 0 0)).set1 (.int .i64 0)).set2 (.slice none 0 0))
          have hB1 := hide ((((hb1.out.alloc hb1.out.size (.cells #[.slice A4 n4 c4, .int .i64 p.step, .slice A5 n5 c5] 31)).setCell (p := ⟨w.heap.size + 1 + 1, 0, none⟩) (by simp; omega) (.slice none 0 0)).setCell (p := ⟨w.heap.size + 1 + 1, 1, none⟩) (by simp; omega) (.int .i64 0)).setCell (p := ⟨w.heap.size + 1 + 1, 2, none⟩) (by simp; omega) (.slice none 0 0))
          have hP1 := hide (plZ_stored (plZ_zero (w := w1.alloc (.cells #[.slice A4 n4 c4, .int .i64 p.step, .slice A5 n5 c5] 31)) (base := w.heap.size + 1 + 1 + 1)) (Nat.lt_succ_self (w.heap.size + 1 + 1)) (show w.heap.size ≤ w.heap.size + 1 + 1 + 1 by omega) (.slice none 0 0) (.int .i64 0) (.slice none 0 0))
          obtain ⟨k0, k1, k2, _, _, _, _⟩ := hT.out
          exact bodyPost_ret (v := .agg #[.slice none 0 0, .int .i64 0, .slice none 0 0]) (by simp [results, Tryd.results40, go_sem, k0, k1, k2]) rfl ⟨_, rfl, by rw [hmd.out]; exact hP1.out, hB1.out⟩
      · have hk2b : (k == 2) = false := by simpa using hk2
        by_cases hk3 : k = 3
        · subst hk3
          by_cases haz : a = 0
          · subst haz
            by_cases hbz : b = 0
            · subst hbz
              have hmd := hide (show madeP p ⟨3, 0, 0⟩ = ⟨p.start, p.step, []⟩ by unfold madeP; simp)
              go_enter Tryd.func40, Tryd.ntmps40
              go_wp2_with fail
              refine HP.out.mono ?_
              rintro e w1 ⟨u, rfl, hp1, hq1⟩
              have hp1 := hide hp1
              have hF := hide (HF.out w1 hq1)
              obtain ⟨A4, n4, c4, A5, n5, c5, rfl, hs4, hs5, hs6, _⟩ := hp1.out.ex
              replace hs4 := hide hs4
              replace hs5 := hide hs5
              replace hs6 := hide hs6
              obtain ⟨hb1, hlw, hcs, hfz⟩ := hF.out
              have hb1 := hide hb1
              obtain ⟨t0, t1, t2, t3, t4, t5⟩ := hcs
              obtain ⟨r0, r1, r2, f0, f1, f2⟩ := hfz
              have hTr := hide (HT.out w1 hq1)
              have hta1 := hide (hta.out.up hq1)
              clear hq1 HP HF hF HT
              go_wp2_with fail
              have hT := hide ((((hTr.out.alloc (.cells #[.slice A4 n4 c4, .int .i64 p.step, .slice A5 n5 c5] 31)).set0 (.slice A4 n4 c4)).set1 (.int .i64 p.step)).set2 (.slice none 0 0))
              have hB1 := hide ((((hb1.out.alloc hb1.out.size (.cells #[.slice A4 n4 c4, .int .i64 p.step, .slice A5 n5 c5] 31)).setCell (p := ⟨w.heap.size + 1 + 1, 0, none⟩) (by simp; omega) (.slice A4 n4 c4)).setCell (p := ⟨w.heap.size + 1 + 1, 1, none⟩) (by simp; omega) (.int .i64 p.step)).setCell (p := ⟨w.heap.size + 1 + 1, 2, none⟩) (by simp; omega) (.slice none 0 0))
              have hP1 := hide (plZ_stored (show PlY (w1.alloc (.cells #[.slice A4 n4 c4, .int .i64 p.step, .slice A5 n5 c5] 31)) (w.heap.size + 1 + 1 + 1) (.agg #[.slice A4 n4 c4, .int .i64 p.step, .slice none 0 0]) ⟨p.start, p.step, []⟩ from ⟨_, _, _, _, _, _, rfl, ((hs4.out.below (al w1 (.cells #[.slice A4 n4 c4, .int .i64 p.step, .slice A5 n5 c5] 31)) (Nat.le_refl _)).down (by rw [hz.out]; exact Nat.le_refl _)), .inl Own.none_, hwf⟩) (Nat.lt_succ_self (w.heap.size + 1 + 1)) (show w.heap.size ≤ w.heap.size + 1 + 1 + 1 by omega) (.slice A4 n4 c4) (.int .i64 p.step) (.slice none 0 0))
              obtain ⟨k0, k1, k2, _, _, _, _⟩ := hT.out
              exact bodyPost_ret (v := .agg #[.slice A4 n4 c4, .int .i64 p.step, .slice none 0 0]) (by simp [results, Tryd.results40, go_sem, k0, k1, k2]) rfl ⟨_, rfl, by rw [hmd.out]; exact hP1.out, hB1.out⟩
            · have hbb : (b == 0) = false := by simpa using hbz
              have hmd := hide (show madeP p ⟨3, 0, b⟩ = noPlc by unfold madeP; simp [hbz])
              go_enter Tryd.func40, Tryd.ntmps40
              go_wp2_with fail
              refine HP.out.mono ?_
              rintro e w1 ⟨u, rfl, hp1, hq1⟩
              have hp1 := hide hp1
              have hF := hide (HF.out w1 hq1)
              obtain ⟨A4, n4, c4, A5, n5, c5, rfl, hs4, hs5, hs6, _⟩ := hp1.out.ex
              replace hs4 := hide hs4
              replace hs5 := hide hs5
              replace hs6 := hide hs6
              obtain ⟨hb1, hlw, hcs, hfz⟩ := hF.out
              have hb1 := hide hb1
              obtain ⟨t0, t1, t2, t3, t4, t5⟩ := hcs
              obtain ⟨r0, r1, r2, f0, f1, f2⟩ := hfz
              have hTr := hide (HT.out w1 hq1)
              have hta1 := hide (hta.out.up hq1)
              clear hq1 HP HF hF HT
              go_wp2_with fail
              have hT := hide ((((hTr.out.alloc (.cells #[.slice A4 n4 c4, .int .i64 p.step, .slice A5 n5 c5] 31)).set0 (.slice none 0 0)).set1 (.int .i64 0)).set2 (.slice none 0 0))
              have hB1 := hide ((((hb1.out.alloc hb1.out.size (.cells #[.slice A4 n4 c4, .int .i64 p.step, .slice A5 n5 c5] 31)).setCell (p := ⟨w.heap.size + 1 + 1, 0, none⟩) (by simp; omega) (.slice none 0 0)).setCell (p := ⟨w.heap.size + 1 + 1, 1, none⟩) (by simp; omega) (.int .i64 0)).setCell (p := ⟨w.heap.size + 1 + 1, 2, none⟩) (by simp; omega) (.slice none 0 0))
              have hP1 := hide (plZ_stored (plZ_zero (w := w1.alloc (.cells #[.slice A4 n4 c4, .int .i64 p.step, .slice A5 n5 c5] 31)) (base := w.heap.size + 1 + 1 + 1)) (Nat.lt_succ_self (w.heap.size + 1 + 1)) (show w.heap.size ≤ w.heap.size + 1 + 1 + 1 by omega) (.slice none 0 0) (.int .i64 0) (.slice none 0 0))
              obtain ⟨k0, k1, k2, _, _, _, _⟩ := hT.out
              exact bodyPost_ret (v := .agg #[.slice none 0 0, .int .i64 0, .slice none 0 0]) (by simp [results, Tryd.results40, go_sem, k0, k1, k2]) rfl ⟨_, rfl, by rw [hmd.out]; exact hP1.out, hB1.out⟩
          · have haa : (a == 0) = false := by simpa using haz
            have hmd := hide (show madeP p ⟨3, a, b⟩ = noPlc by unfold madeP; simp [haz])
            go_enter Tryd.func40, Tryd.ntmps40
            go_wp2_with fail
            refine HP.out.mono ?_
            rintro e w1 ⟨u, rfl, hp1, hq1⟩
            have hp1 := hide hp1
            have hF := hide (HF.out w1 hq1)
            obtain ⟨A4, n4, c4, A5, n5, c5, rfl, hs4, hs5, hs6, _⟩ := hp1.out.ex
            replace hs4 := hide hs4
            replace hs5 := hide hs5
            replace hs6 := hide hs6
            obtain ⟨hb1, hlw, hcs, hfz⟩ := hF.out
            have hb1 := hide hb1
            obtain ⟨t0, t1, t2, t3, t4, t5⟩ := hcs
            obtain ⟨r0, r1, r2, f0, f1, f2⟩ := hfz
            have hTr := hide (HT.out w1 hq1)
            have hta1 := hide (hta.out.up hq1)
            clear hq1 HP HF hF HT
            go_wp2_with fail
            have hT := hide ((((hTr.out.alloc (.cells #[.slice A4 n4 c4, .int .i64 p.step, .slice A5 n5 c5] 31)).set0 (.slice none 0 0)).set1 (.int .i64 0)).set2 (.slice none 0 0))
            have hB1 := hide ((((hb1.out.alloc hb1.out.size (.cells #[.slice A4 n4 c4, .int .i64 p.step, .slice A5 n5 c5] 31)).setCell (p := ⟨w.heap.size + 1 + 1, 0, none⟩) (by simp; omega) (.slice none 0 0)).setCell (p := ⟨w.heap.size + 1 + 1, 1, none⟩) (by simp; omega) (.int .i64 0)).setCell (p := ⟨w.heap.size + 1 + 1, 2, none⟩) (by simp; omega) (.slice none 0 0))
            have hP1 := hide (plZ_stored (plZ_zero (w := w1.alloc (.cells #[.slice A4 n4 c4, .int .i64 p.step, .slice A5 n5 c5] 31)) (base := w.heap.size + 1 + 1 + 1)) (Nat.lt_succ_self (w.heap.size + 1 + 1)) (show w.heap.size ≤ w.heap.size + 1 + 1 + 1 by omega) (.slice none 0 0) (.int .i64 0) (.slice none 0 0))
            obtain ⟨k0, k1, k2, _, _, _, _⟩ := hT.out
            exact bodyPost_ret (v := .agg #[.slice none 0 0, .int .i64 0, .slice none 0 0]) (by simp [results, Tryd.results40, go_sem, k0, k1, k2]) rfl ⟨_, rfl, by rw [hmd.out]; exact hP1.out, hB1.out⟩
        · have hk3b : (k == 3) = false := by simpa using hk3
          have hmd := hide (show madeP p ⟨k, a, b⟩ = noPlc by unfold madeP; simp [hk0, hk1, hk2, hk3])
          go_enter Tryd.func40, Tryd.ntmps40
          go_wp2_with fail
          refine HP.out.mono ?_
          rintro e w1 ⟨u, rfl, hp1, hq1⟩
          have hp1 := hide hp1
          have hF := hide (HF.out w1 hq1)
          obtain ⟨A4, n4, c4, A5, n5, c5, rfl, hs4, hs5, hs6, _⟩ := hp1.out.ex
          replace hs4 := hide hs4
          replace hs5 := hide hs5
          replace hs6 := hide hs6
          obtain ⟨hb1, hlw, hcs, hfz⟩ := hF.out
          have hb1 := hide hb1
          obtain ⟨t0, t1, t2, t3, t4, t5⟩ := hcs
          obtain ⟨r0, r1, r2, f0, f1, f2⟩ := hfz
          have hTr := hide (HT.out w1 hq1)
          have hta1 := hide (hta.out.up hq1)
          clear hq1 HP HF hF HT
          go_wp2_with fail
          have hT := hide ((((hTr.out.alloc (.cells #[.slice A4 n4 c4, .int .i64 p.step, .slice A5 n5 c5] 31)).set0 (.slice none 0 0)).set1 (.int .i64 0)).set2 (.slice none 0 0))
          have hB1 := hide ((((hb1.out.alloc hb1.out.size (.cells #[.slice A4 n4 c4, .int .i64 p.step, .slice A5 n5 c5] 31)).setCell (p := ⟨w.heap.size + 1 + 1, 0, none⟩) (by simp; omega) (.slice none 0 0)).setCell (p := ⟨w.heap.size + 1 + 1, 1, none⟩) (by simp; omega) (.int .i64 0)).setCell (p := ⟨w.heap.size + 1 + 1, 2, none⟩) (by simp; omega) (.slice none 0 0))
          have hP1 := hide (plZ_stored (plZ_zero (w := w1.alloc (.cells #[.slice A4 n4 c4, .int .i64 p.step, .slice A5 n5 c5] 31)) (base := w.heap.size + 1 + 1 + 1)) (Nat.lt_succ_self (w.heap.size + 1 + 1)) (show w.heap.size ≤ w.heap.size + 1 + 1 + 1 by omega) (.slice none 0 0) (.int .i64 0) (.slice none 0 0))
          obtain ⟨k0, k1, k2, _, _, _, _⟩ := hT.out
          exact bodyPost_ret (v := .agg #[.slice none 0 0, .int .i64 0, .slice none 0 0]) (by simp [results, Tryd.results40, go_sem, k0, k1, k2]) rfl ⟨_, rfl, by rw [hmd.out]; exact hP1.out, hB1.out⟩
end Go.Proofs.YtoafpokcbbncfaaDoor

namespace Go.Proofs.YtoafpokcbbncfaaDoor
open Go.RowKit
set_option linter.unusedVariables false

/-- A block of a desk is no block of a row of ints, or of places. -/
theorem row_neDesk {w : World} {base g n size : Nat} {e : TypeId} {v : Value} {xs : List Value} {cs : Array Value} (he : e ≠ 34) (h : w.ownsRow base e size v n xs) (hb : w.heap[g]? = some (.cells cs 34 (0, 0))) : v.ownBlock ≠ some g := by
  intro e'
  rcases h.2 with ⟨rfl, _⟩ | ⟨g', cap, cur, rfl, _, hg, _⟩
  · cases e'
  · simp only [Value.ownBlock, Option.some.injEq] at e'
    subst e'
    rw [hb] at hg
    injection hg with hg
    injection hg with _ h2
    exact he h2.symm
theorem grown_at (w : World) (a : Addr) (u : Value) : w.grownBy (w.setCell a u) (some a.block) :=
  ⟨rfl, rfl, rfl, by simp, fun k _ hk => Below.heap_setCell _ _ _ k (fun e => hk (by rw [e]))⟩
section
variable {w : World} {base : Nat} {v : Value} {zs : List Int} {p : Plc} {ps : List Plc} {a : Addr} {cs : Array Value}
theorem Own.setDesk (h : Own w base v zs) (hb : w.heap[a.block]? = some (.cells cs 34 (0, 0))) (u : Value) : Own (w.setCell a u) base v zs := h.kept (grown_at w a u) (.inr (row_neDesk (by decide) h.row hb))
theorem OwnZ.setDesk (h : OwnZ w base v zs) (hb : w.heap[a.block]? = some (.cells cs 34 (0, 0))) (u : Value) : OwnZ (w.setCell a u) base v zs := by
  rcases h with h | h
  · exact .inl (h.setDesk hb u)
  · exact .inr h
theorem PlY.setDesk (h : PlY w base v p) (hb : w.heap[a.block]? = some (.cells cs 34 (0, 0))) (u : Value) : PlY (w.setCell a u) base v p := by
  obtain ⟨A, n, c, A', n', c', e, h1, h2, h3⟩ := h.ex
  exact ⟨A, n, c, A', n', c', e, h1.setDesk hb u, h2.setDesk hb u, h3⟩
theorem PlZ.setDesk (h : PlZ w base v p) (hb : w.heap[a.block]? = some (.cells cs 34 (0, 0))) (u : Value) : PlZ (w.setCell a u) base v p := by
  obtain ⟨A, n, c, A', n', c', e, h1, h2, h3, h4⟩ := h.ex
  exact ⟨A, n, c, A', n', c', e, h1.setDesk hb u, h2.setDesk hb u, h3, h4⟩
theorem PsZ.setDesk (h : PsZ w base v ps) (hb : w.heap[a.block]? = some (.cells cs 34 (0, 0))) (x : Value) : PsZ (w.setCell a x) base v ps := by
  obtain ⟨us, h1, h2, h3⟩ := h.ex
  exact ⟨us, h1, h2.kept (grown_at w a x) (.inr (row_neDesk (by decide) h2 hb)), fun j u p hu hp => (h3 j u p hu hp).setDesk hb x⟩
/-- A store into a block of a desk leaves it one. -/
theorem desk_stays (hb : w.heap[a.block]? = some (.cells cs 34 (0, 0))) (u : Value) : ∃ cs', (w.setCell a u).heap[a.block]? = some (.cells cs' 34 (0, 0)) := by
  simp only [World.setCell, Array.getElem?_modify, if_true, hb, Option.map_some]
  exact ⟨_, rfl⟩
theorem PlY.ints {A A' : Option Addr} {n c n' c' : Nat} {z : Int} (h : PlY w base (.agg #[.slice A n c, .int .i64 z, .slice A' n' c']) p) : Ints w w.heap.size A n c p.start ∧ Ints w w.heap.size A' n' c' p.word ∧ z = p.step ∧ (Lit.int .i64 p.step).wf = true := by
  obtain ⟨B, m, d, B', m', d', e, h1, h2, h3⟩ := h.ex
  injection e with e
  injection e with e
  simp only [List.cons.injEq, Value.slice.injEq, Value.int.injEq, and_true, true_and] at e
  obtain ⟨⟨rfl, rfl, rfl⟩, rfl, rfl, rfl, rfl⟩ := e
  exact ⟨h1.ints, h2.ints, rfl, h3⟩
theorem PlY.plM {u : Value} (h : PlY w base u p) : PlM w w.heap.size u p := by
  obtain ⟨B, m, d, B', m', d', e, h1, h2, h3⟩ := h.ex
  subst e
  exact plM_mk h1.ints h2.ints h3
end
end Go.Proofs.YtoafpokcbbncfaaDoor
