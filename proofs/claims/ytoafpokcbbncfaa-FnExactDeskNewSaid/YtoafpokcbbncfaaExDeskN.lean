/-
  Exact laws of chapter 14 walked: DeskNew (written by wip/gen_g8.py).
-/
import Derived.Test.YtoafpokcbbncfaaZmd
import Derived.Test.YtoafpokcbbncfaaDskNI
import Derived.Test.YtoafpokcbbncfaaZdf
import Derived.Test.YtoafpokcbbncfaaZdraw
namespace Go.Proofs.Ytoafpokcbbncfaa
open Go.RowKit
set_option linter.unusedVariables false

theorem DkQ.toR {w : World} {lo : Nat} {v : Value} {d : Dsk} (h : DkQ w lo v d) : DkR w lo v d := by
  obtain ⟨A, n, c, A', n', c', rfl, h1, h2⟩ := h.ex
  obtain ⟨t, e, e2, h3⟩ := h1.one
  obtain ⟨a, b, p⟩ := t
  obtain ⟨now, past⟩ := d
  simp only at h2 e2 e
  subst h2; subst e2
  injection e with e
  injection e with e
  simp only [List.cons.injEq, and_true] at e
  obtain ⟨rfl, _, rfl⟩ := e
  exact ⟨_, [], none, 0, 0, rfl, rfl, rfl, rfl, SlO.nil, ⟨fun t ht => by rw [List.mem_singleton] at ht; rw [ht]; exact h3, List.pairwise_singleton _ _⟩⟩
theorem deskNew_implR (v : Value) (p : Plc) (B : Nat) (w : World) (h : PlM w B v p) (hB : B ≤ w.heap.size) :
    Calls Try.prog 7 #[v] w fun e w' => ∃ u, e = .returned (.tuple #[u, .bool (placeOk p)]) ∧ DkR w' w.heap.size u (newDsk p) ∧ Below w.heap.size w w' :=
  (deskNew_impl v p B w h hB).mono fun e w' ⟨u, e1, h1, h2⟩ => ⟨u, e1, h1.toR, h2⟩
theorem newDsk_okor (p : Plc) : deskOk (newDsk p) = true ∨ newDsk p = noDsk := newDsk_or p

set_option maxRecDepth 100000 in
set_option maxHeartbeats 3200000 in
theorem exDeskNew {v : Value} {p : Plc} {w : World} (h : PlM w w.heap.size v p) :
    Calls Try.prog 3 #[v] w fun e w' => e = .returned (.bool true) ∧ Below w.heap.size w w' := by
  have hp := hide (show PlB w w.heap.size v p from ⟨h, Nat.le_refl _⟩)
  obtain ⟨A, n, c, A', n', c', rfl, i1, i2, hwf⟩ := h.ex
  clear i1 i2 hwf h
  have hb := hide (Below.refl w.heap.size w)
  have z1 := hide (show (w.alloc (.cells #[.slice A n c, .int .i64 p.step, .slice A' n' c'] 24)).heap.size = w.heap.size + 1 by simp)
  replace hp := hide (hp.out.up (al w (.cells #[.slice A n c, .int .i64 p.step, .slice A' n' c'] 24)))
  replace hb := hide (upB hb.out (al w (.cells #[.slice A n c, .int .i64 p.step, .slice A' n' c'] 24)))
  have t1 := hide (TriW.made w (.slice A n c) (.int .i64 p.step) (.slice A' n' c') 24)
  obtain ⟨VB, hVB⟩ : ∃ V, Hid (placeOk p = V) := ⟨_, hide rfl⟩
  obtain ⟨R, hR⟩ : ∃ R, Hid (newDsk p = R) := ⟨_, hide rfl⟩
  have hRs := hide (smallD_ok (newDsk_or p))
  rw [hR.out] at hRs
  have HS := hide (fun (W : World) (u : Value) (hu : PlM W W.heap.size u p) => deskNew_specS u p _ W hu (Nat.le_refl _))
  rw [hVB.out, hR.out] at HS
  have HI := hide (fun (W : World) (u : Value) (hu : PlM W W.heap.size u p) => deskNew_implR u p _ W hu (Nat.le_refl _))
  rw [hVB.out, hR.out] at HI
  go_enter Try.func3, Try.ntmps3
  obtain ⟨q1c0, q1c1, q1c2, q1f0, q1f1, q1f2, _⟩ := t1.out
  go_wp2_with fail
  refine (szPlace_c _ p _ 1048576 _ hp.out.pl hp.out.le (by omega) (by omega)).mono ?_
  rintro e w1 ⟨⟨x, rfl, hx1, hx2, hx3⟩, hq⟩
  have z2 := hide ((hq).size)
  replace hp := hide (hp.out.up hq)
  replace t1 := hide (t1.out.up hq)
  replace hb := hide (upB hb.out hq)
  clear hq
  by_cases hx : x < 0
  ·
    clear q1c0 q1c1 q1c2 q1f0 q1f1 q1f2
    obtain ⟨q2c0, q2c1, q2c2, q2f0, q2f1, q2f2, _⟩ := t1.out
    go_wp2_with fail
    go_ret
    exact ⟨rfl, hb.out⟩
  have hs1 : p.start.length ≤ 1048576 := by have := hx3.out (by omega); omega
  have hs2 : p.word.length ≤ 1048576 := by have := hx3.out (by omega); omega
  clear hx3
  clear q1c0 q1c1 q1c2 q1f0 q1f1 q1f2
  obtain ⟨q3c0, q3c1, q3c2, q3f0, q3f1, q3f2, _⟩ := t1.out
  go_wp2_with fail
  refine (toPlace_c _ p _ _ hp.out.pl hp.out.le hs1 hs2).mono ?_
  rintro e w2 ⟨uA, rfl, hA, hq⟩
  have z3 := hide ((hq).size)
  replace hp := hide (hp.out.up hq)
  replace t1 := hide (t1.out.up hq)
  replace hb := hide (upB hb.out hq)
  clear hq
  clear q3c0 q3c1 q3c2 q3f0 q3f1 q3f2
  obtain ⟨q4c0, q4c1, q4c2, q4f0, q4f1, q4f2, _⟩ := t1.out
  go_wp2_with fail
  refine (HS.out _ _ hA.plM).mono ?_
  rintro e w3 ⟨u0, rfl, h0, hq⟩
  have z4 := hide ((hq).size)
  replace hp := hide (hp.out.up hq)
  replace t1 := hide (t1.out.up hq)
  replace hb := hide (upB hb.out hq)
  clear hq
  have hw0 := hide (show DkB w3 w3.heap.size u0 R from ⟨h0.toF.dkM, Nat.le_refl _⟩)
  obtain ⟨A0, n0, c0, B0, m0, d0, E0, r0, s0, rfl⟩ := h0.toF.open_
  clear hA h0
  have z5 := hide (show (w3.alloc (.cells #[.slice A0 n0 c0, .int .i64 R.now.step, .slice B0 m0 d0, .slice E0 r0 s0] 29)).heap.size = w3.heap.size + 1 by simp)
  replace hp := hide (hp.out.up (al w3 (.cells #[.slice A0 n0 c0, .int .i64 R.now.step, .slice B0 m0 d0, .slice E0 r0 s0] 29)))
  replace hw0 := hide (hw0.out.up (al w3 (.cells #[.slice A0 n0 c0, .int .i64 R.now.step, .slice B0 m0 d0, .slice E0 r0 s0] 29)))
  replace t1 := hide (t1.out.up (al w3 (.cells #[.slice A0 n0 c0, .int .i64 R.now.step, .slice B0 m0 d0, .slice E0 r0 s0] 29)))
  replace hb := hide (upB hb.out (al w3 (.cells #[.slice A0 n0 c0, .int .i64 R.now.step, .slice B0 m0 d0, .slice E0 r0 s0] 29)))
  have t4 := hide (QuaW.made w3 (.slice A0 n0 c0) (.int .i64 R.now.step) (.slice B0 m0 d0) (.slice E0 r0 s0) 29)
  clear q4c0 q4c1 q4c2 q4f0 q4f1 q4f2
  obtain ⟨q5c0, q5c1, q5c2, q5f0, q5f1, q5f2, _⟩ := t1.out
  obtain ⟨q6c0, q6c1, q6c2, q6c3, q6f0, q6f1, q6f2, q6f3, _⟩ := t4.out
  go_wp2_with fail
  refine (toPlace_c _ p _ _ hp.out.pl hp.out.le hs1 hs2).mono ?_
  rintro e w4 ⟨uX, rfl, hX, hq⟩
  have z6 := hide ((hq).size)
  replace hp := hide (hp.out.up hq)
  replace hw0 := hide (hw0.out.up hq)
  replace t1 := hide (t1.out.up hq)
  replace t4 := hide (t4.out.up hq)
  replace hb := hide (upB hb.out hq)
  clear hq
  obtain ⟨g, n7, c7, g', n8, c8, rfl, o1, o2, hgne, hwf⟩ := hX.ex
  have hpx := hide hX.plM
  have ho1 := hide o1
  have ho2 := hide o2
  have hlx1 := hide (fun q hq => o1.row.lt q hq)
  have hlx2 := hide (fun q hq => o2.row.lt q hq)
  have hz7 := hide o1.len
  have hz8 := hide o2.len
  clear o1 o2 hX
  have z7 := hide (show (w4.alloc (.cells #[.slice (some ⟨g, 0, none⟩) n7 c7, .int .i64 p.step, .slice (some ⟨g', 0, none⟩) n8 c8] 26)).heap.size = w4.heap.size + 1 by simp)
  replace hp := hide (hp.out.up (al w4 (.cells #[.slice (some ⟨g, 0, none⟩) n7 c7, .int .i64 p.step, .slice (some ⟨g', 0, none⟩) n8 c8] 26)))
  replace hw0 := hide (hw0.out.up (al w4 (.cells #[.slice (some ⟨g, 0, none⟩) n7 c7, .int .i64 p.step, .slice (some ⟨g', 0, none⟩) n8 c8] 26)))
  replace hpx := hide (hpx.out.up (al w4 (.cells #[.slice (some ⟨g, 0, none⟩) n7 c7, .int .i64 p.step, .slice (some ⟨g', 0, none⟩) n8 c8] 26)))
  replace ho1 := hide (ho1.out.up (al w4 (.cells #[.slice (some ⟨g, 0, none⟩) n7 c7, .int .i64 p.step, .slice (some ⟨g', 0, none⟩) n8 c8] 26)))
  replace ho2 := hide (ho2.out.up (al w4 (.cells #[.slice (some ⟨g, 0, none⟩) n7 c7, .int .i64 p.step, .slice (some ⟨g', 0, none⟩) n8 c8] 26)))
  replace t1 := hide (t1.out.up (al w4 (.cells #[.slice (some ⟨g, 0, none⟩) n7 c7, .int .i64 p.step, .slice (some ⟨g', 0, none⟩) n8 c8] 26)))
  replace t4 := hide (t4.out.up (al w4 (.cells #[.slice (some ⟨g, 0, none⟩) n7 c7, .int .i64 p.step, .slice (some ⟨g', 0, none⟩) n8 c8] 26)))
  replace hb := hide (upB hb.out (al w4 (.cells #[.slice (some ⟨g, 0, none⟩) n7 c7, .int .i64 p.step, .slice (some ⟨g', 0, none⟩) n8 c8] 26)))
  have t6 := hide (TriW.made w4 (.slice (some ⟨g, 0, none⟩) n7 c7) (.int .i64 p.step) (.slice (some ⟨g', 0, none⟩) n8 c8) 26)
  clear q5c0 q5c1 q5c2 q5f0 q5f1 q5f2 q6c0 q6c1 q6c2 q6c3 q6f0 q6f1 q6f2 q6f3
  obtain ⟨q7c0, q7c1, q7c2, q7f0, q7f1, q7f2, _⟩ := t1.out
  obtain ⟨q8c0, q8c1, q8c2, q8c3, q8f0, q8f1, q8f2, q8f3, _⟩ := t4.out
  obtain ⟨q9c0, q9c1, q9c2, q9f0, q9f1, q9f2, _⟩ := t6.out
  go_wp2_with fail
  refine (HI.out _ _ hpx.out).mono ?_
  rintro e w5 ⟨u1, rfl, h1, hq⟩
  have z8 := hide ((hq).size)
  replace hp := hide (hp.out.up hq)
  replace hw0 := hide (hw0.out.up hq)
  replace hpx := hide (hpx.out.up hq)
  replace ho1 := hide (ho1.out.up hq)
  replace ho2 := hide (ho2.out.up hq)
  replace t1 := hide (t1.out.up hq)
  replace t4 := hide (t4.out.up hq)
  replace t6 := hide (t6.out.up hq)
  replace hb := hide (upB hb.out hq)
  clear hq
  have hg := hide h1.toH
  obtain ⟨A1, n1, c1, B1, m1, d1, E1, r1, s1, rfl⟩ := h1.dkM.open_
  clear h1
  have z9 := hide (show (w5.alloc (.cells #[.slice A1 n1 c1, .int .i64 R.now.step, .slice B1 m1 d1, .slice E1 r1 s1] 29)).heap.size = w5.heap.size + 1 by simp)
  replace hp := hide (hp.out.up (al w5 (.cells #[.slice A1 n1 c1, .int .i64 R.now.step, .slice B1 m1 d1, .slice E1 r1 s1] 29)))
  replace hw0 := hide (hw0.out.up (al w5 (.cells #[.slice A1 n1 c1, .int .i64 R.now.step, .slice B1 m1 d1, .slice E1 r1 s1] 29)))
  replace hpx := hide (hpx.out.up (al w5 (.cells #[.slice A1 n1 c1, .int .i64 R.now.step, .slice B1 m1 d1, .slice E1 r1 s1] 29)))
  replace ho1 := hide (ho1.out.up (al w5 (.cells #[.slice A1 n1 c1, .int .i64 R.now.step, .slice B1 m1 d1, .slice E1 r1 s1] 29)))
  replace ho2 := hide (ho2.out.up (al w5 (.cells #[.slice A1 n1 c1, .int .i64 R.now.step, .slice B1 m1 d1, .slice E1 r1 s1] 29)))
  replace hg := hide (hg.out.up (al w5 (.cells #[.slice A1 n1 c1, .int .i64 R.now.step, .slice B1 m1 d1, .slice E1 r1 s1] 29)))
  replace t1 := hide (t1.out.up (al w5 (.cells #[.slice A1 n1 c1, .int .i64 R.now.step, .slice B1 m1 d1, .slice E1 r1 s1] 29)))
  replace t4 := hide (t4.out.up (al w5 (.cells #[.slice A1 n1 c1, .int .i64 R.now.step, .slice B1 m1 d1, .slice E1 r1 s1] 29)))
  replace t6 := hide (t6.out.up (al w5 (.cells #[.slice A1 n1 c1, .int .i64 R.now.step, .slice B1 m1 d1, .slice E1 r1 s1] 29)))
  replace hb := hide (upB hb.out (al w5 (.cells #[.slice A1 n1 c1, .int .i64 R.now.step, .slice B1 m1 d1, .slice E1 r1 s1] 29)))
  have t7 := hide (QuaW.made w5 (.slice A1 n1 c1) (.int .i64 R.now.step) (.slice B1 m1 d1) (.slice E1 r1 s1) 29)
  clear q7c0 q7c1 q7c2 q7f0 q7f1 q7f2 q8c0 q8c1 q8c2 q8c3 q8f0 q8f1 q8f2 q8f3 q9c0 q9c1 q9c2 q9f0 q9f1 q9f2
  obtain ⟨q10c0, q10c1, q10c2, q10f0, q10f1, q10f2, _⟩ := t1.out
  obtain ⟨q11c0, q11c1, q11c2, q11c3, q11f0, q11f1, q11f2, q11f3, _⟩ := t4.out
  obtain ⟨q12c0, q12c1, q12c2, q12f0, q12f1, q12f2, _⟩ := t6.out
  obtain ⟨q13c0, q13c1, q13c2, q13c3, q13f0, q13f1, q13f2, q13f3, _⟩ := t7.out
  go_wp2_with fail
  refine (eqDesk_c _ _ R _ _ _ hg.out.dkM hw0.out.dkM (Nat.le_refl _) (Nat.le_refl _)).mono ?_
  rintro e w6 ⟨rfl, hq⟩
  have z10 := hide ((hq).size)
  replace hp := hide (hp.out.up hq)
  replace hw0 := hide (hw0.out.up hq)
  replace hpx := hide (hpx.out.up hq)
  replace ho1 := hide (ho1.out.up hq)
  replace ho2 := hide (ho2.out.up hq)
  replace hg := hide (hg.out.up hq)
  replace t1 := hide (t1.out.up hq)
  replace t4 := hide (t4.out.up hq)
  replace t6 := hide (t6.out.up hq)
  replace t7 := hide (t7.out.up hq)
  replace hb := hide (upB hb.out hq)
  clear hq
  have HA := hide (fun (W : World) (hq : Below w6.heap.size w6 W) => show Calls Try.prog 6 #[.agg #[.slice A n c, .int .i64 p.step, .slice A' n' c']] W (fun e w' => ∃ u, e = .returned u ∧ PlM w' w'.heap.size u p ∧ Below W.heap.size W w' ∧ Below w6.heap.size w6 w') from
    (toPlace_c _ p _ W (hp.out.up hq).pl (hp.out.up hq).le hs1 hs2).mono fun e w' ⟨u, e1, h1, h2⟩ => ⟨u, e1, h1.plM, h2, upB hq h2⟩)
  have HB := hide (fun (u : Value) (W1 W : World) (hm : PlM W1 W1.heap.size u p) (hq1 : Below W1.heap.size W1 W) (hq : Below w6.heap.size w6 W) => show Calls Try.prog 9 #[.agg #[.slice (some ⟨g, 0, none⟩) n7 c7, .int .i64 p.step, .slice (some ⟨g', 0, none⟩) n8 c8], u] W (fun e w' => e = .returned (.bool true) ∧ Below w6.heap.size w6 w') from
    (eqPlace_c _ _ p p _ _ W (hpx.out.up hq) (hm.up hq1) (Nat.le_refl _) (Nat.le_refl _)).mono fun e w' ⟨e1, h2⟩ => ⟨by rw [e1, sameP_refl], upB hq h2⟩)
  clear q10c0 q10c1 q10c2 q10f0 q10f1 q10f2 q11c0 q11c1 q11c2 q11c3 q11f0 q11f1 q11f2 q11f3 q12c0 q12c1 q12c2 q12f0 q12f1 q12f2 q13c0 q13c1 q13c2 q13c3 q13f0 q13f1 q13f2 q13f3
  obtain ⟨q14c0, q14c1, q14c2, q14f0, q14f1, q14f2, _⟩ := t1.out
  obtain ⟨q15c0, q15c1, q15c2, q15c3, q15f0, q15f1, q15f2, q15f3, _⟩ := t4.out
  obtain ⟨q16c0, q16c1, q16c2, q16f0, q16f1, q16f2, _⟩ := t6.out
  obtain ⟨q17c0, q17c1, q17c2, q17c3, q17f0, q17f1, q17f2, q17f3, _⟩ := t7.out
  go_upto_region 10 with fail
  go_cut [45] (fun v45 wx => ∃ W, W = wx ∧ v45 = .bool false ∧ Hid (Below w6.heap.size w6 W))
  case first =>
    go_wp2_with fail
    go_region_with (first | (go_at_call 6; (with_reducible refine (HA.out _ ?_).mono ?_); (focus (repeat (first | assumption | exact Below.refl _ _ | refine Below.drew ?_ | refine Below.alloc ?_ (by simp) _)); done); rintro e wa ⟨uB, rfl, hB, hqa, hqca⟩; obtain ⟨xa0, xa1, xa2, _⟩ := t6.out.up hqca; replace hqa := hide hqa; replace hqca := hide hqca) | (go_at_call 9; (with_reducible refine (HB.out _ _ _ hB ?_ ?_).mono ?_); (first | exact Below.refl _ _ | exact (Below.refl _ _).drew); (first | exact hqca.out | exact hqca.out.drew); rintro e wb ⟨rfl, hqcb⟩; replace hqcb := hide hqcb))
    all_goals
      go_wp2_with fail
      go_meet
      first
      | exact ⟨_, rfl, rfl, hqcb⟩
      | exact ⟨_, rfl, rfl, hide hqcb.out.drew⟩
  case rest =>
    clear q14c0 q14c1 q14c2 q14f0 q14f1 q14f2 q15c0 q15c1 q15c2 q15c3 q15f0 q15f1 q15f2 q15f3 q16c0 q16c1 q16c2 q16f0 q16f1 q16f2 q17c0 q17c1 q17c2 q17c3 q17f0 q17f1 q17f2 q17f3
    obtain ⟨w7, rfl, rfl, hqc⟩ := hcut
    replace hqc := hqc.out
    clear HA HB
    have z11 := hide ((hqc).size)
    replace hp := hide (hp.out.up hqc)
    replace hw0 := hide (hw0.out.up hqc)
    replace hpx := hide (hpx.out.up hqc)
    replace ho1 := hide (ho1.out.up hqc)
    replace ho2 := hide (ho2.out.up hqc)
    replace hg := hide (hg.out.up hqc)
    replace t1 := hide (t1.out.up hqc)
    replace t4 := hide (t4.out.up hqc)
    replace t6 := hide (t6.out.up hqc)
    replace t7 := hide (t7.out.up hqc)
    replace hb := hide (upB hb.out hqc)
    clear hqc
    obtain ⟨q18c0, q18c1, q18c2, q18f0, q18f1, q18f2, _⟩ := t1.out
    obtain ⟨q19c0, q19c1, q19c2, q19c3, q19f0, q19f1, q19f2, q19f3, _⟩ := t4.out
    obtain ⟨q20c0, q20c1, q20c2, q20f0, q20f1, q20f2, _⟩ := t6.out
    obtain ⟨q21c0, q21c1, q21c2, q21c3, q21f0, q21f1, q21f2, q21f3, _⟩ := t7.out
    go_wp2_with fail
    refine (markPlaceZ_c (some ⟨g, 0, none⟩) n7 c7 p.step (some ⟨g', 0, none⟩) n8 c8 (w3.alloc (.cells #[.slice A0 n0 c0, .int .i64 R.now.step, .slice B0 m0 d0, .slice E0 r0 s0] 29)).heap.size w4.heap.size 1 p.start p.word _ ho1.out ho2.out (.inr (by simp [Value.ownBlock]; exact hgne)) (fun q hq => (hlx1.out q hq).2) (fun q hq => (hlx2.out q hq).2) (by omega) (by omega) (by have := hz7.out; omega) (by have := hz8.out; omega)).mono ?_
    rintro e w8 ⟨rfl, _, _, hO⟩
    have yz1 := z1.out
    have yz2 := z2.out
    have yz3 := z3.out
    have yz4 := z4.out
    have yz5 := z5.out
    have yz6 := z6.out
    have yz7 := z7.out
    have yz8 := z8.out
    have yz9 := z9.out
    have yz10 := z10.out
    have yz11 := z11.out
    replace hp := hide (hp.out.only hO (by omega))
    replace hw0 := hide (hw0.out.only hO (by omega))
    replace hg := hide (hg.out.only hO (by first | exact .inl (by omega) | exact .inr (by omega)))
    replace t1 := hide (t1.out.only hO (by first | exact .inl (by omega) | exact .inr (by omega)))
    replace t4 := hide (t4.out.only hO (by first | exact .inl (by omega) | exact .inr (by omega)))
    replace t6 := hide (t6.out.only hO (by first | exact .inl (by omega) | exact .inr (by omega)))
    replace t7 := hide (t7.out.only hO (by first | exact .inl (by omega) | exact .inr (by omega)))
    replace hb := hide (belowSize hb.out hO (by omega))
    clear yz1 yz2 yz3 yz4 yz5 yz6 yz7 yz8 yz9 yz10 yz11
    have z12 := hide (hO.size)
    clear hO
    clear ho1 ho2 hpx hlx1 hlx2
    obtain ⟨K, hK⟩ : ∃ K : Int, Hid (1 + (n7 : Int) + (n8 : Int) = K) := ⟨_, hide rfl⟩
    rw [hK.out]
    have hK0 : 0 ≤ K := by have := hK.out; omega
    clear q18c0 q18c1 q18c2 q18f0 q18f1 q18f2 q19c0 q19c1 q19c2 q19c3 q19f0 q19f1 q19f2 q19f3 q20c0 q20c1 q20c2 q20f0 q20f1 q20f2 q21c0 q21c1 q21c2 q21c3 q21f0 q21f1 q21f2 q21f3
    obtain ⟨q22c0, q22c1, q22c2, q22f0, q22f1, q22f2, _⟩ := t1.out
    obtain ⟨q23c0, q23c1, q23c2, q23c3, q23f0, q23f1, q23f2, q23f3, _⟩ := t4.out
    obtain ⟨q24c0, q24c1, q24c2, q24f0, q24f1, q24f2, _⟩ := t6.out
    obtain ⟨q25c0, q25c1, q25c2, q25c3, q25f0, q25f1, q25f2, q25f3, _⟩ := t7.out
    go_wp2_with fail
    refine (eqDesk_c _ _ R _ _ _ hg.out.dkM hw0.out.dkM (Nat.le_refl _) (Nat.le_refl _)).mono ?_
    rintro e w9 ⟨rfl, hq⟩
    have z13 := hide ((hq).size)
    replace hp := hide (hp.out.up hq)
    replace hw0 := hide (hw0.out.up hq)
    replace hg := hide (hg.out.up hq)
    replace t1 := hide (t1.out.up hq)
    replace t4 := hide (t4.out.up hq)
    replace t6 := hide (t6.out.up hq)
    replace t7 := hide (t7.out.up hq)
    replace hb := hide (upB hb.out hq)
    clear hq
    clear q22c0 q22c1 q22c2 q22f0 q22f1 q22f2 q23c0 q23c1 q23c2 q23c3 q23f0 q23f1 q23f2 q23f3 q24c0 q24c1 q24c2 q24f0 q24f1 q24f2 q25c0 q25c1 q25c2 q25c3 q25f0 q25f1 q25f2 q25f3
    obtain ⟨q26c0, q26c1, q26c2, q26f0, q26f1, q26f2, _⟩ := t1.out
    obtain ⟨q27c0, q27c1, q27c2, q27c3, q27f0, q27f1, q27f2, q27f3, _⟩ := t4.out
    obtain ⟨q28c0, q28c1, q28c2, q28f0, q28f1, q28f2, _⟩ := t6.out
    obtain ⟨q29c0, q29c1, q29c2, q29c3, q29f0, q29f1, q29f2, q29f3, _⟩ := t7.out
    go_wp2_with fail
    refine (markDesk_c _ R 1 _ _ _ hg.out (by have := z1.out; have := z2.out; have := z3.out; have := z4.out; have := z5.out; have := z6.out; have := z7.out; have := z8.out; have := z9.out; have := z10.out; have := z11.out; have := z12.out; have := z13.out; omega) hRs.out (by omega) (by omega)).mono ?_
    rintro e w10 ⟨rfl, hgm, hO⟩
    have yz1 := z1.out
    have yz2 := z2.out
    have yz3 := z3.out
    have yz4 := z4.out
    have yz5 := z5.out
    have yz6 := z6.out
    have yz7 := z7.out
    have yz8 := z8.out
    have yz9 := z9.out
    have yz10 := z10.out
    have yz11 := z11.out
    have yz12 := z12.out
    have yz13 := z13.out
    replace hp := hide (hp.out.only hO (by omega))
    replace hw0 := hide (hw0.out.only hO (by omega))
    replace t1 := hide (t1.out.only hO (by first | exact .inl (by omega) | exact .inr (by omega)))
    replace t4 := hide (t4.out.only hO (by first | exact .inl (by omega) | exact .inr (by omega)))
    replace t6 := hide (t6.out.only hO (by first | exact .inl (by omega) | exact .inr (by omega)))
    replace t7 := hide (t7.out.only hO (by first | exact .inl (by omega) | exact .inr (by omega)))
    replace hb := hide (belowSize hb.out hO (by omega))
    clear yz1 yz2 yz3 yz4 yz5 yz6 yz7 yz8 yz9 yz10 yz11 yz12 yz13
    have z14 := hide (hO.size)
    clear hO
    replace hg := hide hgm
    clear hgm
    have hE := endDk_le (k := 1) hRs.out
    obtain ⟨E, hEE⟩ : ∃ E : Int, Hid (endDk R 1 = E) := ⟨_, hide rfl⟩
    rw [hEE.out] at hE ⊢
    have hE0 : 0 ≤ E := by omega
    clear hE
    have HHa := hide (fun (W : World) (h : DkM W W.heap.size _ (mrkDk R 1)) => heldDesk_c (.agg #[.slice A1 n1 c1, .int .i64 R.now.step, .slice B1 m1 d1, .slice E1 r1 s1]) R 1 W h hRs.out (by omega) (by omega))
    rw [hEE.out] at HHa
    clear q26c0 q26c1 q26c2 q26f0 q26f1 q26f2 q27c0 q27c1 q27c2 q27c3 q27f0 q27f1 q27f2 q27f3 q28c0 q28c1 q28c2 q28f0 q28f1 q28f2 q29c0 q29c1 q29c2 q29c3 q29f0 q29f1 q29f2 q29f3
    obtain ⟨q30c0, q30c1, q30c2, q30f0, q30f1, q30f2, _⟩ := t1.out
    obtain ⟨q31c0, q31c1, q31c2, q31c3, q31f0, q31f1, q31f2, q31f3, _⟩ := t4.out
    obtain ⟨q32c0, q32c1, q32c2, q32f0, q32f1, q32f2, _⟩ := t6.out
    obtain ⟨q33c0, q33c1, q33c2, q33c3, q33f0, q33f1, q33f2, q33f3, _⟩ := t7.out
    go_wp2_with fail
    refine (HHa.out _ hg.out.dkM).mono ?_
    rintro e w11 ⟨rfl, hq⟩
    have z15 := hide ((hq).size)
    replace hp := hide (hp.out.up hq)
    replace hw0 := hide (hw0.out.up hq)
    replace hg := hide (hg.out.up hq)
    replace t1 := hide (t1.out.up hq)
    replace t4 := hide (t4.out.up hq)
    replace t6 := hide (t6.out.up hq)
    replace t7 := hide (t7.out.up hq)
    replace hb := hide (upB hb.out hq)
    clear hq
    clear HHa
    clear q30c0 q30c1 q30c2 q30f0 q30f1 q30f2 q31c0 q31c1 q31c2 q31c3 q31f0 q31f1 q31f2 q31f3 q32c0 q32c1 q32c2 q32f0 q32f1 q32f2 q33c0 q33c1 q33c2 q33c3 q33f0 q33f1 q33f2 q33f3
    obtain ⟨q34c0, q34c1, q34c2, q34f0, q34f1, q34f2, _⟩ := t1.out
    obtain ⟨q35c0, q35c1, q35c2, q35c3, q35f0, q35f1, q35f2, q35f3, _⟩ := t4.out
    obtain ⟨q36c0, q36c1, q36c2, q36f0, q36f1, q36f2, _⟩ := t6.out
    obtain ⟨q37c0, q37c1, q37c2, q37c3, q37f0, q37f1, q37f2, q37f3, _⟩ := t7.out
    go_wp2_with fail
    refine (toPlace_c _ p _ _ hp.out.pl hp.out.le hs1 hs2).mono ?_
    rintro e w12 ⟨uC, rfl, hC, hq⟩
    have z16 := hide ((hq).size)
    replace hp := hide (hp.out.up hq)
    replace hw0 := hide (hw0.out.up hq)
    replace hg := hide (hg.out.up hq)
    replace t1 := hide (t1.out.up hq)
    replace t4 := hide (t4.out.up hq)
    replace t6 := hide (t6.out.up hq)
    replace t7 := hide (t7.out.up hq)
    replace hb := hide (upB hb.out hq)
    clear hq
    clear q34c0 q34c1 q34c2 q34f0 q34f1 q34f2 q35c0 q35c1 q35c2 q35c3 q35f0 q35f1 q35f2 q35f3 q36c0 q36c1 q36c2 q36f0 q36f1 q36f2 q37c0 q37c1 q37c2 q37c3 q37f0 q37f1 q37f2 q37f3
    obtain ⟨q38c0, q38c1, q38c2, q38f0, q38f1, q38f2, _⟩ := t1.out
    obtain ⟨q39c0, q39c1, q39c2, q39c3, q39f0, q39f1, q39f2, q39f3, _⟩ := t4.out
    obtain ⟨q40c0, q40c1, q40c2, q40f0, q40f1, q40f2, _⟩ := t6.out
    obtain ⟨q41c0, q41c1, q41c2, q41c3, q41f0, q41f1, q41f2, q41f3, _⟩ := t7.out
    go_wp2_with fail
    refine (HI.out _ _ hC.plM).mono ?_
    rintro e w13 ⟨u2, rfl, h2, hq⟩
    have z17 := hide ((hq).size)
    replace hp := hide (hp.out.up hq)
    replace hw0 := hide (hw0.out.up hq)
    replace hg := hide (hg.out.up hq)
    replace t1 := hide (t1.out.up hq)
    replace t4 := hide (t4.out.up hq)
    replace t6 := hide (t6.out.up hq)
    replace t7 := hide (t7.out.up hq)
    replace hb := hide (upB hb.out hq)
    clear hq
    have hh := hide (show DkB w13 w13.heap.size u2 R from ⟨h2.dkM, Nat.le_refl _⟩)
    obtain ⟨A2, n2, c2, B2, m2, d2, E2, r2, s2, rfl⟩ := h2.dkM.open_
    clear h2
    have z18 := hide (show (w13.alloc (.cells #[.slice A2 n2 c2, .int .i64 R.now.step, .slice B2 m2 d2, .slice E2 r2 s2] 29)).heap.size = w13.heap.size + 1 by simp)
    replace hp := hide (hp.out.up (al w13 (.cells #[.slice A2 n2 c2, .int .i64 R.now.step, .slice B2 m2 d2, .slice E2 r2 s2] 29)))
    replace hw0 := hide (hw0.out.up (al w13 (.cells #[.slice A2 n2 c2, .int .i64 R.now.step, .slice B2 m2 d2, .slice E2 r2 s2] 29)))
    replace hg := hide (hg.out.up (al w13 (.cells #[.slice A2 n2 c2, .int .i64 R.now.step, .slice B2 m2 d2, .slice E2 r2 s2] 29)))
    replace hh := hide (hh.out.up (al w13 (.cells #[.slice A2 n2 c2, .int .i64 R.now.step, .slice B2 m2 d2, .slice E2 r2 s2] 29)))
    replace t1 := hide (t1.out.up (al w13 (.cells #[.slice A2 n2 c2, .int .i64 R.now.step, .slice B2 m2 d2, .slice E2 r2 s2] 29)))
    replace t4 := hide (t4.out.up (al w13 (.cells #[.slice A2 n2 c2, .int .i64 R.now.step, .slice B2 m2 d2, .slice E2 r2 s2] 29)))
    replace t6 := hide (t6.out.up (al w13 (.cells #[.slice A2 n2 c2, .int .i64 R.now.step, .slice B2 m2 d2, .slice E2 r2 s2] 29)))
    replace t7 := hide (t7.out.up (al w13 (.cells #[.slice A2 n2 c2, .int .i64 R.now.step, .slice B2 m2 d2, .slice E2 r2 s2] 29)))
    replace hb := hide (upB hb.out (al w13 (.cells #[.slice A2 n2 c2, .int .i64 R.now.step, .slice B2 m2 d2, .slice E2 r2 s2] 29)))
    have t9 := hide (QuaW.made w13 (.slice A2 n2 c2) (.int .i64 R.now.step) (.slice B2 m2 d2) (.slice E2 r2 s2) 29)
    clear q38c0 q38c1 q38c2 q38f0 q38f1 q38f2 q39c0 q39c1 q39c2 q39c3 q39f0 q39f1 q39f2 q39f3 q40c0 q40c1 q40c2 q40f0 q40f1 q40f2 q41c0 q41c1 q41c2 q41c3 q41f0 q41f1 q41f2 q41f3
    obtain ⟨q42c0, q42c1, q42c2, q42f0, q42f1, q42f2, _⟩ := t1.out
    obtain ⟨q43c0, q43c1, q43c2, q43c3, q43f0, q43f1, q43f2, q43f3, _⟩ := t4.out
    obtain ⟨q44c0, q44c1, q44c2, q44f0, q44f1, q44f2, _⟩ := t6.out
    obtain ⟨q45c0, q45c1, q45c2, q45c3, q45f0, q45f1, q45f2, q45f3, _⟩ := t7.out
    obtain ⟨q46c0, q46c1, q46c2, q46c3, q46f0, q46f1, q46f2, q46f3, _⟩ := t9.out
    go_wp2_with fail
    refine (eqDesk_c _ _ R _ _ _ hh.out.dkM hw0.out.dkM (Nat.le_refl _) (Nat.le_refl _)).mono ?_
    rintro e w14 ⟨rfl, hq⟩
    have z19 := hide ((hq).size)
    replace hp := hide (hp.out.up hq)
    replace hw0 := hide (hw0.out.up hq)
    replace hg := hide (hg.out.up hq)
    replace hh := hide (hh.out.up hq)
    replace t1 := hide (t1.out.up hq)
    replace t4 := hide (t4.out.up hq)
    replace t6 := hide (t6.out.up hq)
    replace t7 := hide (t7.out.up hq)
    replace t9 := hide (t9.out.up hq)
    replace hb := hide (upB hb.out hq)
    clear hq
    clear hh
    have HHb := hide (fun (W : World) (h : DkM W W.heap.size _ (mrkDk R 1)) => heldDesk_c (.agg #[.slice A1 n1 c1, .int .i64 R.now.step, .slice B1 m1 d1, .slice E1 r1 s1]) R 1 W h hRs.out (by omega) (by omega))
    rw [hEE.out] at HHb
    clear q42c0 q42c1 q42c2 q42f0 q42f1 q42f2 q43c0 q43c1 q43c2 q43c3 q43f0 q43f1 q43f2 q43f3 q44c0 q44c1 q44c2 q44f0 q44f1 q44f2 q45c0 q45c1 q45c2 q45c3 q45f0 q45f1 q45f2 q45f3 q46c0 q46c1 q46c2 q46c3 q46f0 q46f1 q46f2 q46f3
    obtain ⟨q47c0, q47c1, q47c2, q47f0, q47f1, q47f2, _⟩ := t1.out
    obtain ⟨q48c0, q48c1, q48c2, q48c3, q48f0, q48f1, q48f2, q48f3, _⟩ := t4.out
    obtain ⟨q49c0, q49c1, q49c2, q49f0, q49f1, q49f2, _⟩ := t6.out
    obtain ⟨q50c0, q50c1, q50c2, q50c3, q50f0, q50f1, q50f2, q50f3, _⟩ := t7.out
    obtain ⟨q51c0, q51c1, q51c2, q51c3, q51f0, q51f1, q51f2, q51f3, _⟩ := t9.out
    go_wp2_with fail
    refine (HHb.out _ hg.out.dkM).mono ?_
    rintro e w15 ⟨rfl, hq⟩
    have z20 := hide ((hq).size)
    replace hp := hide (hp.out.up hq)
    replace hw0 := hide (hw0.out.up hq)
    replace hg := hide (hg.out.up hq)
    replace t1 := hide (t1.out.up hq)
    replace t4 := hide (t4.out.up hq)
    replace t6 := hide (t6.out.up hq)
    replace t7 := hide (t7.out.up hq)
    replace t9 := hide (t9.out.up hq)
    replace hb := hide (upB hb.out hq)
    clear hq
    clear HHb
    clear q47c0 q47c1 q47c2 q47f0 q47f1 q47f2 q48c0 q48c1 q48c2 q48c3 q48f0 q48f1 q48f2 q48f3 q49c0 q49c1 q49c2 q49f0 q49f1 q49f2 q50c0 q50c1 q50c2 q50c3 q50f0 q50f1 q50f2 q50f3 q51c0 q51c1 q51c2 q51c3 q51f0 q51f1 q51f2 q51f3
    obtain ⟨q52c0, q52c1, q52c2, q52f0, q52f1, q52f2, _⟩ := t1.out
    obtain ⟨q53c0, q53c1, q53c2, q53c3, q53f0, q53f1, q53f2, q53f3, _⟩ := t4.out
    obtain ⟨q54c0, q54c1, q54c2, q54f0, q54f1, q54f2, _⟩ := t6.out
    obtain ⟨q55c0, q55c1, q55c2, q55c3, q55f0, q55f1, q55f2, q55f3, _⟩ := t7.out
    obtain ⟨q56c0, q56c1, q56c2, q56c3, q56f0, q56f1, q56f2, q56f3, _⟩ := t9.out
    go_wp2_with fail
    go_ret
    exact ⟨rfl, hb.out⟩
end Go.Proofs.Ytoafpokcbbncfaa
