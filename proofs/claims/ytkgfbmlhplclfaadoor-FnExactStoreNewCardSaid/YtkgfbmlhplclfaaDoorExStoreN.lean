/-
  Exact laws of chapter 14 walked: StoreNew (written by wip/gen_f14.py).
-/
import Derived.Test.YtkgfbmlhplclfaaDoorStoreI
import Derived.Test.YtkgfbmlhplclfaaDoorStoreN
import Derived.Test.YtkgfbmlhplclfaaDoorPlaceX
import Derived.Test.YtkgfbmlhplclfaaDoorZdraw
namespace Go.Proofs.YtkgfbmlhplclfaaDoor
open Go.RowKit
set_option linter.unusedVariables false

set_option maxRecDepth 100000 in
set_option maxHeartbeats 3200000 in
theorem exStoreNew {v : Value} {p : Plc} {w : World} (h : PlM w w.heap.size v p) (hL : LaidT w) :
    Calls Tryd.prog 3 #[v] w fun e w' => e = .returned (.bool true) ∧ Below w.heap.size w w' := by
  obtain ⟨A, n, c, A', n', c', rfl, i1, i2, hwf⟩ := h.ex
  have hq0 := hide (show Below w.heap.size w (w.alloc (.cells #[.slice A n c, .int .i64 p.step, .slice A' n' c'] 24)) from al w _)
  have ht := hide (show Tri (w.alloc (.cells #[.slice A n c, .int .i64 p.step, .slice A' n' c'] 24)) w.heap.size (.slice A n c) (.int .i64 p.step) (.slice A' n' c') from Tri.made w _ _ _ _)
  obtain ⟨WX, hW0⟩ : ∃ W, Hid ((w.alloc (.cells #[.slice A n c, .int .i64 p.step, .slice A' n' c'] 24)) = W) := ⟨_, hide rfl⟩
  rw [hW0.out] at hq0 ht
  have hv := hide (h.up hq0.out)
  have HS := hide (szPlace_c _ p _ 1048576 WX hv.out (Nat.le_refl _) (by omega) (by omega))
  obtain ⟨t0, t1, t2, _⟩ := ht.out
  have hW1 := hW0.out
  subst hW1
  go_enter Tryd.func3, Tryd.ntmps3
  go_wp2_with fail
  refine HS.out.mono ?_
  rintro e w1 ⟨⟨x, rfl, hx1, hx2, hx3⟩, hq1⟩
  clear HS
  have ht1 := hide (ht.out.up hq1)
  have hv1 := hide (hv.out.up hq1)
  have hb1 := hide (upB hq0.out hq1)
  clear hq1
  by_cases hx : x < 0
  · go_wp2_with fail
    go_ret
    exact ⟨rfl, hb1.out⟩
  have hsm := hide (hx3.out (by omega))
  have hl1 : p.start.length ≤ 1048576 := by have := hsm.out; omega
  have hl2 : p.word.length ≤ 1048576 := by have := hsm.out; omega
  clear hx3
  obtain ⟨a0, a1, a2, _⟩ := ht1.out
  have HT1 := hide (toPlace_c _ p _ w1 hv1.out (Nat.le_refl _) hl1 hl2)
  go_wp2_with fail
  refine HT1.out.mono ?_
  rintro e w2 ⟨u2, rfl, ho2, hq2⟩
  clear HT1
  have ht2 := hide (ht1.out.up hq2)
  have hv2 := hide (hv1.out.up hq2)
  have hb2 := hide (upB hb1.out hq2)
  have hP2 := hide ho2.plM
  clear hq2 ho2
  obtain ⟨R, hR⟩ : ∃ R, Hid (newX p = R) := ⟨_, hide rfl⟩
  obtain ⟨K, hK⟩ : ∃ K, Hid (placeOk p = K) := ⟨_, hide rfl⟩
  have HS2 := hide (storeNew_spec _ p _ w2 hP2.out (Nat.le_refl _))
  rw [hR.out, hK.out] at HS2
  go_wp2_with fail
  refine HS2.out.mono ?_
  rintro e w3 ⟨rfl, hq3⟩
  clear HS2
  have ht3 := hide (ht2.out.up hq3)
  have hv3 := hide (hv2.out.up hq3)
  have hb3 := hide (upB hb2.out hq3)
  clear hq3 hP2
  have hqa := hide (al w3 (.cells #[.string R.saved, .string R.log, .int .i64 R.sure] 27))
  have ts := hide (Tri.made w3 (.string R.saved) (.string R.log) (.int .i64 R.sure) 27)
  have ht3 := hide (ht3.out.up hqa.out)
  have hv3 := hide (hv3.out.up hqa.out)
  have hb3 := hide (upB hb3.out hqa.out)
  obtain ⟨b0, b1, b2, _⟩ := ht3.out
  have HT3 := hide (toPlace_c _ p _ (w3.alloc (.cells #[.string R.saved, .string R.log, .int .i64 R.sure] 27)) hv3.out (Nat.le_refl _) hl1 hl2)
  go_wp2_with fail
  refine HT3.out.mono ?_
  rintro e w4 ⟨u4, rfl, ho4, hq4⟩
  clear HT3
  have ht4 := hide (ht3.out.up hq4)
  have hv4 := hide (hv3.out.up hq4)
  have hb4 := hide (upB hb3.out hq4)
  have ts := hide (ts.out.up hq4)
  clear hq4
  have ho4b := hide ho4
  obtain ⟨g, m, d, g', m', d', rfl, o1, o2, hne, hwf4⟩ := ho4.ex
  clear ho4
  have hq5 := hide (show Below w4.heap.size w4 (w4.alloc (.cells #[.slice (some ⟨g, 0, none⟩) m d, .int .i64 p.step, .slice (some ⟨g', 0, none⟩) m' d'] 30)) from (al w4 _))
  have hx5 := hide (show TriW (w4.alloc (.cells #[.slice (some ⟨g, 0, none⟩) m d, .int .i64 p.step, .slice (some ⟨g', 0, none⟩) m' d'] 30)) w4.heap.size (.slice (some ⟨g, 0, none⟩) m d) (.int .i64 p.step) (.slice (some ⟨g', 0, none⟩) m' d') from (TriW.made w4 (.slice (some ⟨g, 0, none⟩) m d) (.int .i64 p.step) (.slice (some ⟨g', 0, none⟩) m' d') 30))
  have ho5 := hide (ho4b.out.up hq5.out)
  have ht5 := hide (ht4.out.up hq5.out)
  have hv5 := hide (hv4.out.up hq5.out)
  have hb5 := hide (upB hb4.out hq5.out)
  have ts := hide (ts.out.up hq5.out)
  obtain ⟨x0, x1, x2, s0, s1, s2, _⟩ := hx5.out
  go_wp2_with fail
  obtain ⟨w5, hw5⟩ : ∃ W, Hid ((w4.alloc (.cells #[.slice (some ⟨g, 0, none⟩) m d, .int .i64 p.step, .slice (some ⟨g', 0, none⟩) m' d'] 30)) = W) := ⟨_, hide rfl⟩
  have hlt := hide hx5.out.lt
  rw [hw5.out] at ho5 ht5 hv5 hb5 hx5 hlt ts ⊢
  have hP5 := hide ho5.out.plM
  have HI := hide (storeNew_impl _ p _ w5 hP5.out (Nat.le_refl _) (hL.up hb5.out))
  rw [hR.out, hK.out] at HI
  refine HI.out.mono ?_
  rintro e w6 ⟨rfl, hq6⟩
  clear HI
  have ht6 := hide (ht5.out.up hq6)
  have hv6 := hide (hv5.out.up hq6)
  have hb6 := hide (upB hb5.out hq6)
  have hx6 := hide (hx5.out.up hq6)
  have hP6 := hide (hP5.out.up hq6)
  have ts := hide (ts.out.up hq6)
  clear hq6
  have hqg := hide (al w6 (.cells #[.string R.saved, .string R.log, .int .i64 R.sure] 27))
  have tg := hide (Tri.made w6 (.string R.saved) (.string R.log) (.int .i64 R.sure) 27)
  have ht6b := hide (ht6.out.up hqg.out)
  have hv6b := hide (hv6.out.up hqg.out)
  have hb6b := hide (upB hb6.out hqg.out)
  have hx6b := hide (hx6.out.up hqg.out)
  have hP6b := hide (hP6.out.up hqg.out)
  have ts := hide (ts.out.up hqg.out)
  clear ht5 ht4 ht3 ht2 ht1 hx5
  obtain ⟨u0, u1, u2, _⟩ := ts.out
  obtain ⟨v0, v1, v2, _⟩ := tg.out
  obtain ⟨y0, y1, y2, _⟩ := ht6b.out
  obtain ⟨z0, z1, z2, _⟩ := hx6b.out
  go_wp2_with fail
  refine (eqStore_c R _).mono ?_
  rintro e w7 ⟨rfl, hq7⟩
  have ht7 := hide (ht6b.out.up hq7)
  have hv7 := hide (hv6b.out.up hq7)
  have hb7 := hide (upB hb6b.out hq7)
  have hx7 := hide (hx6b.out.up hq7)
  have hP7 := hide (hP6b.out.up hq7)
  have ts := hide (ts.out.up hq7)
  clear hq7 ts tg u0 u1 u2 v0 v1 v2 y0 y1 y2 z0 z1 z2
  have HA := hide (fun (W : World) (hq : Below w7.heap.size w7 W) => show Calls Tryd.prog 6 #[.agg #[.slice A n c, .int .i64 p.step, .slice A' n' c']] W (fun e w' => ∃ u, e = .returned u ∧ PlM w' w'.heap.size u p ∧ Below w7.heap.size w7 w' ∧ w'.cell? ⟨w.heap.size, 0, none⟩ = some (.slice A n c) ∧ w'.cell? ⟨w.heap.size, 1, none⟩ = some (.int .i64 p.step) ∧ w'.cell? ⟨w.heap.size, 2, none⟩ = some (.slice A' n' c') ∧ w'.cell? ⟨w4.heap.size, 0, none⟩ = some (.slice (some ⟨g, 0, none⟩) m d) ∧ w'.cell? ⟨w4.heap.size, 1, none⟩ = some (.int .i64 p.step) ∧ w'.cell? ⟨w4.heap.size, 2, none⟩ = some (.slice (some ⟨g', 0, none⟩) m' d')) from
    (toPlace_c _ p _ W (hv7.out.up hq) (Nat.le_refl _) hl1 hl2).mono fun e w' ⟨u, e1, ho, hq'⟩ => by
      have hk1 := ht7.out.up (upB hq hq')
      have hk2 := hx7.out.up (upB hq hq')
      exact ⟨u, e1, ho.plM, upB hq hq', hk1.c0, hk1.c1, hk1.c2, hk2.c0, hk2.c1, hk2.c2⟩)
  have HB := hide (fun (u : Value) (W1 W : World) (hm : PlM W1 W1.heap.size u p) (hq1 : Below W1.heap.size W1 W) (hq : Below w7.heap.size w7 W) => show Calls Tryd.prog 9 #[.agg #[.slice (some ⟨g, 0, none⟩) m d, .int .i64 p.step, .slice (some ⟨g', 0, none⟩) m' d'], u] W (fun e w' => e = .returned (.bool true) ∧ Below w7.heap.size w7 w' ∧ w'.cell? ⟨w.heap.size, 0, none⟩ = some (.slice A n c) ∧ w'.cell? ⟨w.heap.size, 1, none⟩ = some (.int .i64 p.step) ∧ w'.cell? ⟨w.heap.size, 2, none⟩ = some (.slice A' n' c') ∧ w'.cell? ⟨w4.heap.size, 0, none⟩ = some (.slice (some ⟨g, 0, none⟩) m d) ∧ w'.cell? ⟨w4.heap.size, 1, none⟩ = some (.int .i64 p.step) ∧ w'.cell? ⟨w4.heap.size, 2, none⟩ = some (.slice (some ⟨g', 0, none⟩) m' d')) from
    (eqPlace_c _ _ p p _ _ W (hP7.out.up hq) (hm.up hq1) (Nat.le_refl _) (Nat.le_refl _)).mono fun e w' ⟨e1, hq'⟩ => by
      have hk1 := ht7.out.up (upB hq hq')
      have hk2 := hx7.out.up (upB hq hq')
      rw [sameP_refl] at e1
      exact ⟨e1, upB hq hq', hk1.c0, hk1.c1, hk1.c2, hk2.c0, hk2.c1, hk2.c2⟩)
  obtain ⟨f0, f1, f2, _⟩ := ht7.out
  obtain ⟨e0, e1, e2, _⟩ := hx7.out
  go_wp2_with fail
  go_region_held3 (fun W => W.cell? ⟨w.heap.size, 0, none⟩ = some (.slice A n c) ∧ W.cell? ⟨w.heap.size, 1, none⟩ = some (.int .i64 p.step) ∧ W.cell? ⟨w.heap.size, 2, none⟩ = some (.slice A' n' c') ∧ W.cell? ⟨w4.heap.size, 0, none⟩ = some (.slice (some ⟨g, 0, none⟩) m d) ∧ W.cell? ⟨w4.heap.size, 1, none⟩ = some (.int .i64 p.step) ∧ W.cell? ⟨w4.heap.size, 2, none⟩ = some (.slice (some ⟨g', 0, none⟩) m' d')) (first | exact ⟨f0, f1, f2, e0, e1, e2⟩ | exact ⟨k0, k1, k2, k3, k4, k5⟩ | exact ⟨m0, m1, m2, m3, m4, m5⟩) (first | (go_at_call 6; (with_reducible refine (HA.out _ ?_).mono ?_); (focus (repeat (first | assumption | exact Below.refl _ _ | refine Below.drew ?_)); done); rintro e w' ⟨u, rfl, hm, hq, k0, k1, k2, k3, k4, k5⟩) | (go_at_call 9; (with_reducible refine (HB.out _ _ _ hm ?_ ?_).mono ?_); (focus (repeat (first | assumption | exact Below.refl _ _ | refine Below.drew ?_)); done); (focus (repeat (first | assumption | exact Below.refl _ _ | refine Below.drew ?_)); done); rintro e w' ⟨rfl, hq, m0, m1, m2, m3, m4, m5⟩))
  all_goals
    go_wp2_with fail
    go_ret
    exact ⟨rfl, upB hb7.out (by assumption)⟩
end Go.Proofs.YtkgfbmlhplclfaaDoor
