/-
  Laws of chapter 14 walked: FnDeskNew (written by wip/gen_f4.py).
-/
import Derived.Test.YtpnjihpdipoajaaDrawPo
import Derived.Test.YtpnjihpdipoajaaDskNI
import Derived.Test.YtpnjihpdipoajaaEqD
import Derived.Test.YtpnjihpdipoajaaPlaceI
import Derived.Test.YtpnjihpdipoajaaZdraw
namespace Go.Proofs.Ytpnjihpdipoajaa
open Go.RowKit
set_option linter.unusedVariables false

set_option maxRecDepth 100000 in
set_option maxHeartbeats 3200000 in
theorem lawDeskNew {A : Option Addr} {n c : Nat} {bs : List Int} {w : World} (h : Bts w w.heap.size A n c bs) :
    Calls Try.prog 5 #[.slice A n c] w fun e w' => e = .returned (.bool true) ∧ Below w.heap.size w w' := by
  have hbig := h.big
  have hle := h.le
  unfold maxLen at hbig
  by_cases hn : 1048576 < n
  · go_enter Try.func5, Try.ntmps5
    go_wp2
    go_ret
    exact ⟨rfl, Below.refl _ _⟩
  ·
    have hDr := hide (DrawDeskNew_c A n c bs w h)
    go_enter Try.func5, Try.ntmps5
    go_wp2_with fail
    refine hDr.out.mono ?_
    rintro e w0 ⟨u, p, rfl, hp, hl1, hl2, hb⟩
    replace hb := hide hb
    obtain ⟨Ap, np, cp, Bp, mp, dp, rfl, i1, i2, hwf⟩ := hp.ex
    clear i1 i2 hDr hl1 hl2
    replace hp := hide hp
    replace hp := hide (hp.out.up (al w0 (.cells #[.slice Ap np cp, .int .i64 p.step, .slice Bp mp dp] 25)))
    replace hb := hide (upB hb.out (al w0 (.cells #[.slice Ap np cp, .int .i64 p.step, .slice Bp mp dp] 25)))
    have t3 := hide (TriW.made w0 (.slice Ap np cp) (.int .i64 p.step) (.slice Bp mp dp) 25)
    cases hV : placeOk p with
    | false =>
      have hnd := hide (show newDsk p = noDsk by unfold newDsk; rw [hV]; rfl)
      have HI := hide (deskNew_impl _ p _ _ hp.out (Nat.le_refl _))
      have HS := hide (fun (W : World) (hp : PlM W W.heap.size (.agg #[.slice Ap np cp, .int .i64 p.step, .slice Bp mp dp]) p) => deskNew_spec _ p _ W hp (Nat.le_refl _))
      have HO := hide (fun (W : World) (hp : PlM W W.heap.size (.agg #[.slice Ap np cp, .int .i64 p.step, .slice Bp mp dp]) p) => placeOk_impl _ p _ W hp (Nat.le_refl _))
      rw [hV, hnd.out] at HI HS
      rw [hV] at HO
      replace hV := hide hV
      obtain ⟨q1c0, q1c1, q1c2, q1f0, q1f1, q1f2, _⟩ := t3.out
      go_wp2_with fail
      refine (HI.out).mono ?_
      rintro e w1 ⟨ux, rfl, hx, hq⟩
      replace hp := hide (hp.out.up hq)
      replace t3 := hide (t3.out.up hq)
      replace hb := hide (upB hb.out hq)
      clear hq
      replace hx := hide hx.dkM
      obtain ⟨Ax, nx, cx, Bx, mx, dx, Cx, kx, fx, rfl, _⟩ := hx.out.ex
      replace hp := hide (hp.out.up (al w1 (.cells #[.slice Ax nx cx, .int .i64 noDsk.now.step, .slice Bx mx dx, .slice Cx kx fx] 32)))
      replace hx := hide (hx.out.up (al w1 (.cells #[.slice Ax nx cx, .int .i64 noDsk.now.step, .slice Bx mx dx, .slice Cx kx fx] 32)))
      replace t3 := hide (t3.out.up (al w1 (.cells #[.slice Ax nx cx, .int .i64 noDsk.now.step, .slice Bx mx dx, .slice Cx kx fx] 32)))
      replace hb := hide (upB hb.out (al w1 (.cells #[.slice Ax nx cx, .int .i64 noDsk.now.step, .slice Bx mx dx, .slice Cx kx fx] 32)))
      have t4 := hide (QuaW.made w1 (.slice Ax nx cx) (.int .i64 noDsk.now.step) (.slice Bx mx dx) (.slice Cx kx fx) 32)
      clear q1c0 q1c1 q1c2 q1f0 q1f1 q1f2
      obtain ⟨q2c0, q2c1, q2c2, q2f0, q2f1, q2f2, _⟩ := t3.out
      obtain ⟨q3c0, q3c1, q3c2, q3c3, q3f0, q3f1, q3f2, q3f3, _⟩ := t4.out
      go_wp2_with fail
      refine (HS.out _ hp.out).mono ?_
      rintro e w2 ⟨uy, rfl, hy, hq⟩
      replace hp := hide (hp.out.up hq)
      replace hx := hide (hx.out.up hq)
      replace t3 := hide (t3.out.up hq)
      replace t4 := hide (t4.out.up hq)
      replace hb := hide (upB hb.out hq)
      clear hq
      replace hy := hide hy
      obtain ⟨Ay, ny, cy, By, my, dy, Cy, ky, fy, rfl, _⟩ := hy.out.ex
      replace hp := hide (hp.out.up (al w2 (.cells #[.slice Ay ny cy, .int .i64 noDsk.now.step, .slice By my dy, .slice Cy ky fy] 32)))
      replace hx := hide (hx.out.up (al w2 (.cells #[.slice Ay ny cy, .int .i64 noDsk.now.step, .slice By my dy, .slice Cy ky fy] 32)))
      replace hy := hide (hy.out.up (al w2 (.cells #[.slice Ay ny cy, .int .i64 noDsk.now.step, .slice By my dy, .slice Cy ky fy] 32)))
      replace t3 := hide (t3.out.up (al w2 (.cells #[.slice Ay ny cy, .int .i64 noDsk.now.step, .slice By my dy, .slice Cy ky fy] 32)))
      replace t4 := hide (t4.out.up (al w2 (.cells #[.slice Ay ny cy, .int .i64 noDsk.now.step, .slice By my dy, .slice Cy ky fy] 32)))
      replace hb := hide (upB hb.out (al w2 (.cells #[.slice Ay ny cy, .int .i64 noDsk.now.step, .slice By my dy, .slice Cy ky fy] 32)))
      have t6 := hide (QuaW.made w2 (.slice Ay ny cy) (.int .i64 noDsk.now.step) (.slice By my dy) (.slice Cy ky fy) 32)
      clear q2c0 q2c1 q2c2 q2f0 q2f1 q2f2 q3c0 q3c1 q3c2 q3c3 q3f0 q3f1 q3f2 q3f3
      obtain ⟨q4c0, q4c1, q4c2, q4f0, q4f1, q4f2, _⟩ := t3.out
      obtain ⟨q5c0, q5c1, q5c2, q5c3, q5f0, q5f1, q5f2, q5f3, _⟩ := t4.out
      obtain ⟨q6c0, q6c1, q6c2, q6c3, q6f0, q6f1, q6f2, q6f3, _⟩ := t6.out
      go_wp2_with fail
      refine (sameDesk_c _ _ noDsk noDsk _ _ _ hx.out hy.out (Nat.le_refl _) (Nat.le_refl _)).mono ?_
      rw [sameK_refl]
      rintro e w3 ⟨rfl, hq⟩
      replace hp := hide (hp.out.up hq)
      replace hx := hide (hx.out.up hq)
      replace hy := hide (hy.out.up hq)
      replace t3 := hide (t3.out.up hq)
      replace t4 := hide (t4.out.up hq)
      replace t6 := hide (t6.out.up hq)
      replace hb := hide (upB hb.out hq)
      clear hq
      clear q4c0 q4c1 q4c2 q4f0 q4f1 q4f2 q5c0 q5c1 q5c2 q5c3 q5f0 q5f1 q5f2 q5f3 q6c0 q6c1 q6c2 q6c3 q6f0 q6f1 q6f2 q6f3
      obtain ⟨q7c0, q7c1, q7c2, q7f0, q7f1, q7f2, _⟩ := t3.out
      obtain ⟨q8c0, q8c1, q8c2, q8c3, q8f0, q8f1, q8f2, q8f3, _⟩ := t4.out
      obtain ⟨q9c0, q9c1, q9c2, q9c3, q9f0, q9f1, q9f2, q9f3, _⟩ := t6.out
      go_wp2_with fail
      refine (noDesk_c _ noDsk _ _ hx.out (Nat.le_refl _)).mono ?_
      rw [sameK_refl]
      rintro e w4 ⟨rfl, hq⟩
      replace hp := hide (hp.out.up hq)
      replace hx := hide (hx.out.up hq)
      replace hy := hide (hy.out.up hq)
      replace t3 := hide (t3.out.up hq)
      replace t4 := hide (t4.out.up hq)
      replace t6 := hide (t6.out.up hq)
      replace hb := hide (upB hb.out hq)
      clear hq
      clear q7c0 q7c1 q7c2 q7f0 q7f1 q7f2 q8c0 q8c1 q8c2 q8c3 q8f0 q8f1 q8f2 q8f3 q9c0 q9c1 q9c2 q9c3 q9f0 q9f1 q9f2 q9f3
      obtain ⟨q10c0, q10c1, q10c2, q10f0, q10f1, q10f2, _⟩ := t3.out
      obtain ⟨q11c0, q11c1, q11c2, q11c3, q11f0, q11f1, q11f2, q11f3, _⟩ := t4.out
      obtain ⟨q12c0, q12c1, q12c2, q12c3, q12f0, q12f1, q12f2, q12f3, _⟩ := t6.out
      go_wp2_with fail
      refine (HO.out _ hp.out).mono ?_
      rintro e w5 ⟨rfl, hq⟩
      replace hp := hide (hp.out.up hq)
      replace hx := hide (hx.out.up hq)
      replace hy := hide (hy.out.up hq)
      replace t3 := hide (t3.out.up hq)
      replace t4 := hide (t4.out.up hq)
      replace t6 := hide (t6.out.up hq)
      replace hb := hide (upB hb.out hq)
      clear hq
      clear q10c0 q10c1 q10c2 q10f0 q10f1 q10f2 q11c0 q11c1 q11c2 q11c3 q11f0 q11f1 q11f2 q11f3 q12c0 q12c1 q12c2 q12c3 q12f0 q12f1 q12f2 q12f3
      obtain ⟨q13c0, q13c1, q13c2, q13f0, q13f1, q13f2, _⟩ := t3.out
      obtain ⟨q14c0, q14c1, q14c2, q14c3, q14f0, q14f1, q14f2, q14f3, _⟩ := t4.out
      obtain ⟨q15c0, q15c1, q15c2, q15c3, q15f0, q15f1, q15f2, q15f3, _⟩ := t6.out
      go_wp2_with fail
      refine (alive_c _).mono ?_
      rintro e w6 ⟨rfl, hq⟩
      replace hp := hide (hp.out.up hq)
      replace hx := hide (hx.out.up hq)
      replace hy := hide (hy.out.up hq)
      replace t3 := hide (t3.out.up hq)
      replace t4 := hide (t4.out.up hq)
      replace t6 := hide (t6.out.up hq)
      replace hb := hide (upB hb.out hq)
      clear hq
      clear q13c0 q13c1 q13c2 q13f0 q13f1 q13f2 q14c0 q14c1 q14c2 q14c3 q14f0 q14f1 q14f2 q14f3 q15c0 q15c1 q15c2 q15c3 q15f0 q15f1 q15f2 q15f3
      obtain ⟨q16c0, q16c1, q16c2, q16f0, q16f1, q16f2, _⟩ := t3.out
      obtain ⟨q17c0, q17c1, q17c2, q17c3, q17f0, q17f1, q17f2, q17f3, _⟩ := t4.out
      obtain ⟨q18c0, q18c1, q18c2, q18c3, q18f0, q18f1, q18f2, q18f3, _⟩ := t6.out
      go_wp2_with fail
      go_ret
      exact ⟨rfl, hb.out⟩
    | true =>
      have hnd := hide (show newDsk p = (⟨p, []⟩ : Dsk) by unfold newDsk; rw [hV]; rfl)
      have HI := hide (deskNew_impl _ p _ _ hp.out (Nat.le_refl _))
      have HS := hide (fun (W : World) (hp : PlM W W.heap.size (.agg #[.slice Ap np cp, .int .i64 p.step, .slice Bp mp dp]) p) => deskNew_spec _ p _ W hp (Nat.le_refl _))
      have HO := hide (fun (W : World) (hp : PlM W W.heap.size (.agg #[.slice Ap np cp, .int .i64 p.step, .slice Bp mp dp]) p) => placeOk_impl _ p _ W hp (Nat.le_refl _))
      rw [hV, hnd.out] at HI HS
      rw [hV] at HO
      have hdk := hide (show deskOk (⟨p, []⟩ : Dsk) = true from deskOk_mk (by simp) hV (by simp))
      replace hV := hide hV
      obtain ⟨q19c0, q19c1, q19c2, q19f0, q19f1, q19f2, _⟩ := t3.out
      go_wp2_with fail
      refine (HI.out).mono ?_
      rintro e w1 ⟨ux, rfl, hx, hq⟩
      replace hp := hide (hp.out.up hq)
      replace t3 := hide (t3.out.up hq)
      replace hb := hide (upB hb.out hq)
      clear hq
      replace hx := hide hx.dkM
      obtain ⟨Ax, nx, cx, Bx, mx, dx, Cx, kx, fx, rfl, _⟩ := hx.out.ex
      replace hp := hide (hp.out.up (al w1 (.cells #[.slice Ax nx cx, .int .i64 (⟨p, []⟩ : Dsk).now.step, .slice Bx mx dx, .slice Cx kx fx] 32)))
      replace hx := hide (hx.out.up (al w1 (.cells #[.slice Ax nx cx, .int .i64 (⟨p, []⟩ : Dsk).now.step, .slice Bx mx dx, .slice Cx kx fx] 32)))
      replace t3 := hide (t3.out.up (al w1 (.cells #[.slice Ax nx cx, .int .i64 (⟨p, []⟩ : Dsk).now.step, .slice Bx mx dx, .slice Cx kx fx] 32)))
      replace hb := hide (upB hb.out (al w1 (.cells #[.slice Ax nx cx, .int .i64 (⟨p, []⟩ : Dsk).now.step, .slice Bx mx dx, .slice Cx kx fx] 32)))
      have t4 := hide (QuaW.made w1 (.slice Ax nx cx) (.int .i64 (⟨p, []⟩ : Dsk).now.step) (.slice Bx mx dx) (.slice Cx kx fx) 32)
      clear q19c0 q19c1 q19c2 q19f0 q19f1 q19f2
      obtain ⟨q20c0, q20c1, q20c2, q20f0, q20f1, q20f2, _⟩ := t3.out
      obtain ⟨q21c0, q21c1, q21c2, q21c3, q21f0, q21f1, q21f2, q21f3, _⟩ := t4.out
      go_wp2_with fail
      refine (HS.out _ hp.out).mono ?_
      rintro e w2 ⟨uy, rfl, hy, hq⟩
      replace hp := hide (hp.out.up hq)
      replace hx := hide (hx.out.up hq)
      replace t3 := hide (t3.out.up hq)
      replace t4 := hide (t4.out.up hq)
      replace hb := hide (upB hb.out hq)
      clear hq
      replace hy := hide hy
      obtain ⟨Ay, ny, cy, By, my, dy, Cy, ky, fy, rfl, _⟩ := hy.out.ex
      replace hp := hide (hp.out.up (al w2 (.cells #[.slice Ay ny cy, .int .i64 (⟨p, []⟩ : Dsk).now.step, .slice By my dy, .slice Cy ky fy] 32)))
      replace hx := hide (hx.out.up (al w2 (.cells #[.slice Ay ny cy, .int .i64 (⟨p, []⟩ : Dsk).now.step, .slice By my dy, .slice Cy ky fy] 32)))
      replace hy := hide (hy.out.up (al w2 (.cells #[.slice Ay ny cy, .int .i64 (⟨p, []⟩ : Dsk).now.step, .slice By my dy, .slice Cy ky fy] 32)))
      replace t3 := hide (t3.out.up (al w2 (.cells #[.slice Ay ny cy, .int .i64 (⟨p, []⟩ : Dsk).now.step, .slice By my dy, .slice Cy ky fy] 32)))
      replace t4 := hide (t4.out.up (al w2 (.cells #[.slice Ay ny cy, .int .i64 (⟨p, []⟩ : Dsk).now.step, .slice By my dy, .slice Cy ky fy] 32)))
      replace hb := hide (upB hb.out (al w2 (.cells #[.slice Ay ny cy, .int .i64 (⟨p, []⟩ : Dsk).now.step, .slice By my dy, .slice Cy ky fy] 32)))
      have t6 := hide (QuaW.made w2 (.slice Ay ny cy) (.int .i64 (⟨p, []⟩ : Dsk).now.step) (.slice By my dy) (.slice Cy ky fy) 32)
      clear q20c0 q20c1 q20c2 q20f0 q20f1 q20f2 q21c0 q21c1 q21c2 q21c3 q21f0 q21f1 q21f2 q21f3
      obtain ⟨q22c0, q22c1, q22c2, q22f0, q22f1, q22f2, _⟩ := t3.out
      obtain ⟨q23c0, q23c1, q23c2, q23c3, q23f0, q23f1, q23f2, q23f3, _⟩ := t4.out
      obtain ⟨q24c0, q24c1, q24c2, q24c3, q24f0, q24f1, q24f2, q24f3, _⟩ := t6.out
      go_wp2_with fail
      refine (sameDesk_c _ _ (⟨p, []⟩ : Dsk) (⟨p, []⟩ : Dsk) _ _ _ hx.out hy.out (Nat.le_refl _) (Nat.le_refl _)).mono ?_
      rw [sameK_refl]
      rintro e w3 ⟨rfl, hq⟩
      replace hp := hide (hp.out.up hq)
      replace hx := hide (hx.out.up hq)
      replace hy := hide (hy.out.up hq)
      replace t3 := hide (t3.out.up hq)
      replace t4 := hide (t4.out.up hq)
      replace t6 := hide (t6.out.up hq)
      replace hb := hide (upB hb.out hq)
      clear hq
      have hkx := hide (show kx = 0 from by
        obtain ⟨_, _, _, _, _, _, _, _, _, e, _, _, _, hps⟩ := hx.out.ex
        simp only [Value.agg.injEq, Array.mk.injEq, List.cons.injEq, Value.slice.injEq, and_true] at e
        have := hps.len
        simp at this
        omega)
      have hkx2 := hkx.out
      subst hkx2
      clear hkx
      clear q22c0 q22c1 q22c2 q22f0 q22f1 q22f2 q23c0 q23c1 q23c2 q23c3 q23f0 q23f1 q23f2 q23f3 q24c0 q24c1 q24c2 q24c3 q24f0 q24f1 q24f2 q24f3
      obtain ⟨q25c0, q25c1, q25c2, q25f0, q25f1, q25f2, _⟩ := t3.out
      obtain ⟨q26c0, q26c1, q26c2, q26c3, q26f0, q26f1, q26f2, q26f3, _⟩ := t4.out
      obtain ⟨q27c0, q27c1, q27c2, q27c3, q27f0, q27f1, q27f2, q27f3, _⟩ := t6.out
      go_wp2_with fail
      refine (deskOk_impl _ (⟨p, []⟩ : Dsk) _ _ hx.out (Nat.le_refl _)).mono ?_
      rw [hdk.out]
      rintro e w4 ⟨rfl, hq⟩
      replace hp := hide (hp.out.up hq)
      replace hx := hide (hx.out.up hq)
      replace hy := hide (hy.out.up hq)
      replace t3 := hide (t3.out.up hq)
      replace t4 := hide (t4.out.up hq)
      replace t6 := hide (t6.out.up hq)
      replace hb := hide (upB hb.out hq)
      clear hq
      have hnow := hide (show PlM w4 w4.heap.size (.agg #[.slice Ax nx cx, .int .i64 p.step, .slice Bx mx dx]) p from by
        obtain ⟨_, _, _, _, _, _, _, _, _, e, k1, k2, k3, _⟩ := hx.out.ex
        simp only [Value.agg.injEq, Array.mk.injEq, List.cons.injEq, Value.slice.injEq, and_true] at e
        obtain ⟨⟨rfl, rfl, rfl⟩, _, ⟨rfl, rfl, rfl⟩, _⟩ := e
        exact plM_mk k1 k2 k3)
      clear q25c0 q25c1 q25c2 q25f0 q25f1 q25f2 q26c0 q26c1 q26c2 q26c3 q26f0 q26f1 q26f2 q26f3 q27c0 q27c1 q27c2 q27c3 q27f0 q27f1 q27f2 q27f3
      obtain ⟨q28c0, q28c1, q28c2, q28f0, q28f1, q28f2, _⟩ := t3.out
      obtain ⟨q29c0, q29c1, q29c2, q29c3, q29f0, q29f1, q29f2, q29f3, _⟩ := t4.out
      obtain ⟨q30c0, q30c1, q30c2, q30c3, q30f0, q30f1, q30f2, q30f3, _⟩ := t6.out
      go_wp2_with fail
      refine (samePlace_c _ _ p p _ _ _ hnow.out hp.out (Nat.le_refl _) (Nat.le_refl _)).mono ?_
      rw [sameP_refl]
      rintro e w5 ⟨rfl, hq⟩
      replace hp := hide (hp.out.up hq)
      replace hx := hide (hx.out.up hq)
      replace hy := hide (hy.out.up hq)
      replace hnow := hide (hnow.out.up hq)
      replace t3 := hide (t3.out.up hq)
      replace t4 := hide (t4.out.up hq)
      replace t6 := hide (t6.out.up hq)
      replace hb := hide (upB hb.out hq)
      clear hq
      clear q28c0 q28c1 q28c2 q28f0 q28f1 q28f2 q29c0 q29c1 q29c2 q29c3 q29f0 q29f1 q29f2 q29f3 q30c0 q30c1 q30c2 q30c3 q30f0 q30f1 q30f2 q30f3
      obtain ⟨q31c0, q31c1, q31c2, q31f0, q31f1, q31f2, _⟩ := t3.out
      obtain ⟨q32c0, q32c1, q32c2, q32c3, q32f0, q32f1, q32f2, q32f3, _⟩ := t4.out
      obtain ⟨q33c0, q33c1, q33c2, q33c3, q33f0, q33f1, q33f2, q33f3, _⟩ := t6.out
      go_wp2_with fail
      go_ret
      exact ⟨rfl, hb.out⟩
end Go.Proofs.Ytpnjihpdipoajaa
