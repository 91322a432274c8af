/-
  Laws of chapter 14 walked: FnDeskOk (written by wip/gen_f7.py).
-/
import Derived.Test.YtpnjihpdipoajaaDrawDo
import Derived.Test.YtpnjihpdipoajaaPlaceI
import Derived.Test.YtpnjihpdipoajaaZdraw
namespace Go.Proofs.Ytpnjihpdipoajaa
open Go.RowKit
set_option linter.unusedVariables false

set_option maxRecDepth 100000 in
set_option maxHeartbeats 3200000 in
theorem lawDeskOk {A : Option Addr} {n c : Nat} {bs : List Int} {w : World} (h : Bts w w.heap.size A n c bs) :
    Calls Try.prog 4 #[.slice A n c] w fun e w' => e = .returned (.bool true) ∧ Below w.heap.size w w' := by
  have hbig := h.big
  have hle := h.le
  unfold maxLen at hbig
  by_cases hn : 1048576 < n
  · go_enter Try.func4, Try.ntmps4
    go_wp2
    go_ret
    exact ⟨rfl, Below.refl _ _⟩
  ·
    have hDr := hide (DrawDeskOk_c A n c bs w h)
    go_enter Try.func4, Try.ntmps4
    go_wp2_with fail
    refine hDr.out.mono ?_
    rintro e w0 ⟨u, d, rfl, hp, hb⟩
    replace hb := hide hb
    clear hDr
    obtain ⟨Ap, np, cp, Bp, mp, dp, Cp, kp, fp, rfl, i1, i2, hwf, i3⟩ := hp.ex
    have hnow := hide (plM_mk (p := d.now) i1 i2 hwf)
    clear i1 i2 i3
    replace hp := hide hp
    replace hp := hide (hp.out.up (al w0 (.cells #[.slice Ap np cp, .int .i64 d.now.step, .slice Bp mp dp, .slice Cp kp fp] 32)))
    replace hnow := hide (hnow.out.up (al w0 (.cells #[.slice Ap np cp, .int .i64 d.now.step, .slice Bp mp dp, .slice Cp kp fp] 32)))
    replace hb := hide (upB hb.out (al w0 (.cells #[.slice Ap np cp, .int .i64 d.now.step, .slice Bp mp dp, .slice Cp kp fp] 32)))
    have t3 := hide (QuaW.made w0 (.slice Ap np cp) (.int .i64 d.now.step) (.slice Bp mp dp) (.slice Cp kp fp) 32)
    have hbare := hide (fun h : deskOk d = true => (show deskOk (⟨d.now, []⟩ : Dsk) = true from deskOk_mk (by simp) (deskOk_yes h).2.1 (by simp)))
    have HI := hide (deskOk_impl _ d _ _ hp.out (Nat.le_refl _))
    have HS := hide (fun (W : World) (hp : DkM W W.heap.size (.agg #[.slice Ap np cp, .int .i64 d.now.step, .slice Bp mp dp, .slice Cp kp fp]) d) => deskOk_spec _ d _ W hp (Nat.le_refl _))
    obtain ⟨X, hX⟩ : ∃ X, Hid (deskOk d = X) := ⟨_, hide rfl⟩
    rw [hX.out] at HI HS hbare
    obtain ⟨q1c0, q1c1, q1c2, q1c3, q1f0, q1f1, q1f2, q1f3, _⟩ := t3.out
    go_wp2_with fail
    refine (HI.out).mono ?_
    rintro e w1 ⟨rfl, hq⟩
    replace hp := hide (hp.out.up hq)
    replace hnow := hide (hnow.out.up hq)
    replace t3 := hide (t3.out.up hq)
    replace hb := hide (upB hb.out hq)
    clear hq
    clear q1c0 q1c1 q1c2 q1c3 q1f0 q1f1 q1f2 q1f3
    obtain ⟨q2c0, q2c1, q2c2, q2c3, q2f0, q2f1, q2f2, q2f3, _⟩ := t3.out
    go_wp2_with fail
    refine (HS.out _ hp.out).mono ?_
    rintro e w2 ⟨rfl, hq⟩
    replace hp := hide (hp.out.up hq)
    replace hnow := hide (hnow.out.up hq)
    replace t3 := hide (t3.out.up hq)
    replace hb := hide (upB hb.out hq)
    clear hq
    have H1 := hide (fun (W : World) (hn : PlM W W.heap.size (.agg #[.slice Ap np cp, .int .i64 d.now.step, .slice Bp mp dp]) d.now) (hx : X = true) => show Calls Try.prog 12 #[.agg #[.slice Ap np cp, .int .i64 d.now.step, .slice Bp mp dp, .slice none 0 0]] W (fun e w' => e = .returned (.bool true) ∧ Below W.heap.size W w') from
      (deskOk_impl _ ⟨d.now, []⟩ _ W (by obtain ⟨_, _, _, _, _, _, e, j1, j2, j3⟩ := hn.ex; simp only [Value.agg.injEq, Array.mk.injEq, List.cons.injEq, Value.slice.injEq, and_true, true_and] at e; obtain ⟨⟨rfl, rfl, rfl⟩, rfl, rfl, rfl⟩ := e; exact ⟨_, _, _, _, _, _, _, _, _, rfl, j1, j2, j3, PsM.nil⟩) (Nat.le_refl _)).mono fun e w' ⟨e1, hq⟩ => ⟨by rw [hbare.out hx] at e1; exact e1, hq⟩)
    have H0 := hide (fun (W : World) => show Calls Try.prog 12 #[.agg #[.slice none 0 0, .int .i64 0, .slice none 0 0, .slice none 0 0]] W (fun e w' => e = .returned (.bool false) ∧ Below W.heap.size W w') from
      (deskOk_impl _ noDsk _ W (noDkM (B := W.heap.size)) (Nat.le_refl _)).mono fun e w' ⟨e1, hq⟩ => ⟨by rw [noDsk_no] at e1; exact e1, hq⟩)
    cases X with
    | false =>
      clear q2c0 q2c1 q2c2 q2c3 q2f0 q2f1 q2f2 q2f3
      obtain ⟨q3c0, q3c1, q3c2, q3c3, q3f0, q3f1, q3f2, q3f3, _⟩ := t3.out
      go_wp2_with fail
      refine (H0.out _).mono ?_
      rintro e w3 ⟨rfl, hq⟩
      replace hp := hide (hp.out.up hq)
      replace hnow := hide (hnow.out.up hq)
      replace t3 := hide (t3.out.up hq)
      replace hb := hide (upB hb.out hq)
      clear hq
      clear q3c0 q3c1 q3c2 q3c3 q3f0 q3f1 q3f2 q3f3
      obtain ⟨q4c0, q4c1, q4c2, q4c3, q4f0, q4f1, q4f2, q4f3, _⟩ := t3.out
      go_wp2_with fail
      refine (alive_c _).mono ?_
      rintro e w4 ⟨rfl, hq⟩
      replace hp := hide (hp.out.up hq)
      replace hnow := hide (hnow.out.up hq)
      replace t3 := hide (t3.out.up hq)
      replace hb := hide (upB hb.out hq)
      clear hq
      clear q4c0 q4c1 q4c2 q4c3 q4f0 q4f1 q4f2 q4f3
      obtain ⟨q5c0, q5c1, q5c2, q5c3, q5f0, q5f1, q5f2, q5f3, _⟩ := t3.out
      go_wp2_with fail
      go_ret
      exact ⟨rfl, hb.out⟩
    | true =>
      clear q2c0 q2c1 q2c2 q2c3 q2f0 q2f1 q2f2 q2f3
      obtain ⟨q6c0, q6c1, q6c2, q6c3, q6f0, q6f1, q6f2, q6f3, _⟩ := t3.out
      go_wp2_with fail
      refine (H1.out _ hnow.out (by simp)).mono ?_
      rintro e w3 ⟨rfl, hq⟩
      replace hp := hide (hp.out.up hq)
      replace hnow := hide (hnow.out.up hq)
      replace t3 := hide (t3.out.up hq)
      replace hb := hide (upB hb.out hq)
      clear hq
      clear q6c0 q6c1 q6c2 q6c3 q6f0 q6f1 q6f2 q6f3
      obtain ⟨q7c0, q7c1, q7c2, q7c3, q7f0, q7f1, q7f2, q7f3, _⟩ := t3.out
      go_wp2_with fail
      refine (H0.out _).mono ?_
      rintro e w4 ⟨rfl, hq⟩
      replace hp := hide (hp.out.up hq)
      replace hnow := hide (hnow.out.up hq)
      replace t3 := hide (t3.out.up hq)
      replace hb := hide (upB hb.out hq)
      clear hq
      clear q7c0 q7c1 q7c2 q7c3 q7f0 q7f1 q7f2 q7f3
      obtain ⟨q8c0, q8c1, q8c2, q8c3, q8f0, q8f1, q8f2, q8f3, _⟩ := t3.out
      go_wp2_with fail
      refine (alive_c _).mono ?_
      rintro e w5 ⟨rfl, hq⟩
      replace hp := hide (hp.out.up hq)
      replace hnow := hide (hnow.out.up hq)
      replace t3 := hide (t3.out.up hq)
      replace hb := hide (upB hb.out hq)
      clear hq
      clear q8c0 q8c1 q8c2 q8c3 q8f0 q8f1 q8f2 q8f3
      obtain ⟨q9c0, q9c1, q9c2, q9c3, q9f0, q9f1, q9f2, q9f3, _⟩ := t3.out
      go_wp2_with fail
      go_ret
      exact ⟨rfl, hb.out⟩
end Go.Proofs.Ytpnjihpdipoajaa
