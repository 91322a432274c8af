/-
  Laws of chapter 14 walked: FnPlaceText (written by wip/gen_f10.py).
-/
import Derived.Test.YtkgfbmlhplclfaaGreatDoorDrawPo
import Derived.Test.YtkgfbmlhplclfaaGreatDoorReadPI
import Derived.Test.YtkgfbmlhplclfaaGreatDoorEqD
import Derived.Test.YtkgfbmlhplclfaaGreatDoorZdraw
import Derived.Test.YtkgfbmlhplclfaaGreatDoorStrE
namespace Go.Proofs.YtkgfbmlhplclfaaGreatDoor
open Go.RowKit
set_option linter.unusedVariables false

set_option maxRecDepth 100000 in
set_option maxHeartbeats 3200000 in
theorem lawPlaceText {A : Option Addr} {n c : Nat} {bs : List Int} {w : World} (h : Bts w w.heap.size A n c bs) (hL : LaidN w) :
    Calls Tryz.prog 4 #[.slice A n c] w fun e w' => e = .returned (.bool true) ∧ Below w.heap.size w w' := by
  have hbig := h.big
  have hle := h.le
  unfold maxLen at hbig
  by_cases hn : 1048576 < n
  · go_enter Tryz.func4, Tryz.ntmps4
    go_wp2
    go_ret
    exact ⟨rfl, Below.refl _ _⟩
  ·
    have hDr := hide (DrawPlaceText_c A n c bs w h)
    go_enter Tryz.func4, Tryz.ntmps4
    go_wp2_with fail
    refine hDr.out.mono ?_
    rintro e w0 ⟨u, p, rfl, hp, hl1, hl2, hb⟩
    replace hb := hide hb
    obtain ⟨Ap, np, cp, Bp, mp, dp, rfl, i1, i2, hwf⟩ := hp.ex
    clear i1 i2 hDr hl1 hl2
    replace hp := hide hp
    replace hp := hide (hp.out.up (al w0 (.cells #[.slice Ap np cp, .int .i64 p.step, .slice Bp mp dp] 24)))
    replace hb := hide (upB hb.out (al w0 (.cells #[.slice Ap np cp, .int .i64 p.step, .slice Bp mp dp] 24)))
    have t3 := hide (TriW.made w0 (.slice Ap np cp) (.int .i64 p.step) (.slice Bp mp dp) 24)
    have HI := hide (placeText_impl _ p _ _ hp.out (Nat.le_refl _) (hL.up hb.out).t)
    have HS := hide (fun (W : World) (hp : PlM W W.heap.size (.agg #[.slice Ap np cp, .int .i64 p.step, .slice Bp mp dp]) p) => placeText_spec _ p _ W hp (Nat.le_refl _))
    have hno := hide (fun (h : strB (placeT p) = ⟨#[]⟩) => show placeOk p = false from by
      cases hok : placeOk p with
      | false => rfl
      | true =>
        have h1 := placeT_ne.2 hok
        exact absurd (by rw [← bts_strB (placeT p), h]; rfl) h1)
    have hyes := hide (fun (h : strB (placeT p) ≠ ⟨#[]⟩) => show readPB (bts (strB (placeT p))) = true ∧ readQ (bts (strB (placeT p))) = p from by
      have hok : placeOk p = true := placeT_ne.1 (fun e => h (by rw [e]; rfl))
      rw [bts_strB, placeT_ok hok]
      exact readPB_raw hok)
    obtain ⟨T, hT⟩ : ∃ T, Hid (strB (placeT p) = T) := ⟨_, hide rfl⟩
    rw [hT.out] at HI HS hno hyes
    obtain ⟨q1c0, q1c1, q1c2, q1f0, q1f1, q1f2, _⟩ := t3.out
    go_wp2_with fail
    refine (HI.out).mono ?_
    rintro e w1 ⟨rfl, hq⟩
    replace hp := hide (hp.out.up hq)
    replace t3 := hide (t3.out.up hq)
    replace hb := hide (upB hb.out hq)
    clear hq
    clear HI
    clear q1c0 q1c1 q1c2 q1f0 q1f1 q1f2
    obtain ⟨q2c0, q2c1, q2c2, q2f0, q2f1, q2f2, _⟩ := t3.out
    go_wp2_with fail
    refine (HS.out _ hp.out).mono ?_
    rintro e w2 ⟨rfl, hq⟩
    replace hp := hide (hp.out.up hq)
    replace t3 := hide (t3.out.up hq)
    replace hb := hide (upB hb.out hq)
    clear hq
    clear HS
    by_cases he : T = ⟨#[]⟩
    ·
      have hok := hide (hno.out he)
      have HO := hide (placeOk_impl _ p _ _ hp.out (Nat.le_refl _))
      rw [hok.out] at HO
      clear hno hyes hok hT
      subst he
      clear q2c0 q2c1 q2c2 q2f0 q2f1 q2f2
      obtain ⟨q3c0, q3c1, q3c2, q3f0, q3f1, q3f2, _⟩ := t3.out
      go_wp2_with fail
      refine (HO.out).mono ?_
      rintro e w3 ⟨rfl, hq⟩
      replace hp := hide (hp.out.up hq)
      replace t3 := hide (t3.out.up hq)
      replace hb := hide (upB hb.out hq)
      clear hq
      clear q3c0 q3c1 q3c2 q3f0 q3f1 q3f2
      obtain ⟨q4c0, q4c1, q4c2, q4f0, q4f1, q4f2, _⟩ := t3.out
      go_wp2_with fail
      refine (alive_c _).mono ?_
      rintro e w4 ⟨rfl, hq⟩
      replace hp := hide (hp.out.up hq)
      replace t3 := hide (t3.out.up hq)
      replace hb := hide (upB hb.out hq)
      clear hq
      clear q4c0 q4c1 q4c2 q4f0 q4f1 q4f2
      obtain ⟨q5c0, q5c1, q5c2, q5f0, q5f1, q5f2, _⟩ := t3.out
      go_wp2_with fail
      go_ret
      exact ⟨rfl, hb.out⟩
    ·
      obtain ⟨hT0, hT1⟩ := str_ne he
      obtain ⟨y1, y2⟩ := hyes.out he
      have HR := hide (readPlace_impl T _ (hL.up hb.out))
      rw [y1, y2] at HR
      clear y1 y2 hno hyes he
      clear q2c0 q2c1 q2c2 q2f0 q2f1 q2f2
      obtain ⟨q6c0, q6c1, q6c2, q6f0, q6f1, q6f2, _⟩ := t3.out
      go_wp2_with fail
      refine (HR.out).mono ?_
      rintro e w3 ⟨ux, rfl, hx, hq⟩
      replace hp := hide (hp.out.up hq)
      replace t3 := hide (t3.out.up hq)
      replace hb := hide (upB hb.out hq)
      clear hq
      replace hx := hide hx.plM
      obtain ⟨Ax, nx, cx, Bx, mx, dx, rfl, _⟩ := hx.out.ex
      replace hp := hide (hp.out.up (al w3 (.cells #[.slice Ax nx cx, .int .i64 p.step, .slice Bx mx dx] 24)))
      replace hx := hide (hx.out.up (al w3 (.cells #[.slice Ax nx cx, .int .i64 p.step, .slice Bx mx dx] 24)))
      replace t3 := hide (t3.out.up (al w3 (.cells #[.slice Ax nx cx, .int .i64 p.step, .slice Bx mx dx] 24)))
      replace hb := hide (upB hb.out (al w3 (.cells #[.slice Ax nx cx, .int .i64 p.step, .slice Bx mx dx] 24)))
      have t5 := hide (TriW.made w3 (.slice Ax nx cx) (.int .i64 p.step) (.slice Bx mx dx) 24)
      clear q6c0 q6c1 q6c2 q6f0 q6f1 q6f2
      obtain ⟨q7c0, q7c1, q7c2, q7f0, q7f1, q7f2, _⟩ := t3.out
      obtain ⟨q8c0, q8c1, q8c2, q8f0, q8f1, q8f2, _⟩ := t5.out
      go_wp2_with fail
      refine (samePlace_c _ _ p p _ _ _ hx.out hp.out (Nat.le_refl _) (Nat.le_refl _)).mono ?_
      rw [sameP_refl]
      rintro e w4 ⟨rfl, hq⟩
      replace hp := hide (hp.out.up hq)
      replace hx := hide (hx.out.up hq)
      replace t3 := hide (t3.out.up hq)
      replace t5 := hide (t5.out.up hq)
      replace hb := hide (upB hb.out hq)
      clear hq
      clear q7c0 q7c1 q7c2 q7f0 q7f1 q7f2 q8c0 q8c1 q8c2 q8f0 q8f1 q8f2
      obtain ⟨q9c0, q9c1, q9c2, q9f0, q9f1, q9f2, _⟩ := t3.out
      obtain ⟨q10c0, q10c1, q10c2, q10f0, q10f1, q10f2, _⟩ := t5.out
      go_wp2_with fail
      go_ret
      exact ⟨rfl, hb.out⟩
end Go.Proofs.YtkgfbmlhplclfaaGreatDoor
