/-
  Laws of chapter 14 walked: FnReadPlace (written by wip/gen_f11.py).
-/
import Derived.Test.YtkgfbmlhplclfaaGreatDoorDrawRp
import Derived.Test.YtkgfbmlhplclfaaGreatDoorReadPI
import Derived.Test.YtkgfbmlhplclfaaGreatDoorReadP
import Derived.Test.YtkgfbmlhplclfaaGreatDoorEqD
import Derived.Test.YtkgfbmlhplclfaaGreatDoorZdraw
import Derived.Test.YtkgfbmlhplclfaaGreatDoorStrE
namespace Go.Proofs.YtkgfbmlhplclfaaGreatDoor
open Go.RowKit
set_option linter.unusedVariables false

theorem readQ_small6 (l : Bs) : (readQ l).start.length ≤ 3 ∧ (readQ l).word.length ≤ 6 := by
  cases h : readPB l with
  | true =>
    obtain ⟨⟨_, g⟩, _, _, g2, _⟩ := placeOk_yes (readPB_yes h).1
    exact ⟨g, g2⟩
  | false => rw [readPB_no h]; exact ⟨Nat.zero_le _, Nat.zero_le _⟩

set_option maxRecDepth 100000 in
set_option maxHeartbeats 3200000 in
theorem lawReadPlace {A : Option Addr} {n c : Nat} {bs : List Int} {w : World} (h : Bts w w.heap.size A n c bs) (hL : LaidN w) :
    Calls Tryz.prog 5 #[.slice A n c] w fun e w' => e = .returned (.bool true) ∧ Below w.heap.size w w' := by
  have hbig := h.big
  have hle := h.le
  unfold maxLen at hbig
  by_cases hn : 1048576 < n
  · go_enter Tryz.func5, Tryz.ntmps5
    go_wp2
    go_ret
    exact ⟨rfl, Below.refl _ _⟩
  ·
    have hDr := hide (DrawReadPlace_c A n c bs w h)
    go_enter Tryz.func5, Tryz.ntmps5
    go_wp2_with fail
    refine hDr.out.mono ?_
    rintro e w0 ⟨s, rfl, hs, hb⟩
    replace hb := hide hb
    clear hDr
    have HI := hide (fun (W : World) (hl : LaidN W) => readPlace_impl s W hl)
    have HS := hide (fun (W : World) => readPlace_spec s W (by omega))
    have hPs := hide (readQ_small6 (bts s))
    have hyes := hide (fun (h : readPB (bts s) = true) => show strB (placeT (readQ (bts s))) = s ∧ readPB (bts (s ++ ⟨#[32]⟩)) = false ∧ readQ (bts (s ++ ⟨#[32]⟩)) = noPlc from by
      obtain ⟨h1, h2⟩ := readPB_yes h
      have e0 : bts (s ++ ⟨#[32]⟩) = bts s ++ [32] := by rw [← bts_strB (bts s ++ [32]), strB_append, strB_bts]; rfl
      have hr : readP (bts s) = some (readQ (bts s)) := readP_iff.2 ⟨h1, h2⟩
      have hn := readP_space hr
      refine ⟨by rw [placeT_ok h1, h2, strB_bts], ?_, ?_⟩
      · unfold readPB; rw [e0, hn]; rfl
      · unfold readQ; rw [e0, hn]; rfl)
    have hno := hide (fun (h : readPB (bts s) = false) => readPB_no h)
    obtain ⟨V, hV⟩ : ∃ V, Hid (readPB (bts s) = V) := ⟨_, hide rfl⟩
    obtain ⟨P, hP⟩ : ∃ P, Hid (readQ (bts s) = P) := ⟨_, hide rfl⟩
    rw [hV.out, hP.out] at HI HS hyes hno
    go_wp2_with fail
    refine (HI.out _ (hL.up hb.out)).mono ?_
    rintro e w1 ⟨ux, rfl, hx, hq⟩
    replace hb := hide (upB hb.out hq)
    clear hq
    replace hx := hide hx.plM
    obtain ⟨Ax, nx, cx, Bx, mx, dx, rfl, _⟩ := hx.out.ex
    replace hx := hide (hx.out.up (al w1 (.cells #[.slice Ax nx cx, .int .i64 P.step, .slice Bx mx dx] 24)))
    replace hb := hide (upB hb.out (al w1 (.cells #[.slice Ax nx cx, .int .i64 P.step, .slice Bx mx dx] 24)))
    have t4 := hide (TriW.made w1 (.slice Ax nx cx) (.int .i64 P.step) (.slice Bx mx dx) 24)
    obtain ⟨q1c0, q1c1, q1c2, q1f0, q1f1, q1f2, _⟩ := t4.out
    go_wp2_with fail
    refine (HS.out _).mono ?_
    rintro e w2 ⟨uy, rfl, hy, hq⟩
    replace hx := hide (hx.out.up hq)
    replace t4 := hide (t4.out.up hq)
    replace hb := hide (upB hb.out hq)
    clear hq
    replace hy := hide hy
    obtain ⟨Ay, ny, cy, By, my, dy, rfl, _⟩ := hy.out.ex
    replace hx := hide (hx.out.up (al w2 (.cells #[.slice Ay ny cy, .int .i64 P.step, .slice By my dy] 24)))
    replace hy := hide (hy.out.up (al w2 (.cells #[.slice Ay ny cy, .int .i64 P.step, .slice By my dy] 24)))
    replace t4 := hide (t4.out.up (al w2 (.cells #[.slice Ay ny cy, .int .i64 P.step, .slice By my dy] 24)))
    replace hb := hide (upB hb.out (al w2 (.cells #[.slice Ay ny cy, .int .i64 P.step, .slice By my dy] 24)))
    have t6 := hide (TriW.made w2 (.slice Ay ny cy) (.int .i64 P.step) (.slice By my dy) 24)
    clear q1c0 q1c1 q1c2 q1f0 q1f1 q1f2
    obtain ⟨q2c0, q2c1, q2c2, q2f0, q2f1, q2f2, _⟩ := t4.out
    obtain ⟨q3c0, q3c1, q3c2, q3f0, q3f1, q3f2, _⟩ := t6.out
    go_wp2_with fail
    refine (samePlace_c _ _ P P _ _ _ hx.out hy.out (Nat.le_refl _) (Nat.le_refl _)).mono ?_
    rw [sameP_refl]
    rintro e w3 ⟨rfl, hq⟩
    replace hx := hide (hx.out.up hq)
    replace hy := hide (hy.out.up hq)
    replace t4 := hide (t4.out.up hq)
    replace t6 := hide (t6.out.up hq)
    replace hb := hide (upB hb.out hq)
    clear hq
    cases V with
    | false =>
      have hPn := hide (hno.out rfl)
      have HE := hide (fun (W : World) (hx : PlM W W.heap.size (.agg #[.slice Ax nx cx, .int .i64 P.step, .slice Bx mx dx]) P) => show Calls Tryz.prog 18 #[.agg #[.slice Ax nx cx, .int .i64 P.step, .slice Bx mx dx], .agg #[.slice none 0 0, .int .i64 0, .slice none 0 0]] W (fun e w' => e = .returned (.bool true) ∧ Below W.heap.size W w') from
        (samePlace_c _ _ P noPlc _ _ W hx (noPlM (B := W.heap.size)) (Nat.le_refl _) (Nat.le_refl _)).mono fun e w' ⟨e1, hq⟩ => ⟨by rw [hPn.out, sameP_refl] at e1; exact e1, hq⟩)
      clear q2c0 q2c1 q2c2 q2f0 q2f1 q2f2 q3c0 q3c1 q3c2 q3f0 q3f1 q3f2
      obtain ⟨q4c0, q4c1, q4c2, q4f0, q4f1, q4f2, _⟩ := t4.out
      obtain ⟨q5c0, q5c1, q5c2, q5f0, q5f1, q5f2, _⟩ := t6.out
      go_wp2_with fail
      refine (HE.out _ hx.out).mono ?_
      rintro e w4 ⟨rfl, hq⟩
      replace hx := hide (hx.out.up hq)
      replace hy := hide (hy.out.up hq)
      replace t4 := hide (t4.out.up hq)
      replace t6 := hide (t6.out.up hq)
      replace hb := hide (upB hb.out hq)
      clear hq
      clear q4c0 q4c1 q4c2 q4f0 q4f1 q4f2 q5c0 q5c1 q5c2 q5f0 q5f1 q5f2
      obtain ⟨q6c0, q6c1, q6c2, q6f0, q6f1, q6f2, _⟩ := t4.out
      obtain ⟨q7c0, q7c1, q7c2, q7f0, q7f1, q7f2, _⟩ := t6.out
      go_wp2_with fail
      refine (alive_c _).mono ?_
      rintro e w5 ⟨rfl, hq⟩
      replace hx := hide (hx.out.up hq)
      replace hy := hide (hy.out.up hq)
      replace t4 := hide (t4.out.up hq)
      replace t6 := hide (t6.out.up hq)
      replace hb := hide (upB hb.out hq)
      clear hq
      clear q6c0 q6c1 q6c2 q6f0 q6f1 q6f2 q7c0 q7c1 q7c2 q7f0 q7f1 q7f2
      obtain ⟨q8c0, q8c1, q8c2, q8f0, q8f1, q8f2, _⟩ := t4.out
      obtain ⟨q9c0, q9c1, q9c2, q9f0, q9f1, q9f2, _⟩ := t6.out
      go_wp2_with fail
      go_ret
      exact ⟨rfl, hb.out⟩
    | true =>
      obtain ⟨hT, hv2, hq2⟩ := hyes.out rfl
      have hT := hide hT
      have HI2 := hide (fun (W : World) (hl : LaidN W) => readPlace_impl (s ++ ⟨#[32]⟩) W hl)
      rw [hv2, hq2] at HI2
      clear hv2 hq2
      have q1 : ¬ 9223372036854775807 < s.size + 1 := by omega
      clear q2c0 q2c1 q2c2 q2f0 q2f1 q2f2 q3c0 q3c1 q3c2 q3f0 q3f1 q3f2
      obtain ⟨q10c0, q10c1, q10c2, q10f0, q10f1, q10f2, _⟩ := t4.out
      obtain ⟨q11c0, q11c1, q11c2, q11f0, q11f1, q11f2, _⟩ := t6.out
      go_wp2_with fail
      refine (HI2.out _ (hL.up hb.out)).mono ?_
      rintro e w4 ⟨uz, rfl, hz, hq⟩
      replace hx := hide (hx.out.up hq)
      replace hy := hide (hy.out.up hq)
      replace t4 := hide (t4.out.up hq)
      replace t6 := hide (t6.out.up hq)
      replace hb := hide (upB hb.out hq)
      clear hq
      replace hz := hide hz.plM
      obtain ⟨Az, nz, cz, Bz, mz, dz, rfl, _⟩ := hz.out.ex
      replace hx := hide (hx.out.up (al w4 (.cells #[.slice Az nz cz, .int .i64 noPlc.step, .slice Bz mz dz] 24)))
      replace hy := hide (hy.out.up (al w4 (.cells #[.slice Az nz cz, .int .i64 noPlc.step, .slice Bz mz dz] 24)))
      replace hz := hide (hz.out.up (al w4 (.cells #[.slice Az nz cz, .int .i64 noPlc.step, .slice Bz mz dz] 24)))
      replace t4 := hide (t4.out.up (al w4 (.cells #[.slice Az nz cz, .int .i64 noPlc.step, .slice Bz mz dz] 24)))
      replace t6 := hide (t6.out.up (al w4 (.cells #[.slice Az nz cz, .int .i64 noPlc.step, .slice Bz mz dz] 24)))
      replace hb := hide (upB hb.out (al w4 (.cells #[.slice Az nz cz, .int .i64 noPlc.step, .slice Bz mz dz] 24)))
      have t8 := hide (TriW.made w4 (.slice Az nz cz) (.int .i64 noPlc.step) (.slice Bz mz dz) 24)
      have HT := hide (placeText_impl _ P _ _ hx.out (Nat.le_refl _) (hL.up hb.out).t)
      rw [hT.out] at HT
      clear q10c0 q10c1 q10c2 q10f0 q10f1 q10f2 q11c0 q11c1 q11c2 q11f0 q11f1 q11f2
      obtain ⟨q12c0, q12c1, q12c2, q12f0, q12f1, q12f2, _⟩ := t4.out
      obtain ⟨q13c0, q13c1, q13c2, q13f0, q13f1, q13f2, _⟩ := t6.out
      obtain ⟨q14c0, q14c1, q14c2, q14f0, q14f1, q14f2, _⟩ := t8.out
      go_wp2_with fail
      refine (HT.out).mono ?_
      rintro e w5 ⟨rfl, hq⟩
      replace hx := hide (hx.out.up hq)
      replace hy := hide (hy.out.up hq)
      replace hz := hide (hz.out.up hq)
      replace t4 := hide (t4.out.up hq)
      replace t6 := hide (t6.out.up hq)
      replace t8 := hide (t8.out.up hq)
      replace hb := hide (upB hb.out hq)
      clear hq
      clear q12c0 q12c1 q12c2 q12f0 q12f1 q12f2 q13c0 q13c1 q13c2 q13f0 q13f1 q13f2 q14c0 q14c1 q14c2 q14f0 q14f1 q14f2
      obtain ⟨q15c0, q15c1, q15c2, q15f0, q15f1, q15f2, _⟩ := t4.out
      obtain ⟨q16c0, q16c1, q16c2, q16f0, q16f1, q16f2, _⟩ := t6.out
      obtain ⟨q17c0, q17c1, q17c2, q17f0, q17f1, q17f2, _⟩ := t8.out
      go_wp2_with fail
      go_ret
      exact ⟨by simp, hb.out⟩
end Go.Proofs.YtkgfbmlhplclfaaGreatDoor
