/-
  Exact laws of chapter 14 walked: ReadPlace (written by wip/gen_f9.py).
-/
import Derived.Test.YtkgfbmlhplclfaaGreatDoorReadPI
import Derived.Test.YtkgfbmlhplclfaaGreatDoorReadP
import Derived.Test.YtkgfbmlhplclfaaGreatDoorOnlyX
import Derived.Test.YtkgfbmlhplclfaaGreatDoorZdraw
namespace Go.Proofs.YtkgfbmlhplclfaaGreatDoor
open Go.RowKit
set_option linter.unusedVariables false

theorem readQ_small (l : Bs) : (readQ l).start.length ≤ 3 ∧ (readQ l).word.length ≤ 6 := by
  cases h : readPB l with
  | true =>
    obtain ⟨⟨_, g⟩, _, _, g2, _⟩ := placeOk_yes (readPB_yes h).1
    exact ⟨g, g2⟩
  | false => rw [readPB_no h]; exact ⟨Nat.zero_le _, Nat.zero_le _⟩

set_option maxRecDepth 100000 in
set_option maxHeartbeats 3200000 in
theorem exReadPlace (s : ByteArray) (w : World) (hs0 : s.size ≤ maxLen) (hL : LaidN w) :
    Calls Tryz.prog 3 #[.string s] w fun e w' => e = .returned (.bool true) ∧ Below w.heap.size w w' := by
  unfold maxLen at hs0
  by_cases hs : 1048576 < s.size
  · go_enter Tryz.func3, Tryz.ntmps3
    go_wp2
    go_ret
    exact ⟨rfl, Below.refl _ _⟩
  ·
    have HS := hide (readPlace_spec s w (by omega))
    have HI := hide (fun (W : World) (hl : LaidN W) => readPlace_impl s W hl)
    obtain ⟨V, hV⟩ : ∃ V, Hid (readPB (bts s) = V) := ⟨_, hide rfl⟩
    obtain ⟨P, hP⟩ : ∃ P, Hid (readQ (bts s) = P) := ⟨_, hide rfl⟩
    have hPs := hide (readQ_small (bts s))
    rw [hV.out, hP.out] at HS HI
    rw [hP.out] at hPs
    skip
    go_enter Tryz.func3, Tryz.ntmps3
    go_wp2_with fail
    refine (HS.out).mono ?_
    rintro e w1 ⟨u0, rfl, hp0, hq⟩
    have hb := hide (upB (Below.refl _ _) hq)
    clear hq
    have hw01 : w.heap.size ≤ w1.heap.size := hb.out.size
    have hw0 := hide (show PlB w1 w1.heap.size u0 P from ⟨hp0, Nat.le_refl _⟩)
    clear hp0
    obtain ⟨A0, n0, c0, B0, m0, d0, rfl, _⟩ := hw0.out.pl.ex
    replace hw0 := hide (hw0.out.up (al w1 (.cells #[.slice A0 n0 c0, .int .i64 P.step, .slice B0 m0 d0] 24)))
    replace hb := hide (upB hb.out (al w1 (.cells #[.slice A0 n0 c0, .int .i64 P.step, .slice B0 m0 d0] 24)))
    have t3 := hide (TriW.made w1 (.slice A0 n0 c0) (.int .i64 P.step) (.slice B0 m0 d0) 24)
    have hlo := hide (show w1.heap.size + 1 = (w1.alloc (.cells #[.slice A0 n0 c0, .int .i64 P.step, .slice B0 m0 d0] 24)).heap.size by simp)
    obtain ⟨q1c0, q1c1, q1c2, q1f0, q1f1, q1f2, _⟩ := t3.out
    go_wp2_with fail
    refine (HI.out _ (hL.up hb.out)).mono ?_
    rintro e w2 ⟨u1, rfl, hg, hq⟩
    replace hw0 := hide (hw0.out.up hq)
    replace t3 := hide (t3.out.up hq)
    replace hb := hide (upB hb.out hq)
    clear hq
    obtain ⟨A1, n1, c1, B1, m1, d1, rfl, o1, o2, hne, hwf⟩ := hg.ex
    clear hg
    have hlo2 : w1.heap.size + 1 ≤ w2.heap.size := by have h1 := t3.out.lt; omega
    replace hlo := hide (show w1.heap.size + 1 ≤ w2.heap.size from hlo2)
    obtain ⟨LO, hLO⟩ : ∃ L, Hid ((w1.alloc (.cells #[.slice A0 n0 c0, .int .i64 P.step, .slice B0 m0 d0] 24)).heap.size = L) := ⟨_, hide rfl⟩
    have hLO2 : w1.heap.size + 1 = LO := by rw [← hLO.out]; simp
    rw [hLO.out] at o1 o2
    have ho1 := hide o1
    have ho2 := hide o2
    clear o1 o2
    have hz1 := hide ho1.out.len
    have hz2 := hide ho2.out.len
    have hb1 := hide (fun g h => (ho1.out.row.lt g h).2)
    have hb2 := hide (fun g h => (ho2.out.row.lt g h).2)
    have hn1 : n1 ≤ 1000 := by have := hz1.out; have := hPs.out.1; omega
    have hm1 : m1 ≤ 1000 := by have := hz2.out; have := hPs.out.2; omega
    have hpm := hide (plM_mk (p := P) ho1.out.ints ho2.out.ints hwf)
    replace hw0 := hide (hw0.out.up (al w2 (.cells #[.slice A1 n1 c1, .int .i64 P.step, .slice B1 m1 d1] 24)))
    replace ho1 := hide (ho1.out.up (al w2 (.cells #[.slice A1 n1 c1, .int .i64 P.step, .slice B1 m1 d1] 24)))
    replace ho2 := hide (ho2.out.up (al w2 (.cells #[.slice A1 n1 c1, .int .i64 P.step, .slice B1 m1 d1] 24)))
    replace hpm := hide (hpm.out.up (al w2 (.cells #[.slice A1 n1 c1, .int .i64 P.step, .slice B1 m1 d1] 24)))
    replace t3 := hide (t3.out.up (al w2 (.cells #[.slice A1 n1 c1, .int .i64 P.step, .slice B1 m1 d1] 24)))
    replace hb := hide (upB hb.out (al w2 (.cells #[.slice A1 n1 c1, .int .i64 P.step, .slice B1 m1 d1] 24)))
    have t5 := hide (TriW.made w2 (.slice A1 n1 c1) (.int .i64 P.step) (.slice B1 m1 d1) 24)
    clear q1c0 q1c1 q1c2 q1f0 q1f1 q1f2
    obtain ⟨q2c0, q2c1, q2c2, q2f0, q2f1, q2f2, _⟩ := t3.out
    obtain ⟨q3c0, q3c1, q3c2, q3f0, q3f1, q3f2, _⟩ := t5.out
    go_wp2_with fail
    refine (eqPlace_c _ _ P P _ _ _ hpm.out hw0.out.plM (Nat.le_refl _) (Nat.le_refl _)).mono ?_
    rw [sameP_refl]
    rintro e w3 ⟨rfl, hq⟩
    replace hw0 := hide (hw0.out.up hq)
    replace ho1 := hide (ho1.out.up hq)
    replace ho2 := hide (ho2.out.up hq)
    replace hpm := hide (hpm.out.up hq)
    replace t3 := hide (t3.out.up hq)
    replace t5 := hide (t5.out.up hq)
    replace hb := hide (upB hb.out hq)
    clear hq
    clear hpm
    clear q2c0 q2c1 q2c2 q2f0 q2f1 q2f2 q3c0 q3c1 q3c2 q3f0 q3f1 q3f2
    obtain ⟨q4c0, q4c1, q4c2, q4f0, q4f1, q4f2, _⟩ := t3.out
    obtain ⟨q5c0, q5c1, q5c2, q5f0, q5f1, q5f2, _⟩ := t5.out
    go_wp2_with fail
    refine (markPlace_c A1 n1 c1 P.step B1 m1 d1 LO w2.heap.size 1 P.start P.word _ ho1.out ho2.out hne (hb1.out) (hb2.out) (by omega) (by omega) (by omega) (by omega)).mono ?_
    rintro e w4 ⟨rfl, k1, k2, hO⟩
    replace ho1 := hide k1
    replace ho2 := hide k2
    replace hw0 := hide (hw0.out.only hO (by omega))
    replace t3 := hide (t3.out.only hO (.inl (by omega)))
    replace t5 := hide (t5.out.only hO (.inr (Nat.le_refl _)))
    replace hb := hide (belowSize hb.out hO (by omega))
    clear k1 k2 hO
    obtain ⟨K, hK⟩ : ∃ K : Int, Hid (1 + (n1 : Int) + (m1 : Int) = K) := ⟨_, hide rfl⟩
    rw [hK.out]
    have hK0 : 0 ≤ K := by have := hK.out; omega
    have HHa := hide (fun (W : World) (h1 : Ints W W.heap.size A1 n1 c1 (mrk P.start 1 n1)) (h2 : Ints W W.heap.size B1 m1 d1 (mrk P.word (1 + (n1 : Int)) m1)) => heldPlace_c A1 n1 c1 P.step B1 m1 d1 _ 1 P.start P.word W h1 h2 (Nat.le_refl _) hz1.out hz2.out (by omega) (by omega) (by omega) (by omega))
    rw [hK.out] at HHa
    clear q4c0 q4c1 q4c2 q4f0 q4f1 q4f2 q5c0 q5c1 q5c2 q5f0 q5f1 q5f2
    obtain ⟨q6c0, q6c1, q6c2, q6f0, q6f1, q6f2, _⟩ := t3.out
    obtain ⟨q7c0, q7c1, q7c2, q7f0, q7f1, q7f2, _⟩ := t5.out
    go_wp2_with fail
    refine (HHa.out _ ho1.out.ints ho2.out.ints).mono ?_
    rintro e w5 ⟨rfl, hq⟩
    replace hw0 := hide (hw0.out.up hq)
    replace ho1 := hide (ho1.out.up hq)
    replace ho2 := hide (ho2.out.up hq)
    replace t3 := hide (t3.out.up hq)
    replace t5 := hide (t5.out.up hq)
    replace hb := hide (upB hb.out hq)
    clear hq
    clear HHa
    clear q6c0 q6c1 q6c2 q6f0 q6f1 q6f2 q7c0 q7c1 q7c2 q7f0 q7f1 q7f2
    obtain ⟨q8c0, q8c1, q8c2, q8f0, q8f1, q8f2, _⟩ := t3.out
    obtain ⟨q9c0, q9c1, q9c2, q9f0, q9f1, q9f2, _⟩ := t5.out
    go_wp2_with fail
    refine (HI.out _ (hL.up hb.out)).mono ?_
    rintro e w6 ⟨u6, rfl, hg, hq⟩
    replace hw0 := hide (hw0.out.up hq)
    replace ho1 := hide (ho1.out.up hq)
    replace ho2 := hide (ho2.out.up hq)
    replace t3 := hide (t3.out.up hq)
    replace t5 := hide (t5.out.up hq)
    replace hb := hide (upB hb.out hq)
    clear hq
    have hpm := hide hg.plM
    clear hg
    obtain ⟨A6, n6, c6, B6, m6, d6, rfl, _⟩ := hpm.out.ex
    replace hw0 := hide (hw0.out.up (al w6 (.cells #[.slice A6 n6 c6, .int .i64 P.step, .slice B6 m6 d6] 24)))
    replace ho1 := hide (ho1.out.up (al w6 (.cells #[.slice A6 n6 c6, .int .i64 P.step, .slice B6 m6 d6] 24)))
    replace ho2 := hide (ho2.out.up (al w6 (.cells #[.slice A6 n6 c6, .int .i64 P.step, .slice B6 m6 d6] 24)))
    replace hpm := hide (hpm.out.up (al w6 (.cells #[.slice A6 n6 c6, .int .i64 P.step, .slice B6 m6 d6] 24)))
    replace t3 := hide (t3.out.up (al w6 (.cells #[.slice A6 n6 c6, .int .i64 P.step, .slice B6 m6 d6] 24)))
    replace t5 := hide (t5.out.up (al w6 (.cells #[.slice A6 n6 c6, .int .i64 P.step, .slice B6 m6 d6] 24)))
    replace hb := hide (upB hb.out (al w6 (.cells #[.slice A6 n6 c6, .int .i64 P.step, .slice B6 m6 d6] 24)))
    have t9 := hide (TriW.made w6 (.slice A6 n6 c6) (.int .i64 P.step) (.slice B6 m6 d6) 24)
    clear q8c0 q8c1 q8c2 q8f0 q8f1 q8f2 q9c0 q9c1 q9c2 q9f0 q9f1 q9f2
    obtain ⟨q10c0, q10c1, q10c2, q10f0, q10f1, q10f2, _⟩ := t3.out
    obtain ⟨q11c0, q11c1, q11c2, q11f0, q11f1, q11f2, _⟩ := t5.out
    obtain ⟨q12c0, q12c1, q12c2, q12f0, q12f1, q12f2, _⟩ := t9.out
    go_wp2_with fail
    refine (eqPlace_c _ _ P P _ _ _ hpm.out hw0.out.plM (Nat.le_refl _) (Nat.le_refl _)).mono ?_
    rw [sameP_refl]
    rintro e w7 ⟨rfl, hq⟩
    replace hw0 := hide (hw0.out.up hq)
    replace ho1 := hide (ho1.out.up hq)
    replace ho2 := hide (ho2.out.up hq)
    replace hpm := hide (hpm.out.up hq)
    replace t3 := hide (t3.out.up hq)
    replace t5 := hide (t5.out.up hq)
    replace t9 := hide (t9.out.up hq)
    replace hb := hide (upB hb.out hq)
    clear hq
    have HHb := hide (fun (W : World) (h1 : Ints W W.heap.size A1 n1 c1 (mrk P.start 1 n1)) (h2 : Ints W W.heap.size B1 m1 d1 (mrk P.word (1 + (n1 : Int)) m1)) => heldPlace_c A1 n1 c1 P.step B1 m1 d1 _ 1 P.start P.word W h1 h2 (Nat.le_refl _) hz1.out hz2.out (by omega) (by omega) (by omega) (by omega))
    rw [hK.out] at HHb
    clear q10c0 q10c1 q10c2 q10f0 q10f1 q10f2 q11c0 q11c1 q11c2 q11f0 q11f1 q11f2 q12c0 q12c1 q12c2 q12f0 q12f1 q12f2
    obtain ⟨q13c0, q13c1, q13c2, q13f0, q13f1, q13f2, _⟩ := t3.out
    obtain ⟨q14c0, q14c1, q14c2, q14f0, q14f1, q14f2, _⟩ := t5.out
    obtain ⟨q15c0, q15c1, q15c2, q15f0, q15f1, q15f2, _⟩ := t9.out
    go_wp2_with fail
    refine (HHb.out _ ho1.out.ints ho2.out.ints).mono ?_
    rintro e w8 ⟨rfl, hq⟩
    replace hw0 := hide (hw0.out.up hq)
    replace ho1 := hide (ho1.out.up hq)
    replace ho2 := hide (ho2.out.up hq)
    replace hpm := hide (hpm.out.up hq)
    replace t3 := hide (t3.out.up hq)
    replace t5 := hide (t5.out.up hq)
    replace t9 := hide (t9.out.up hq)
    replace hb := hide (upB hb.out hq)
    clear hq
    clear HHb
    clear q13c0 q13c1 q13c2 q13f0 q13f1 q13f2 q14c0 q14c1 q14c2 q14f0 q14f1 q14f2 q15c0 q15c1 q15c2 q15f0 q15f1 q15f2
    obtain ⟨q16c0, q16c1, q16c2, q16f0, q16f1, q16f2, _⟩ := t3.out
    obtain ⟨q17c0, q17c1, q17c2, q17f0, q17f1, q17f2, _⟩ := t5.out
    obtain ⟨q18c0, q18c1, q18c2, q18f0, q18f1, q18f2, _⟩ := t9.out
    go_wp2_with fail
    go_ret
    exact ⟨rfl, hb.out⟩
end Go.Proofs.YtkgfbmlhplclfaaGreatDoor
