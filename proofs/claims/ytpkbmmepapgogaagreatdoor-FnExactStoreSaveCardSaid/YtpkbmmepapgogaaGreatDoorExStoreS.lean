/-
  Exact laws of chapter 14 walked: StoreSave (written by wip/gen_h6.py).
-/
import Derived.Test.YtpkbmmepapgogaaGreatDoorZsp
import Derived.Test.YtpkbmmepapgogaaGreatDoorZdraw
namespace Go.Proofs.YtpkbmmepapgogaaGreatDoor
open Go.RowKit
set_option linter.unusedVariables false

set_option maxRecDepth 100000 in
set_option maxHeartbeats 3200000 in
theorem exStoreSave (s : Sto) (w : World) (h1 : s.saved.size ≤ maxLen) (h2 : s.log.size ≤ maxLen) (hL : LaidN w) (hD : LaidD w) :
    Calls Tryz.prog 5 #[.agg #[.string s.saved, .string s.log, .int .i64 s.sure]] w fun e w' => e = .returned (.bool true) ∧ Below w.heap.size w w' := by
  unfold maxLen at h1 h2
  have hx1 := hide (szStore_c s)
  have hx2 := hide (toStore_c s)
  have HS := hide (fun (W : World) (h : s.saved.size ≤ 1048576) => storeSave_spec s W h)
  have HI := hide (fun (W : World) (hq : Below w.heap.size w W) => storeSave_impl s W (hL.up hq) (hD.up hq))
  obtain ⟨R, hR⟩ : ∃ R, Hid (saveX s = R) := ⟨_, hide rfl⟩
  rw [hR.out] at HS HI
  obtain ⟨K, hK⟩ : ∃ K, Hid (storeOk s = K) := ⟨_, hide rfl⟩
  rw [hK.out] at HS HI
  go_enter Tryz.func5, Tryz.ntmps5
  have hb := hide (al w (.cells #[.string s.saved, .string s.log, .int .i64 s.sure] 23))
  have t1 := hide (TriW.made w (.string s.saved) (.string s.log) (.int .i64 s.sure) 23)
  obtain ⟨q1c0, q1c1, q1c2, q1f0, q1f1, q1f2, _⟩ := t1.out
  go_wp2_with fail
  refine (hx1.out _ h1 h2).mono ?_
  rintro e w1 ⟨⟨x, rfl, hxb, hxl, hx⟩, hq⟩
  replace t1 := hide (t1.out.up hq)
  replace hb := hide (upB hb.out hq)
  clear hq
  by_cases hneg : x < 0
  ·
    clear q1c0 q1c1 q1c2 q1f0 q1f1 q1f2
    obtain ⟨q2c0, q2c1, q2c2, q2f0, q2f1, q2f2, _⟩ := t1.out
    go_wp2_with fail
    go_ret
    exact ⟨rfl, hb.out⟩
  ·
    have hsz : s.saved.size ≤ 1048576 := by have := hx.out (by omega); omega
    clear q1c0 q1c1 q1c2 q1f0 q1f1 q1f2
    obtain ⟨q3c0, q3c1, q3c2, q3f0, q3f1, q3f2, _⟩ := t1.out
    go_wp2_with fail
    refine (hx2.out _).mono ?_
    rintro e w2 ⟨rfl, hq⟩
    replace t1 := hide (t1.out.up hq)
    replace hb := hide (upB hb.out hq)
    clear hq
    clear q3c0 q3c1 q3c2 q3f0 q3f1 q3f2
    obtain ⟨q4c0, q4c1, q4c2, q4f0, q4f1, q4f2, _⟩ := t1.out
    go_wp2_with fail
    refine (HS.out _ hsz).mono ?_
    rintro e w3 ⟨rfl, hq⟩
    replace t1 := hide (t1.out.up hq)
    replace hb := hide (upB hb.out hq)
    clear hq
    replace t1 := hide (t1.out.up (al w3 (.cells #[.string R.saved, .string R.log, .int .i64 R.sure] 33)))
    replace hb := hide (upB hb.out (al w3 (.cells #[.string R.saved, .string R.log, .int .i64 R.sure] 33)))
    have t3 := hide (TriW.made w3 (.string R.saved) (.string R.log) (.int .i64 R.sure) 33)
    clear q4c0 q4c1 q4c2 q4f0 q4f1 q4f2
    obtain ⟨q5c0, q5c1, q5c2, q5f0, q5f1, q5f2, _⟩ := t1.out
    obtain ⟨q6c0, q6c1, q6c2, q6f0, q6f1, q6f2, _⟩ := t3.out
    go_wp2_with fail
    refine (hx2.out _).mono ?_
    rintro e w4 ⟨rfl, hq⟩
    replace t1 := hide (t1.out.up hq)
    replace t3 := hide (t3.out.up hq)
    replace hb := hide (upB hb.out hq)
    clear hq
    clear q5c0 q5c1 q5c2 q5f0 q5f1 q5f2 q6c0 q6c1 q6c2 q6f0 q6f1 q6f2
    obtain ⟨q7c0, q7c1, q7c2, q7f0, q7f1, q7f2, _⟩ := t1.out
    obtain ⟨q8c0, q8c1, q8c2, q8f0, q8f1, q8f2, _⟩ := t3.out
    go_wp2_with fail
    refine (HI.out _ hb.out).mono ?_
    rintro e w5 ⟨rfl, hq⟩
    replace t1 := hide (t1.out.up hq)
    replace t3 := hide (t3.out.up hq)
    replace hb := hide (upB hb.out hq)
    clear hq
    replace t1 := hide (t1.out.up (al w5 (.cells #[.string R.saved, .string R.log, .int .i64 R.sure] 33)))
    replace t3 := hide (t3.out.up (al w5 (.cells #[.string R.saved, .string R.log, .int .i64 R.sure] 33)))
    replace hb := hide (upB hb.out (al w5 (.cells #[.string R.saved, .string R.log, .int .i64 R.sure] 33)))
    have t5 := hide (TriW.made w5 (.string R.saved) (.string R.log) (.int .i64 R.sure) 33)
    clear q7c0 q7c1 q7c2 q7f0 q7f1 q7f2 q8c0 q8c1 q8c2 q8f0 q8f1 q8f2
    obtain ⟨q9c0, q9c1, q9c2, q9f0, q9f1, q9f2, _⟩ := t1.out
    obtain ⟨q10c0, q10c1, q10c2, q10f0, q10f1, q10f2, _⟩ := t3.out
    obtain ⟨q11c0, q11c1, q11c2, q11f0, q11f1, q11f2, _⟩ := t5.out
    go_wp2_with fail
    refine (eqStore_c R _).mono ?_
    rintro e w6 ⟨rfl, hq⟩
    replace t1 := hide (t1.out.up hq)
    replace t3 := hide (t3.out.up hq)
    replace t5 := hide (t5.out.up hq)
    replace hb := hide (upB hb.out hq)
    clear hq
    clear q9c0 q9c1 q9c2 q9f0 q9f1 q9f2 q10c0 q10c1 q10c2 q10f0 q10f1 q10f2 q11c0 q11c1 q11c2 q11f0 q11f1 q11f2
    obtain ⟨q12c0, q12c1, q12c2, q12f0, q12f1, q12f2, _⟩ := t1.out
    obtain ⟨q13c0, q13c1, q13c2, q13f0, q13f1, q13f2, _⟩ := t3.out
    obtain ⟨q14c0, q14c1, q14c2, q14f0, q14f1, q14f2, _⟩ := t5.out
    go_wp2_with fail
    go_ret
    exact ⟨rfl, hb.out⟩
end Go.Proofs.YtpkbmmepapgogaaGreatDoor
