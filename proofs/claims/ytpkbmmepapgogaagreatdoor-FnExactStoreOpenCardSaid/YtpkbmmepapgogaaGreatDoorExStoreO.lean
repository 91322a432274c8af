/-
  Exact laws of chapter 14 walked: StoreOpen (written by wip/gen_h6.py).
-/
import Derived.Test.YtpkbmmepapgogaaGreatDoorZsp
import Derived.Test.YtpkbmmepapgogaaGreatDoorZmd
import Derived.Test.YtpkbmmepapgogaaGreatDoorZdraw
namespace Go.Proofs.YtpkbmmepapgogaaGreatDoor
open Go.RowKit
set_option linter.unusedVariables false

set_option maxRecDepth 100000 in
set_option maxHeartbeats 3200000 in
theorem exStoreOpen (s : Sto) (w : World) (h1 : s.saved.size ≤ maxLen) (h2 : s.log.size ≤ maxLen) (hL : LaidN w) (hD : LaidD w) :
    Calls Tryz.prog 3 #[.agg #[.string s.saved, .string s.log, .int .i64 s.sure]] w fun e w' => e = .returned (.bool true) ∧ Below w.heap.size w w' := by
  unfold maxLen at h1 h2
  have hx1 := hide (szStore_c s)
  have hx2 := hide (toStore_c s)
  replace hL := hide hL
  replace hD := hide hD
  have HS := hide (fun (W : World) (h : s.saved.size ≤ 1048576) => storeOpen_spec s W h)
  have HI := hide (fun (W : World) (hq : Below w.heap.size w W) => storeOpen_impl s W (hL.out.up hq) (hD.out.up hq))
  have hRs := hide (smallD_ok (d := openX s) (by
    cases h : storeOk s with
    | true => exact .inl (openX_ok h)
    | false => exact .inr (openX_no h)))
  obtain ⟨R, hR⟩ : ∃ R, Hid (openX s = R) := ⟨_, hide rfl⟩
  obtain ⟨K, hK⟩ : ∃ K, Hid (storeOk s = K) := ⟨_, hide rfl⟩
  rw [hR.out, hK.out] at HS HI
  rw [hR.out] at hRs
  have hb := hide (Below.refl w.heap.size w)
  have z1 := hide (show (w.alloc (.cells #[.string s.saved, .string s.log, .int .i64 s.sure] 23)).heap.size = w.heap.size + 1 by simp)
  replace hb := hide (upB hb.out (al w (.cells #[.string s.saved, .string s.log, .int .i64 s.sure] 23)))
  have t1 := hide (TriW.made w (.string s.saved) (.string s.log) (.int .i64 s.sure) 23)
  go_enter Tryz.func3, Tryz.ntmps3
  obtain ⟨q1c0, q1c1, q1c2, q1f0, q1f1, q1f2, _⟩ := t1.out
  go_wp2_with fail
  refine (hx1.out _ h1 h2).mono ?_
  rintro e w1 ⟨⟨x, rfl, hxb, hxl, hx⟩, hq⟩
  have z2 := hide ((hq).size)
  replace t1 := hide (t1.out.up hq)
  replace hb := hide (upB hb.out hq)
  clear hq
  by_cases hneg : x < 0
  ·
    clear q1c0 q1c1 q1c2 q1f0 q1f1 q1f2
    obtain ⟨q2c0, q2c1, q2c2, q2f0, q2f1, q2f2, _⟩ := t1.out
    go_wp2_with fail
    go_ret
    exact ⟨rfl, hb.out⟩
  ·
    have hsz : s.saved.size ≤ 1048576 := by have := hx.out (by omega); omega
    clear hx
    clear q1c0 q1c1 q1c2 q1f0 q1f1 q1f2
    obtain ⟨q3c0, q3c1, q3c2, q3f0, q3f1, q3f2, _⟩ := t1.out
    go_wp2_with fail
    refine (hx2.out _).mono ?_
    rintro e w2 ⟨rfl, hq⟩
    have z3 := hide ((hq).size)
    replace t1 := hide (t1.out.up hq)
    replace hb := hide (upB hb.out hq)
    clear hq
    clear q3c0 q3c1 q3c2 q3f0 q3f1 q3f2
    obtain ⟨q4c0, q4c1, q4c2, q4f0, q4f1, q4f2, _⟩ := t1.out
    go_wp2_with fail
    refine (HS.out _ hsz).mono ?_
    rintro e w3 ⟨u0, rfl, h0, hq⟩
    have z4 := hide ((hq).size)
    replace t1 := hide (t1.out.up hq)
    replace hb := hide (upB hb.out hq)
    clear hq
    have hw0 := hide (show DkB w3 w3.heap.size u0 R from ⟨h0.dkM, Nat.le_refl _⟩)
    obtain ⟨A0, n0, c0, B0, m0, d0, E0, r0, s0, rfl⟩ := h0.open_
    clear h0
    have z5 := hide (show (w3.alloc (.cells #[.slice A0 n0 c0, .int .i64 R.now.step, .slice B0 m0 d0, .slice E0 r0 s0] 30)).heap.size = w3.heap.size + 1 by simp)
    replace hw0 := hide (hw0.out.up (al w3 (.cells #[.slice A0 n0 c0, .int .i64 R.now.step, .slice B0 m0 d0, .slice E0 r0 s0] 30)))
    replace t1 := hide (t1.out.up (al w3 (.cells #[.slice A0 n0 c0, .int .i64 R.now.step, .slice B0 m0 d0, .slice E0 r0 s0] 30)))
    replace hb := hide (upB hb.out (al w3 (.cells #[.slice A0 n0 c0, .int .i64 R.now.step, .slice B0 m0 d0, .slice E0 r0 s0] 30)))
    have t4 := hide (QuaW.made w3 (.slice A0 n0 c0) (.int .i64 R.now.step) (.slice B0 m0 d0) (.slice E0 r0 s0) 30)
    clear q4c0 q4c1 q4c2 q4f0 q4f1 q4f2
    obtain ⟨q5c0, q5c1, q5c2, q5f0, q5f1, q5f2, _⟩ := t1.out
    obtain ⟨q6c0, q6c1, q6c2, q6c3, q6f0, q6f1, q6f2, q6f3, _⟩ := t4.out
    go_wp2_with fail
    refine (hx2.out _).mono ?_
    rintro e w4 ⟨rfl, hq⟩
    have z6 := hide ((hq).size)
    replace hw0 := hide (hw0.out.up hq)
    replace t1 := hide (t1.out.up hq)
    replace t4 := hide (t4.out.up hq)
    replace hb := hide (upB hb.out hq)
    clear hq
    clear q5c0 q5c1 q5c2 q5f0 q5f1 q5f2 q6c0 q6c1 q6c2 q6c3 q6f0 q6f1 q6f2 q6f3
    obtain ⟨q7c0, q7c1, q7c2, q7f0, q7f1, q7f2, _⟩ := t1.out
    obtain ⟨q8c0, q8c1, q8c2, q8c3, q8f0, q8f1, q8f2, q8f3, _⟩ := t4.out
    go_wp2_with fail
    refine (HI.out _ hb.out).mono ?_
    rintro e w5 ⟨u1, rfl, h1g, hq⟩
    have z7 := hide ((hq).size)
    replace hw0 := hide (hw0.out.up hq)
    replace t1 := hide (t1.out.up hq)
    replace t4 := hide (t4.out.up hq)
    replace hb := hide (upB hb.out hq)
    clear hq
    have hg := hide h1g.toH
    obtain ⟨A1, n1, c1, B1, m1, d1, E1, r1, s1, rfl⟩ := h1g.dkM.open_
    clear h1g
    have z8 := hide (show (w5.alloc (.cells #[.slice A1 n1 c1, .int .i64 R.now.step, .slice B1 m1 d1, .slice E1 r1 s1] 30)).heap.size = w5.heap.size + 1 by simp)
    replace hw0 := hide (hw0.out.up (al w5 (.cells #[.slice A1 n1 c1, .int .i64 R.now.step, .slice B1 m1 d1, .slice E1 r1 s1] 30)))
    replace hg := hide (hg.out.up (al w5 (.cells #[.slice A1 n1 c1, .int .i64 R.now.step, .slice B1 m1 d1, .slice E1 r1 s1] 30)))
    replace t1 := hide (t1.out.up (al w5 (.cells #[.slice A1 n1 c1, .int .i64 R.now.step, .slice B1 m1 d1, .slice E1 r1 s1] 30)))
    replace t4 := hide (t4.out.up (al w5 (.cells #[.slice A1 n1 c1, .int .i64 R.now.step, .slice B1 m1 d1, .slice E1 r1 s1] 30)))
    replace hb := hide (upB hb.out (al w5 (.cells #[.slice A1 n1 c1, .int .i64 R.now.step, .slice B1 m1 d1, .slice E1 r1 s1] 30)))
    have t6 := hide (QuaW.made w5 (.slice A1 n1 c1) (.int .i64 R.now.step) (.slice B1 m1 d1) (.slice E1 r1 s1) 30)
    clear q7c0 q7c1 q7c2 q7f0 q7f1 q7f2 q8c0 q8c1 q8c2 q8c3 q8f0 q8f1 q8f2 q8f3
    obtain ⟨q9c0, q9c1, q9c2, q9f0, q9f1, q9f2, _⟩ := t1.out
    obtain ⟨q10c0, q10c1, q10c2, q10c3, q10f0, q10f1, q10f2, q10f3, _⟩ := t4.out
    obtain ⟨q11c0, q11c1, q11c2, q11c3, q11f0, q11f1, q11f2, q11f3, _⟩ := t6.out
    go_wp2_with fail
    refine (eqDesk_c _ _ R _ _ _ hg.out.dkM hw0.out.dkM (Nat.le_refl _) (Nat.le_refl _)).mono ?_
    rintro e w6 ⟨rfl, hq⟩
    have z9 := hide ((hq).size)
    replace hw0 := hide (hw0.out.up hq)
    replace hg := hide (hg.out.up hq)
    replace t1 := hide (t1.out.up hq)
    replace t4 := hide (t4.out.up hq)
    replace t6 := hide (t6.out.up hq)
    replace hb := hide (upB hb.out hq)
    clear hq
    clear q9c0 q9c1 q9c2 q9f0 q9f1 q9f2 q10c0 q10c1 q10c2 q10c3 q10f0 q10f1 q10f2 q10f3 q11c0 q11c1 q11c2 q11c3 q11f0 q11f1 q11f2 q11f3
    obtain ⟨q12c0, q12c1, q12c2, q12f0, q12f1, q12f2, _⟩ := t1.out
    obtain ⟨q13c0, q13c1, q13c2, q13c3, q13f0, q13f1, q13f2, q13f3, _⟩ := t4.out
    obtain ⟨q14c0, q14c1, q14c2, q14c3, q14f0, q14f1, q14f2, q14f3, _⟩ := t6.out
    go_wp2_with fail
    refine (markDesk_c _ R 1 _ _ _ hg.out (by have := z1.out; have := z2.out; have := z3.out; have := z4.out; have := z5.out; have := z6.out; have := z7.out; have := z8.out; have := z9.out; omega) hRs.out (by omega) (by omega)).mono ?_
    rintro e w7 ⟨rfl, hgm, hO⟩
    have yz1 := z1.out
    have yz2 := z2.out
    have yz3 := z3.out
    have yz4 := z4.out
    have yz5 := z5.out
    have yz6 := z6.out
    have yz7 := z7.out
    have yz8 := z8.out
    have yz9 := z9.out
    replace hw0 := hide (hw0.out.only hO (by omega))
    replace t1 := hide (t1.out.only hO (by first | exact .inl (by omega) | exact .inr (by omega)))
    replace t4 := hide (t4.out.only hO (by first | exact .inl (by omega) | exact .inr (by omega)))
    replace t6 := hide (t6.out.only hO (by first | exact .inl (by omega) | exact .inr (by omega)))
    replace hb := hide (belowSize hb.out hO (by omega))
    clear yz1 yz2 yz3 yz4 yz5 yz6 yz7 yz8 yz9
    have z10 := hide (hO.size)
    clear hO
    replace hg := hide hgm
    clear hgm
    have hE := endDk_le (k := 1) hRs.out
    obtain ⟨E, hEE⟩ : ∃ E : Int, Hid (endDk R 1 = E) := ⟨_, hide rfl⟩
    rw [hEE.out] at hE ⊢
    have hE0 : 0 ≤ E := by omega
    clear hE
    have HHa := hide (fun (W : World) (h : DkM W W.heap.size _ (mrkDk R 1)) => heldDesk_c (.agg #[.slice A1 n1 c1, .int .i64 R.now.step, .slice B1 m1 d1, .slice E1 r1 s1]) R 1 W h hRs.out (by omega) (by omega))
    rw [hEE.out] at HHa
    clear q12c0 q12c1 q12c2 q12f0 q12f1 q12f2 q13c0 q13c1 q13c2 q13c3 q13f0 q13f1 q13f2 q13f3 q14c0 q14c1 q14c2 q14c3 q14f0 q14f1 q14f2 q14f3
    obtain ⟨q15c0, q15c1, q15c2, q15f0, q15f1, q15f2, _⟩ := t1.out
    obtain ⟨q16c0, q16c1, q16c2, q16c3, q16f0, q16f1, q16f2, q16f3, _⟩ := t4.out
    obtain ⟨q17c0, q17c1, q17c2, q17c3, q17f0, q17f1, q17f2, q17f3, _⟩ := t6.out
    go_wp2_with fail
    refine (HHa.out _ hg.out.dkM).mono ?_
    rintro e w8 ⟨rfl, hq⟩
    have z11 := hide ((hq).size)
    replace hw0 := hide (hw0.out.up hq)
    replace hg := hide (hg.out.up hq)
    replace t1 := hide (t1.out.up hq)
    replace t4 := hide (t4.out.up hq)
    replace t6 := hide (t6.out.up hq)
    replace hb := hide (upB hb.out hq)
    clear hq
    clear HHa
    clear q15c0 q15c1 q15c2 q15f0 q15f1 q15f2 q16c0 q16c1 q16c2 q16c3 q16f0 q16f1 q16f2 q16f3 q17c0 q17c1 q17c2 q17c3 q17f0 q17f1 q17f2 q17f3
    obtain ⟨q18c0, q18c1, q18c2, q18f0, q18f1, q18f2, _⟩ := t1.out
    obtain ⟨q19c0, q19c1, q19c2, q19c3, q19f0, q19f1, q19f2, q19f3, _⟩ := t4.out
    obtain ⟨q20c0, q20c1, q20c2, q20c3, q20f0, q20f1, q20f2, q20f3, _⟩ := t6.out
    go_wp2_with fail
    refine (hx2.out _).mono ?_
    rintro e w9 ⟨rfl, hq⟩
    have z12 := hide ((hq).size)
    replace hw0 := hide (hw0.out.up hq)
    replace hg := hide (hg.out.up hq)
    replace t1 := hide (t1.out.up hq)
    replace t4 := hide (t4.out.up hq)
    replace t6 := hide (t6.out.up hq)
    replace hb := hide (upB hb.out hq)
    clear hq
    clear q18c0 q18c1 q18c2 q18f0 q18f1 q18f2 q19c0 q19c1 q19c2 q19c3 q19f0 q19f1 q19f2 q19f3 q20c0 q20c1 q20c2 q20c3 q20f0 q20f1 q20f2 q20f3
    obtain ⟨q21c0, q21c1, q21c2, q21f0, q21f1, q21f2, _⟩ := t1.out
    obtain ⟨q22c0, q22c1, q22c2, q22c3, q22f0, q22f1, q22f2, q22f3, _⟩ := t4.out
    obtain ⟨q23c0, q23c1, q23c2, q23c3, q23f0, q23f1, q23f2, q23f3, _⟩ := t6.out
    go_wp2_with fail
    refine (HI.out _ hb.out).mono ?_
    rintro e w10 ⟨u2, rfl, h2, hq⟩
    have z13 := hide ((hq).size)
    replace hw0 := hide (hw0.out.up hq)
    replace hg := hide (hg.out.up hq)
    replace t1 := hide (t1.out.up hq)
    replace t4 := hide (t4.out.up hq)
    replace t6 := hide (t6.out.up hq)
    replace hb := hide (upB hb.out hq)
    clear hq
    have hh := hide (show DkB w10 w10.heap.size u2 R from ⟨h2.dkM, Nat.le_refl _⟩)
    obtain ⟨A2, n2, c2, B2, m2, d2, E2, r2, s2, rfl⟩ := h2.dkM.open_
    clear h2
    have z14 := hide (show (w10.alloc (.cells #[.slice A2 n2 c2, .int .i64 R.now.step, .slice B2 m2 d2, .slice E2 r2 s2] 30)).heap.size = w10.heap.size + 1 by simp)
    replace hw0 := hide (hw0.out.up (al w10 (.cells #[.slice A2 n2 c2, .int .i64 R.now.step, .slice B2 m2 d2, .slice E2 r2 s2] 30)))
    replace hg := hide (hg.out.up (al w10 (.cells #[.slice A2 n2 c2, .int .i64 R.now.step, .slice B2 m2 d2, .slice E2 r2 s2] 30)))
    replace hh := hide (hh.out.up (al w10 (.cells #[.slice A2 n2 c2, .int .i64 R.now.step, .slice B2 m2 d2, .slice E2 r2 s2] 30)))
    replace t1 := hide (t1.out.up (al w10 (.cells #[.slice A2 n2 c2, .int .i64 R.now.step, .slice B2 m2 d2, .slice E2 r2 s2] 30)))
    replace t4 := hide (t4.out.up (al w10 (.cells #[.slice A2 n2 c2, .int .i64 R.now.step, .slice B2 m2 d2, .slice E2 r2 s2] 30)))
    replace t6 := hide (t6.out.up (al w10 (.cells #[.slice A2 n2 c2, .int .i64 R.now.step, .slice B2 m2 d2, .slice E2 r2 s2] 30)))
    replace hb := hide (upB hb.out (al w10 (.cells #[.slice A2 n2 c2, .int .i64 R.now.step, .slice B2 m2 d2, .slice E2 r2 s2] 30)))
    have t9 := hide (QuaW.made w10 (.slice A2 n2 c2) (.int .i64 R.now.step) (.slice B2 m2 d2) (.slice E2 r2 s2) 30)
    clear q21c0 q21c1 q21c2 q21f0 q21f1 q21f2 q22c0 q22c1 q22c2 q22c3 q22f0 q22f1 q22f2 q22f3 q23c0 q23c1 q23c2 q23c3 q23f0 q23f1 q23f2 q23f3
    obtain ⟨q24c0, q24c1, q24c2, q24f0, q24f1, q24f2, _⟩ := t1.out
    obtain ⟨q25c0, q25c1, q25c2, q25c3, q25f0, q25f1, q25f2, q25f3, _⟩ := t4.out
    obtain ⟨q26c0, q26c1, q26c2, q26c3, q26f0, q26f1, q26f2, q26f3, _⟩ := t6.out
    obtain ⟨q27c0, q27c1, q27c2, q27c3, q27f0, q27f1, q27f2, q27f3, _⟩ := t9.out
    go_wp2_with fail
    refine (eqDesk_c _ _ R _ _ _ hh.out.dkM hw0.out.dkM (Nat.le_refl _) (Nat.le_refl _)).mono ?_
    rintro e w11 ⟨rfl, hq⟩
    have z15 := hide ((hq).size)
    replace hw0 := hide (hw0.out.up hq)
    replace hg := hide (hg.out.up hq)
    replace hh := hide (hh.out.up hq)
    replace t1 := hide (t1.out.up hq)
    replace t4 := hide (t4.out.up hq)
    replace t6 := hide (t6.out.up hq)
    replace t9 := hide (t9.out.up hq)
    replace hb := hide (upB hb.out hq)
    clear hq
    clear hh
    have HHb := hide (fun (W : World) (h : DkM W W.heap.size _ (mrkDk R 1)) => heldDesk_c (.agg #[.slice A1 n1 c1, .int .i64 R.now.step, .slice B1 m1 d1, .slice E1 r1 s1]) R 1 W h hRs.out (by omega) (by omega))
    rw [hEE.out] at HHb
    clear q24c0 q24c1 q24c2 q24f0 q24f1 q24f2 q25c0 q25c1 q25c2 q25c3 q25f0 q25f1 q25f2 q25f3 q26c0 q26c1 q26c2 q26c3 q26f0 q26f1 q26f2 q26f3 q27c0 q27c1 q27c2 q27c3 q27f0 q27f1 q27f2 q27f3
    obtain ⟨q28c0, q28c1, q28c2, q28f0, q28f1, q28f2, _⟩ := t1.out
    obtain ⟨q29c0, q29c1, q29c2, q29c3, q29f0, q29f1, q29f2, q29f3, _⟩ := t4.out
    obtain ⟨q30c0, q30c1, q30c2, q30c3, q30f0, q30f1, q30f2, q30f3, _⟩ := t6.out
    obtain ⟨q31c0, q31c1, q31c2, q31c3, q31f0, q31f1, q31f2, q31f3, _⟩ := t9.out
    go_wp2_with fail
    refine (HHb.out _ hg.out.dkM).mono ?_
    rintro e w12 ⟨rfl, hq⟩
    have z16 := hide ((hq).size)
    replace hw0 := hide (hw0.out.up hq)
    replace hg := hide (hg.out.up hq)
    replace t1 := hide (t1.out.up hq)
    replace t4 := hide (t4.out.up hq)
    replace t6 := hide (t6.out.up hq)
    replace t9 := hide (t9.out.up hq)
    replace hb := hide (upB hb.out hq)
    clear hq
    clear HHb
    clear q28c0 q28c1 q28c2 q28f0 q28f1 q28f2 q29c0 q29c1 q29c2 q29c3 q29f0 q29f1 q29f2 q29f3 q30c0 q30c1 q30c2 q30c3 q30f0 q30f1 q30f2 q30f3 q31c0 q31c1 q31c2 q31c3 q31f0 q31f1 q31f2 q31f3
    obtain ⟨q32c0, q32c1, q32c2, q32f0, q32f1, q32f2, _⟩ := t1.out
    obtain ⟨q33c0, q33c1, q33c2, q33c3, q33f0, q33f1, q33f2, q33f3, _⟩ := t4.out
    obtain ⟨q34c0, q34c1, q34c2, q34c3, q34f0, q34f1, q34f2, q34f3, _⟩ := t6.out
    obtain ⟨q35c0, q35c1, q35c2, q35c3, q35f0, q35f1, q35f2, q35f3, _⟩ := t9.out
    go_wp2_with fail
    go_ret
    exact ⟨rfl, hb.out⟩
end Go.Proofs.YtpkbmmepapgogaaGreatDoor
