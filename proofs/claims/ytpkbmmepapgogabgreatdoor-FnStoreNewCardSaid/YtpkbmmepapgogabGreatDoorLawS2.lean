/-
  Laws of chapter 14 walked: FnStoreNew (written by wip/gen_h8.py).
-/
import Derived.Test.YtpkbmmepapgogabGreatDoorDrawPo
import Derived.Test.YtpkbmmepapgogabGreatDoorStoreN
import Derived.Test.YtpkbmmepapgogabGreatDoorStoreI
import Derived.Test.YtpkbmmepapgogabGreatDoorZsp
import Derived.Test.YtpkbmmepapgogabGreatDoorDskNI
import Derived.Test.YtpkbmmepapgogabGreatDoorEqD
import Derived.Test.YtpkbmmepapgogabGreatDoorZdraw
import Derived.Test.YtpkbmmepapgogabGreatDoorStrE
namespace Go.Proofs.YtpkbmmepapgogabGreatDoor
open Go.RowKit
set_option linter.unusedVariables false

set_option maxRecDepth 100000 in
set_option maxHeartbeats 3200000 in
theorem lawStoreNew {A : Option Addr} {n c : Nat} {bs : List Int} {w : World} (h : Bts w w.heap.size A n c bs) (hL : LaidN w) (hD : LaidD w) :
    Calls Tryz.prog 4 #[.slice A n c] w fun e w' => e = .returned (.bool true) ∧ Below w.heap.size w w' := by
  have hbig := h.big
  have hle := h.le
  unfold maxLen at hbig
  by_cases hn : 1048576 < n
  · go_enter Tryz.func4, Tryz.ntmps4
    go_wp2
    go_ret
    exact ⟨rfl, Below.refl _ _⟩
  ·
    replace hL := hide hL
    replace hD := hide hD
    have hDr := hide (DrawStoreNew_c A n c bs w h)
    go_enter Tryz.func4, Tryz.ntmps4
    go_wp2_with fail
    refine hDr.out.mono ?_
    rintro e w0 ⟨u, p, rfl, hp, hl1, hl2, hb⟩
    replace hb := hide hb
    obtain ⟨Ap, np, cp, Bp, mp, dp, rfl, i1, i2, hwf⟩ := hp.ex
    clear i1 i2 hDr hl1 hl2 hwf
    replace hp := hide hp
    cases hok : placeOk p with
    | false =>
      have eX := hide (show newX p = noSto by unfold newX; rw [hok]; rfl)
      replace hp := hide (hp.out.up (al w0 (.cells #[.slice Ap np cp, .int .i64 p.step, .slice Bp mp dp] 31)))
      replace hb := hide (upB hb.out (al w0 (.cells #[.slice Ap np cp, .int .i64 p.step, .slice Bp mp dp] 31)))
      have t3 := hide (TriW.made w0 (.slice Ap np cp) (.int .i64 p.step) (.slice Bp mp dp) 31)
      have HI := hide (fun (W : World) (hp : PlM W W.heap.size (.agg #[.slice Ap np cp, .int .i64 p.step, .slice Bp mp dp]) p) (hl : LaidT W) => storeNew_impl _ p _ W hp (Nat.le_refl _) hl)
      have HS := hide (fun (W : World) (hp : PlM W W.heap.size (.agg #[.slice Ap np cp, .int .i64 p.step, .slice Bp mp dp]) p) => storeNew_spec _ p _ W hp (Nat.le_refl _))
      rw [eX.out, hok] at HI HS
      simp only [noSto] at HI HS
      obtain ⟨q1c0, q1c1, q1c2, q1f0, q1f1, q1f2, _⟩ := t3.out
      go_wp2_with fail
      refine (HI.out _ hp.out (hL.out.up hb.out).t).mono ?_
      rintro e w1 ⟨rfl, hq⟩
      replace hp := hide (hp.out.up hq)
      replace t3 := hide (t3.out.up hq)
      replace hb := hide (upB hb.out hq)
      clear hq
      replace hp := hide (hp.out.up (al w1 (.cells #[.string ⟨#[]⟩, .string ⟨#[]⟩, .int .i64 0] 24)))
      replace t3 := hide (t3.out.up (al w1 (.cells #[.string ⟨#[]⟩, .string ⟨#[]⟩, .int .i64 0] 24)))
      replace hb := hide (upB hb.out (al w1 (.cells #[.string ⟨#[]⟩, .string ⟨#[]⟩, .int .i64 0] 24)))
      have t4 := hide (TriW.made w1 (.string ⟨#[]⟩) (.string ⟨#[]⟩) (.int .i64 0) 24)
      clear q1c0 q1c1 q1c2 q1f0 q1f1 q1f2
      obtain ⟨q2c0, q2c1, q2c2, q2f0, q2f1, q2f2, _⟩ := t3.out
      obtain ⟨q3c0, q3c1, q3c2, q3f0, q3f1, q3f2, _⟩ := t4.out
      go_wp2_with fail
      refine (HS.out _ hp.out).mono ?_
      rintro e w2 ⟨rfl, hq⟩
      replace hp := hide (hp.out.up hq)
      replace t3 := hide (t3.out.up hq)
      replace t4 := hide (t4.out.up hq)
      replace hb := hide (upB hb.out hq)
      clear hq
      replace hp := hide (hp.out.up (al w2 (.cells #[.string ⟨#[]⟩, .string ⟨#[]⟩, .int .i64 0] 24)))
      replace t3 := hide (t3.out.up (al w2 (.cells #[.string ⟨#[]⟩, .string ⟨#[]⟩, .int .i64 0] 24)))
      replace t4 := hide (t4.out.up (al w2 (.cells #[.string ⟨#[]⟩, .string ⟨#[]⟩, .int .i64 0] 24)))
      replace hb := hide (upB hb.out (al w2 (.cells #[.string ⟨#[]⟩, .string ⟨#[]⟩, .int .i64 0] 24)))
      have t6 := hide (TriW.made w2 (.string ⟨#[]⟩) (.string ⟨#[]⟩) (.int .i64 0) 24)
      clear q2c0 q2c1 q2c2 q2f0 q2f1 q2f2 q3c0 q3c1 q3c2 q3f0 q3f1 q3f2
      obtain ⟨q4c0, q4c1, q4c2, q4f0, q4f1, q4f2, _⟩ := t3.out
      obtain ⟨q5c0, q5c1, q5c2, q5f0, q5f1, q5f2, _⟩ := t4.out
      obtain ⟨q6c0, q6c1, q6c2, q6f0, q6f1, q6f2, _⟩ := t6.out
      go_wp2_with fail
      refine (alive_c _).mono ?_
      rintro e w3 ⟨rfl, hq⟩
      replace hp := hide (hp.out.up hq)
      replace t3 := hide (t3.out.up hq)
      replace t4 := hide (t4.out.up hq)
      replace t6 := hide (t6.out.up hq)
      replace hb := hide (upB hb.out hq)
      clear hq
      clear q4c0 q4c1 q4c2 q4f0 q4f1 q4f2 q5c0 q5c1 q5c2 q5f0 q5f1 q5f2 q6c0 q6c1 q6c2 q6f0 q6f1 q6f2
      obtain ⟨q7c0, q7c1, q7c2, q7f0, q7f1, q7f2, _⟩ := t3.out
      obtain ⟨q8c0, q8c1, q8c2, q8f0, q8f1, q8f2, _⟩ := t4.out
      obtain ⟨q9c0, q9c1, q9c2, q9f0, q9f1, q9f2, _⟩ := t6.out
      go_wp2_with fail
      go_ret
      exact ⟨rfl, hb.out⟩
    | true =>
      have eX := hide (show newX p = ⟨strB (placeT p), ⟨#[]⟩, 0⟩ by unfold newX; rw [if_pos hok])
      have eo := hide (newX_open hok)
      have ek := hide (newX_ok hok)
      have eD := hide (show newDsk p = ⟨p, []⟩ by unfold newDsk; rw [if_pos hok])
      obtain ⟨T, hT⟩ : ∃ T, Hid (strB (placeT p) = T) := ⟨_, hide rfl⟩
      rw [hT.out] at eX
      rw [eX.out] at eo ek
      clear hT
      replace hp := hide (hp.out.up (al w0 (.cells #[.slice Ap np cp, .int .i64 p.step, .slice Bp mp dp] 31)))
      replace hb := hide (upB hb.out (al w0 (.cells #[.slice Ap np cp, .int .i64 p.step, .slice Bp mp dp] 31)))
      have t3 := hide (TriW.made w0 (.slice Ap np cp) (.int .i64 p.step) (.slice Bp mp dp) 31)
      have HI := hide (fun (W : World) (hp : PlM W W.heap.size (.agg #[.slice Ap np cp, .int .i64 p.step, .slice Bp mp dp]) p) (hl : LaidT W) => storeNew_impl _ p _ W hp (Nat.le_refl _) hl)
      have HS := hide (fun (W : World) (hp : PlM W W.heap.size (.agg #[.slice Ap np cp, .int .i64 p.step, .slice Bp mp dp]) p) => storeNew_spec _ p _ W hp (Nat.le_refl _))
      have HP := hide (fun (W : World) (hq : Below w.heap.size w W) => storeOpen_impl ⟨T, ⟨#[]⟩, 0⟩ W (hL.out.up hq) (hD.out.up hq))
      have HN := hide (fun (W : World) (hp : PlM W W.heap.size (.agg #[.slice Ap np cp, .int .i64 p.step, .slice Bp mp dp]) p) => deskNew_impl _ p _ W hp (Nat.le_refl _))
      have HO := hide (fun (W : World) (hq : Below w.heap.size w W) => storeOk_impl ⟨T, ⟨#[]⟩, 0⟩ W (hL.out.up hq))
      rw [eX.out, hok] at HI HS
      rw [eo.out, ek.out] at HP
      rw [eD.out, hok] at HN
      rw [ek.out] at HO
      simp only at HI HS HP HO
      obtain ⟨D, hDD⟩ : ∃ D, Hid ((⟨p, []⟩ : Dsk) = D) := ⟨_, hide rfl⟩
      rw [hDD.out] at HP HN
      clear hDD eX eo ek eD
      obtain ⟨q10c0, q10c1, q10c2, q10f0, q10f1, q10f2, _⟩ := t3.out
      go_wp2_with fail
      refine (HI.out _ hp.out (hL.out.up hb.out).t).mono ?_
      rintro e w1 ⟨rfl, hq⟩
      replace hp := hide (hp.out.up hq)
      replace t3 := hide (t3.out.up hq)
      replace hb := hide (upB hb.out hq)
      clear hq
      replace hp := hide (hp.out.up (al w1 (.cells #[.string T, .string ⟨#[]⟩, .int .i64 0] 24)))
      replace t3 := hide (t3.out.up (al w1 (.cells #[.string T, .string ⟨#[]⟩, .int .i64 0] 24)))
      replace hb := hide (upB hb.out (al w1 (.cells #[.string T, .string ⟨#[]⟩, .int .i64 0] 24)))
      have t4 := hide (TriW.made w1 (.string T) (.string ⟨#[]⟩) (.int .i64 0) 24)
      clear q10c0 q10c1 q10c2 q10f0 q10f1 q10f2
      obtain ⟨q11c0, q11c1, q11c2, q11f0, q11f1, q11f2, _⟩ := t3.out
      obtain ⟨q12c0, q12c1, q12c2, q12f0, q12f1, q12f2, _⟩ := t4.out
      go_wp2_with fail
      refine (HS.out _ hp.out).mono ?_
      rintro e w2 ⟨rfl, hq⟩
      replace hp := hide (hp.out.up hq)
      replace t3 := hide (t3.out.up hq)
      replace t4 := hide (t4.out.up hq)
      replace hb := hide (upB hb.out hq)
      clear hq
      replace hp := hide (hp.out.up (al w2 (.cells #[.string T, .string ⟨#[]⟩, .int .i64 0] 24)))
      replace t3 := hide (t3.out.up (al w2 (.cells #[.string T, .string ⟨#[]⟩, .int .i64 0] 24)))
      replace t4 := hide (t4.out.up (al w2 (.cells #[.string T, .string ⟨#[]⟩, .int .i64 0] 24)))
      replace hb := hide (upB hb.out (al w2 (.cells #[.string T, .string ⟨#[]⟩, .int .i64 0] 24)))
      have t6 := hide (TriW.made w2 (.string T) (.string ⟨#[]⟩) (.int .i64 0) 24)
      clear q11c0 q11c1 q11c2 q11f0 q11f1 q11f2 q12c0 q12c1 q12c2 q12f0 q12f1 q12f2
      obtain ⟨q13c0, q13c1, q13c2, q13f0, q13f1, q13f2, _⟩ := t3.out
      obtain ⟨q14c0, q14c1, q14c2, q14f0, q14f1, q14f2, _⟩ := t4.out
      obtain ⟨q15c0, q15c1, q15c2, q15f0, q15f1, q15f2, _⟩ := t6.out
      go_wp2_with fail
      refine (HP.out _ hb.out).mono ?_
      rintro e w3 ⟨u1, rfl, hF, hq⟩
      replace hp := hide (hp.out.up hq)
      replace t3 := hide (t3.out.up hq)
      replace t4 := hide (t4.out.up hq)
      replace t6 := hide (t6.out.up hq)
      replace hb := hide (upB hb.out hq)
      clear hq
      obtain ⟨A2, n2, c2, B2, m2, d2, E2, r2, s2, rfl⟩ := hF.dkM.open_
      have hd := hide hF.dkM
      clear hF
      replace hp := hide (hp.out.up (al w3 (.cells #[.slice A2 n2 c2, .int .i64 D.now.step, .slice B2 m2 d2, .slice E2 r2 s2] 37)))
      replace hd := hide (hd.out.up (al w3 (.cells #[.slice A2 n2 c2, .int .i64 D.now.step, .slice B2 m2 d2, .slice E2 r2 s2] 37)))
      replace t3 := hide (t3.out.up (al w3 (.cells #[.slice A2 n2 c2, .int .i64 D.now.step, .slice B2 m2 d2, .slice E2 r2 s2] 37)))
      replace t4 := hide (t4.out.up (al w3 (.cells #[.slice A2 n2 c2, .int .i64 D.now.step, .slice B2 m2 d2, .slice E2 r2 s2] 37)))
      replace t6 := hide (t6.out.up (al w3 (.cells #[.slice A2 n2 c2, .int .i64 D.now.step, .slice B2 m2 d2, .slice E2 r2 s2] 37)))
      replace hb := hide (upB hb.out (al w3 (.cells #[.slice A2 n2 c2, .int .i64 D.now.step, .slice B2 m2 d2, .slice E2 r2 s2] 37)))
      have t8 := hide (QuaW.made w3 (.slice A2 n2 c2) (.int .i64 D.now.step) (.slice B2 m2 d2) (.slice E2 r2 s2) 37)
      clear q13c0 q13c1 q13c2 q13f0 q13f1 q13f2 q14c0 q14c1 q14c2 q14f0 q14f1 q14f2 q15c0 q15c1 q15c2 q15f0 q15f1 q15f2
      obtain ⟨q16c0, q16c1, q16c2, q16f0, q16f1, q16f2, _⟩ := t3.out
      obtain ⟨q17c0, q17c1, q17c2, q17f0, q17f1, q17f2, _⟩ := t4.out
      obtain ⟨q18c0, q18c1, q18c2, q18f0, q18f1, q18f2, _⟩ := t6.out
      obtain ⟨q19c0, q19c1, q19c2, q19c3, q19f0, q19f1, q19f2, q19f3, _⟩ := t8.out
      go_wp2_with fail
      refine (HN.out _ hp.out).mono ?_
      rintro e w4 ⟨u2, rfl, hF, hq⟩
      replace hp := hide (hp.out.up hq)
      replace hd := hide (hd.out.up hq)
      replace t3 := hide (t3.out.up hq)
      replace t4 := hide (t4.out.up hq)
      replace t6 := hide (t6.out.up hq)
      replace t8 := hide (t8.out.up hq)
      replace hb := hide (upB hb.out hq)
      clear hq
      obtain ⟨A3, n3, c3, B3, m3, d3, E3, r3, s3, rfl⟩ := hF.dkM.open_
      have he := hide hF.dkM
      clear hF
      replace hp := hide (hp.out.up (al w4 (.cells #[.slice A3 n3 c3, .int .i64 D.now.step, .slice B3 m3 d3, .slice E3 r3 s3] 37)))
      replace hd := hide (hd.out.up (al w4 (.cells #[.slice A3 n3 c3, .int .i64 D.now.step, .slice B3 m3 d3, .slice E3 r3 s3] 37)))
      replace he := hide (he.out.up (al w4 (.cells #[.slice A3 n3 c3, .int .i64 D.now.step, .slice B3 m3 d3, .slice E3 r3 s3] 37)))
      replace t3 := hide (t3.out.up (al w4 (.cells #[.slice A3 n3 c3, .int .i64 D.now.step, .slice B3 m3 d3, .slice E3 r3 s3] 37)))
      replace t4 := hide (t4.out.up (al w4 (.cells #[.slice A3 n3 c3, .int .i64 D.now.step, .slice B3 m3 d3, .slice E3 r3 s3] 37)))
      replace t6 := hide (t6.out.up (al w4 (.cells #[.slice A3 n3 c3, .int .i64 D.now.step, .slice B3 m3 d3, .slice E3 r3 s3] 37)))
      replace t8 := hide (t8.out.up (al w4 (.cells #[.slice A3 n3 c3, .int .i64 D.now.step, .slice B3 m3 d3, .slice E3 r3 s3] 37)))
      replace hb := hide (upB hb.out (al w4 (.cells #[.slice A3 n3 c3, .int .i64 D.now.step, .slice B3 m3 d3, .slice E3 r3 s3] 37)))
      have t10 := hide (QuaW.made w4 (.slice A3 n3 c3) (.int .i64 D.now.step) (.slice B3 m3 d3) (.slice E3 r3 s3) 37)
      clear q16c0 q16c1 q16c2 q16f0 q16f1 q16f2 q17c0 q17c1 q17c2 q17f0 q17f1 q17f2 q18c0 q18c1 q18c2 q18f0 q18f1 q18f2 q19c0 q19c1 q19c2 q19c3 q19f0 q19f1 q19f2 q19f3
      obtain ⟨q20c0, q20c1, q20c2, q20f0, q20f1, q20f2, _⟩ := t3.out
      obtain ⟨q21c0, q21c1, q21c2, q21f0, q21f1, q21f2, _⟩ := t4.out
      obtain ⟨q22c0, q22c1, q22c2, q22f0, q22f1, q22f2, _⟩ := t6.out
      obtain ⟨q23c0, q23c1, q23c2, q23c3, q23f0, q23f1, q23f2, q23f3, _⟩ := t8.out
      obtain ⟨q24c0, q24c1, q24c2, q24c3, q24f0, q24f1, q24f2, q24f3, _⟩ := t10.out
      go_wp2_with fail
      refine (HO.out _ hb.out).mono ?_
      rintro e w5 ⟨rfl, hq⟩
      replace hp := hide (hp.out.up hq)
      replace hd := hide (hd.out.up hq)
      replace he := hide (he.out.up hq)
      replace t3 := hide (t3.out.up hq)
      replace t4 := hide (t4.out.up hq)
      replace t6 := hide (t6.out.up hq)
      replace t8 := hide (t8.out.up hq)
      replace t10 := hide (t10.out.up hq)
      replace hb := hide (upB hb.out hq)
      clear hq
      clear q20c0 q20c1 q20c2 q20f0 q20f1 q20f2 q21c0 q21c1 q21c2 q21f0 q21f1 q21f2 q22c0 q22c1 q22c2 q22f0 q22f1 q22f2 q23c0 q23c1 q23c2 q23c3 q23f0 q23f1 q23f2 q23f3 q24c0 q24c1 q24c2 q24c3 q24f0 q24f1 q24f2 q24f3
      obtain ⟨q25c0, q25c1, q25c2, q25f0, q25f1, q25f2, _⟩ := t3.out
      obtain ⟨q26c0, q26c1, q26c2, q26f0, q26f1, q26f2, _⟩ := t4.out
      obtain ⟨q27c0, q27c1, q27c2, q27f0, q27f1, q27f2, _⟩ := t6.out
      obtain ⟨q28c0, q28c1, q28c2, q28c3, q28f0, q28f1, q28f2, q28f3, _⟩ := t8.out
      obtain ⟨q29c0, q29c1, q29c2, q29c3, q29f0, q29f1, q29f2, q29f3, _⟩ := t10.out
      go_wp2_with fail
      refine (sameDesk_c _ _ D D _ _ _ hd.out he.out (Nat.le_refl _) (Nat.le_refl _)).mono ?_
      rw [sameK_refl]
      rintro e w6 ⟨rfl, hq⟩
      replace hp := hide (hp.out.up hq)
      replace hd := hide (hd.out.up hq)
      replace he := hide (he.out.up hq)
      replace t3 := hide (t3.out.up hq)
      replace t4 := hide (t4.out.up hq)
      replace t6 := hide (t6.out.up hq)
      replace t8 := hide (t8.out.up hq)
      replace t10 := hide (t10.out.up hq)
      replace hb := hide (upB hb.out hq)
      clear hq
      clear q25c0 q25c1 q25c2 q25f0 q25f1 q25f2 q26c0 q26c1 q26c2 q26f0 q26f1 q26f2 q27c0 q27c1 q27c2 q27f0 q27f1 q27f2 q28c0 q28c1 q28c2 q28c3 q28f0 q28f1 q28f2 q28f3 q29c0 q29c1 q29c2 q29c3 q29f0 q29f1 q29f2 q29f3
      obtain ⟨q30c0, q30c1, q30c2, q30f0, q30f1, q30f2, _⟩ := t3.out
      obtain ⟨q31c0, q31c1, q31c2, q31f0, q31f1, q31f2, _⟩ := t4.out
      obtain ⟨q32c0, q32c1, q32c2, q32f0, q32f1, q32f2, _⟩ := t6.out
      obtain ⟨q33c0, q33c1, q33c2, q33c3, q33f0, q33f1, q33f2, q33f3, _⟩ := t8.out
      obtain ⟨q34c0, q34c1, q34c2, q34c3, q34f0, q34f1, q34f2, q34f3, _⟩ := t10.out
      go_wp2_with fail
      go_ret
      exact ⟨rfl, hb.out⟩
end Go.Proofs.YtpkbmmepapgogabGreatDoor
