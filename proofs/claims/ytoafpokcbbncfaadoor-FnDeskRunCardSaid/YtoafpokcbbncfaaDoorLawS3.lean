/-
  Laws of chapter 14 walked: FnDeskRun (written by wip/gen_h10.py).
-/
import Derived.Test.YtoafpokcbbncfaaDoorDrawDs
import Derived.Test.YtoafpokcbbncfaaDoorZdsl
import Derived.Test.YtoafpokcbbncfaaDoorZdf
import Derived.Test.YtoafpokcbbncfaaDoorEqD
import Derived.Test.YtoafpokcbbncfaaDoorZdraw
import Derived.Test.YtoafpokcbbncfaaDoorZmd
namespace Go.Proofs.YtoafpokcbbncfaaDoor
open Go.RowKit
set_option linter.unusedVariables false

theorem DdM.dropS {w : World} {B b off n c h : Nat} {ds : List Ded} (hz : DdM w B (some ⟨b, off, none⟩) n c ds) (hh : h ≤ n) : DdM w B (some ⟨b, off + h * 3, none⟩) (n - h) (c - h) (ds.drop h) :=
  ⟨by rw [List.length_drop, hz.len], by have := hz.le; omega, by have := hz.big; omega, fun hp => by
    obtain ⟨b', off', e, hb, hc⟩ := hz.cells (by omega)
    injection e with e
    injection e with e1 e2
    subst e1; subst e2
    refine ⟨b, off + h * 3, rfl, hb, fun j x hx => ?_⟩
    rw [List.getElem?_drop] at hx
    have := hc _ x hx
    rw [show off + h * 3 + j * 3 = off + (h + j) * 3 by omega]
    exact this, fun x hx => hz.wf x (List.mem_of_mem_drop hx), fun e => by cases e⟩

set_option maxRecDepth 100000 in
set_option maxHeartbeats 6400000 in
theorem lawDeskRun {A : Option Addr} {n c : Nat} {bs : List Int} {w : World} (h : Bts w w.heap.size A n c bs) (hD : LaidD w) :
    Calls Tryd.prog 6 #[.slice A n c] w fun e w' => e = .returned (.bool true) ∧ Below w.heap.size w w' := by
  have hbig := h.big
  have hle := h.le
  unfold maxLen at hbig
  by_cases hn : 1048576 < n
  · go_enter Tryd.func6, Tryd.ntmps6
    go_wp2
    go_ret
    exact ⟨rfl, Below.refl _ _⟩
  ·
    replace hD := hide hD
    have hDr := hide (DrawDeskRun_c A n c bs w h)
    go_enter Tryd.func6, Tryd.ntmps6
    go_wp2_with fail
    refine hDr.out.mono ?_
    rintro e w0 ⟨u, d, Al, nl, cl, ds, rfl, hd, hl, hn41, hb⟩
    replace hb := hide hb
    have hlen := hide hl.len
    clear hDr
    obtain ⟨A0, n0, c0, B0, m0, d0, E0, r0, s0, rfl⟩ := hd.open_
    replace hd := hide hd
    have hsh : (Al = none ∧ nl = 0 ∧ cl = 0) ∨ ∃ b, Al = some ⟨b, 0, none⟩ ∧ nl ≤ cl := by
      have hle := hl.deeds.le
      rcases row_shape hl.row with ⟨hv, h0⟩ | ⟨b, cap, hv, _⟩
      · injection hv with e1 e2 e3
        exact .inl ⟨e1, e2, e3⟩
      · injection hv with e1 e2 e3
        exact .inr ⟨b, e1, hle⟩
    replace hl := hide hl.deeds
    have z1 := hide (show (w0.alloc (.cells #[.slice A0 n0 c0, .int .i64 d.now.step, .slice B0 m0 d0, .slice E0 r0 s0] 34)).heap.size = w0.heap.size + 1 by simp)
    replace hd := hide (hd.out.up (al w0 (.cells #[.slice A0 n0 c0, .int .i64 d.now.step, .slice B0 m0 d0, .slice E0 r0 s0] 34)))
    replace hl := hide (hl.out.up (al w0 (.cells #[.slice A0 n0 c0, .int .i64 d.now.step, .slice B0 m0 d0, .slice E0 r0 s0] 34)))
    replace hb := hide (upB hb.out (al w0 (.cells #[.slice A0 n0 c0, .int .i64 d.now.step, .slice B0 m0 d0, .slice E0 r0 s0] 34)))
    have t3 := hide (QuaW.made w0 (.slice A0 n0 c0) (.int .i64 d.now.step) (.slice B0 m0 d0) (.slice E0 r0 s0) 34)
    have hsm := hide (deskR_or d ds)
    obtain ⟨N, hN⟩ : ∃ N, Hid (deskN d ds = N) := ⟨_, hide rfl⟩
    obtain ⟨R, hR⟩ : ∃ R, Hid (deskR d ds = R) := ⟨_, hide rfl⟩
    have HI := hide (fun (W : World) (hd : DkM W W.heap.size (.agg #[.slice A0 n0 c0, .int .i64 d.now.step, .slice B0 m0 d0, .slice E0 r0 s0]) d) (hl : DdM W W.heap.size Al nl cl ds) (hLD : LaidD W) => deskRun_impl _ d ds Al nl cl _ W hd (Nat.le_refl _) hl hLD)
    have HS := hide (fun (W : World) (hd : DkM W W.heap.size (.agg #[.slice A0 n0 c0, .int .i64 d.now.step, .slice B0 m0 d0, .slice E0 r0 s0]) d) (hl : DdM W W.heap.size Al nl cl ds) => deskRun_spec _ d ds Al nl cl _ W hd (Nat.le_refl _) hl)
    rw [hN.out, hR.out] at HI HS
    obtain ⟨q1c0, q1c1, q1c2, q1c3, q1f0, q1f1, q1f2, q1f3, _⟩ := t3.out
    go_wp2_with fail
    refine (HI.out _ hd.out hl.out (hD.out.up hb.out)).mono ?_
    rintro e w1 ⟨u1, rfl, hF, hq⟩
    have z2 := hide ((hq).size)
    replace hd := hide (hd.out.up hq)
    replace hl := hide (hl.out.up hq)
    replace t3 := hide (t3.out.up hq)
    replace hb := hide (upB hb.out hq)
    clear hq
    obtain ⟨A1, n1, c1, B1, m1, d1, E1, r1, s1, rfl⟩ := hF.dkM.open_
    have hx := hide hF.dkM
    clear hF
    have z3 := hide (show (w1.alloc (.cells #[.slice A1 n1 c1, .int .i64 R.now.step, .slice B1 m1 d1, .slice E1 r1 s1] 34)).heap.size = w1.heap.size + 1 by simp)
    replace hd := hide (hd.out.up (al w1 (.cells #[.slice A1 n1 c1, .int .i64 R.now.step, .slice B1 m1 d1, .slice E1 r1 s1] 34)))
    replace hl := hide (hl.out.up (al w1 (.cells #[.slice A1 n1 c1, .int .i64 R.now.step, .slice B1 m1 d1, .slice E1 r1 s1] 34)))
    replace hx := hide (hx.out.up (al w1 (.cells #[.slice A1 n1 c1, .int .i64 R.now.step, .slice B1 m1 d1, .slice E1 r1 s1] 34)))
    replace t3 := hide (t3.out.up (al w1 (.cells #[.slice A1 n1 c1, .int .i64 R.now.step, .slice B1 m1 d1, .slice E1 r1 s1] 34)))
    replace hb := hide (upB hb.out (al w1 (.cells #[.slice A1 n1 c1, .int .i64 R.now.step, .slice B1 m1 d1, .slice E1 r1 s1] 34)))
    have t5 := hide (QuaW.made w1 (.slice A1 n1 c1) (.int .i64 R.now.step) (.slice B1 m1 d1) (.slice E1 r1 s1) 34)
    clear q1c0 q1c1 q1c2 q1c3 q1f0 q1f1 q1f2 q1f3
    obtain ⟨q2c0, q2c1, q2c2, q2c3, q2f0, q2f1, q2f2, q2f3, _⟩ := t3.out
    obtain ⟨q3c0, q3c1, q3c2, q3c3, q3f0, q3f1, q3f2, q3f3, _⟩ := t5.out
    go_wp2_with fail
    refine (HS.out _ hd.out hl.out).mono ?_
    rintro e w2 ⟨u2, rfl, hF, hq⟩
    have z4 := hide ((hq).size)
    replace hd := hide (hd.out.up hq)
    replace hl := hide (hl.out.up hq)
    replace hx := hide (hx.out.up hq)
    replace t3 := hide (t3.out.up hq)
    replace t5 := hide (t5.out.up hq)
    replace hb := hide (upB hb.out hq)
    clear hq
    obtain ⟨A2, n2, c2, B2, m2, d2, E2, r2, s2, rfl⟩ := hF.open_
    have hy := hide hF.dkM
    clear hF
    have z5 := hide (show (w2.alloc (.cells #[.slice A2 n2 c2, .int .i64 R.now.step, .slice B2 m2 d2, .slice E2 r2 s2] 34)).heap.size = w2.heap.size + 1 by simp)
    replace hd := hide (hd.out.up (al w2 (.cells #[.slice A2 n2 c2, .int .i64 R.now.step, .slice B2 m2 d2, .slice E2 r2 s2] 34)))
    replace hl := hide (hl.out.up (al w2 (.cells #[.slice A2 n2 c2, .int .i64 R.now.step, .slice B2 m2 d2, .slice E2 r2 s2] 34)))
    replace hx := hide (hx.out.up (al w2 (.cells #[.slice A2 n2 c2, .int .i64 R.now.step, .slice B2 m2 d2, .slice E2 r2 s2] 34)))
    replace hy := hide (hy.out.up (al w2 (.cells #[.slice A2 n2 c2, .int .i64 R.now.step, .slice B2 m2 d2, .slice E2 r2 s2] 34)))
    replace t3 := hide (t3.out.up (al w2 (.cells #[.slice A2 n2 c2, .int .i64 R.now.step, .slice B2 m2 d2, .slice E2 r2 s2] 34)))
    replace t5 := hide (t5.out.up (al w2 (.cells #[.slice A2 n2 c2, .int .i64 R.now.step, .slice B2 m2 d2, .slice E2 r2 s2] 34)))
    replace hb := hide (upB hb.out (al w2 (.cells #[.slice A2 n2 c2, .int .i64 R.now.step, .slice B2 m2 d2, .slice E2 r2 s2] 34)))
    have t7 := hide (QuaW.made w2 (.slice A2 n2 c2) (.int .i64 R.now.step) (.slice B2 m2 d2) (.slice E2 r2 s2) 34)
    clear q2c0 q2c1 q2c2 q2c3 q2f0 q2f1 q2f2 q2f3 q3c0 q3c1 q3c2 q3c3 q3f0 q3f1 q3f2 q3f3
    obtain ⟨q4c0, q4c1, q4c2, q4c3, q4f0, q4f1, q4f2, q4f3, _⟩ := t3.out
    obtain ⟨q5c0, q5c1, q5c2, q5c3, q5f0, q5f1, q5f2, q5f3, _⟩ := t5.out
    obtain ⟨q6c0, q6c1, q6c2, q6c3, q6f0, q6f1, q6f2, q6f3, _⟩ := t7.out
    go_wp2_with fail
    refine (sameDesk_c _ _ R R _ _ _ hx.out hy.out (Nat.le_refl _) (Nat.le_refl _)).mono ?_
    rw [sameK_refl]
    rintro e w3 ⟨rfl, hq⟩
    have z6 := hide ((hq).size)
    replace hd := hide (hd.out.up hq)
    replace hl := hide (hl.out.up hq)
    replace hx := hide (hx.out.up hq)
    replace hy := hide (hy.out.up hq)
    replace t3 := hide (t3.out.up hq)
    replace t5 := hide (t5.out.up hq)
    replace t7 := hide (t7.out.up hq)
    replace hb := hide (upB hb.out hq)
    clear hq
    clear HI HS hy t7
    have HO := hide (fun (W : World) (hd : DkM W W.heap.size (.agg #[.slice A0 n0 c0, .int .i64 d.now.step, .slice B0 m0 d0, .slice E0 r0 s0]) d) => deskOk_spec _ d _ W hd (Nat.le_refl _))
    cases hok : deskOk d with
    | false =>
      rw [hok] at HO
      have hno := hide (show deskN d ds = 0 ∧ deskR d ds = noDsk by unfold deskN deskR runOk; rw [hok]; exact ⟨rfl, rfl⟩)
      obtain ⟨e1, e2⟩ := hno.out
      rw [hN.out] at e1
      rw [hR.out] at e2
      subst e1
      subst e2
      clear hno hN hR
      clear q4c0 q4c1 q4c2 q4c3 q4f0 q4f1 q4f2 q4f3 q5c0 q5c1 q5c2 q5c3 q5f0 q5f1 q5f2 q5f3 q6c0 q6c1 q6c2 q6c3 q6f0 q6f1 q6f2 q6f3
      obtain ⟨q7c0, q7c1, q7c2, q7c3, q7f0, q7f1, q7f2, q7f3, _⟩ := t3.out
      obtain ⟨q8c0, q8c1, q8c2, q8c3, q8f0, q8f1, q8f2, q8f3, _⟩ := t5.out
      go_wp2_with fail
      refine (HO.out _ hd.out).mono ?_
      rintro e w4 ⟨rfl, hq⟩
      have z7 := hide ((hq).size)
      replace hd := hide (hd.out.up hq)
      replace hl := hide (hl.out.up hq)
      replace hx := hide (hx.out.up hq)
      replace t3 := hide (t3.out.up hq)
      replace t5 := hide (t5.out.up hq)
      replace hb := hide (upB hb.out hq)
      clear hq
      clear q7c0 q7c1 q7c2 q7c3 q7f0 q7f1 q7f2 q7f3 q8c0 q8c1 q8c2 q8c3 q8f0 q8f1 q8f2 q8f3
      obtain ⟨q9c0, q9c1, q9c2, q9c3, q9f0, q9f1, q9f2, q9f3, _⟩ := t3.out
      obtain ⟨q10c0, q10c1, q10c2, q10c3, q10f0, q10f1, q10f2, q10f3, _⟩ := t5.out
      go_wp2_with fail
      refine (noDesk_c _ noDsk _ _ hx.out (Nat.le_refl _)).mono ?_
      rw [sameK_refl]
      rintro e w5 ⟨rfl, hq⟩
      have z8 := hide ((hq).size)
      replace hd := hide (hd.out.up hq)
      replace hl := hide (hl.out.up hq)
      replace hx := hide (hx.out.up hq)
      replace t3 := hide (t3.out.up hq)
      replace t5 := hide (t5.out.up hq)
      replace hb := hide (upB hb.out hq)
      clear hq
      clear q9c0 q9c1 q9c2 q9c3 q9f0 q9f1 q9f2 q9f3 q10c0 q10c1 q10c2 q10c3 q10f0 q10f1 q10f2 q10f3
      obtain ⟨q11c0, q11c1, q11c2, q11c3, q11f0, q11f1, q11f2, q11f3, _⟩ := t3.out
      obtain ⟨q12c0, q12c1, q12c2, q12c3, q12f0, q12f1, q12f2, q12f3, _⟩ := t5.out
      go_wp2_with fail
      refine (alive_c _).mono ?_
      rintro e w6 ⟨rfl, hq⟩
      have z9 := hide ((hq).size)
      replace hd := hide (hd.out.up hq)
      replace hl := hide (hl.out.up hq)
      replace hx := hide (hx.out.up hq)
      replace t3 := hide (t3.out.up hq)
      replace t5 := hide (t5.out.up hq)
      replace hb := hide (upB hb.out hq)
      clear hq
      clear q11c0 q11c1 q11c2 q11c3 q11f0 q11f1 q11f2 q11f3 q12c0 q12c1 q12c2 q12c3 q12f0 q12f1 q12f2 q12f3
      obtain ⟨q13c0, q13c1, q13c2, q13c3, q13f0, q13f1, q13f2, q13f3, _⟩ := t3.out
      obtain ⟨q14c0, q14c1, q14c2, q14c3, q14f0, q14f1, q14f2, q14f3, _⟩ := t5.out
      go_wp2_with fail
      go_ret
      exact ⟨rfl, hb.out⟩
    | true =>
      rw [hok] at HO
      by_cases h40 : 40 < nl
      ·
        have hno := hide (show deskN d ds = 0 ∧ deskR d ds = noDsk by unfold deskN deskR runOk; rw [hok, ← hlen.out, decide_eq_false (by omega)]; exact ⟨rfl, rfl⟩)
        obtain ⟨e1, e2⟩ := hno.out
        rw [hN.out] at e1
        rw [hR.out] at e2
        subst e1
        subst e2
        clear hno hN hR
        clear q4c0 q4c1 q4c2 q4c3 q4f0 q4f1 q4f2 q4f3 q5c0 q5c1 q5c2 q5c3 q5f0 q5f1 q5f2 q5f3 q6c0 q6c1 q6c2 q6c3 q6f0 q6f1 q6f2 q6f3
        obtain ⟨q15c0, q15c1, q15c2, q15c3, q15f0, q15f1, q15f2, q15f3, _⟩ := t3.out
        obtain ⟨q16c0, q16c1, q16c2, q16c3, q16f0, q16f1, q16f2, q16f3, _⟩ := t5.out
        go_wp2_with fail
        refine (HO.out _ hd.out).mono ?_
        rintro e w4 ⟨rfl, hq⟩
        have z7 := hide ((hq).size)
        replace hd := hide (hd.out.up hq)
        replace hl := hide (hl.out.up hq)
        replace hx := hide (hx.out.up hq)
        replace t3 := hide (t3.out.up hq)
        replace t5 := hide (t5.out.up hq)
        replace hb := hide (upB hb.out hq)
        clear hq
        clear q15c0 q15c1 q15c2 q15c3 q15f0 q15f1 q15f2 q15f3 q16c0 q16c1 q16c2 q16c3 q16f0 q16f1 q16f2 q16f3
        obtain ⟨q17c0, q17c1, q17c2, q17c3, q17f0, q17f1, q17f2, q17f3, _⟩ := t3.out
        obtain ⟨q18c0, q18c1, q18c2, q18c3, q18f0, q18f1, q18f2, q18f3, _⟩ := t5.out
        go_wp2_with fail
        refine (noDesk_c _ noDsk _ _ hx.out (Nat.le_refl _)).mono ?_
        rw [sameK_refl]
        rintro e w5 ⟨rfl, hq⟩
        have z8 := hide ((hq).size)
        replace hd := hide (hd.out.up hq)
        replace hl := hide (hl.out.up hq)
        replace hx := hide (hx.out.up hq)
        replace t3 := hide (t3.out.up hq)
        replace t5 := hide (t5.out.up hq)
        replace hb := hide (upB hb.out hq)
        clear hq
        clear q17c0 q17c1 q17c2 q17c3 q17f0 q17f1 q17f2 q17f3 q18c0 q18c1 q18c2 q18c3 q18f0 q18f1 q18f2 q18f3
        obtain ⟨q19c0, q19c1, q19c2, q19c3, q19f0, q19f1, q19f2, q19f3, _⟩ := t3.out
        obtain ⟨q20c0, q20c1, q20c2, q20c3, q20f0, q20f1, q20f2, q20f3, _⟩ := t5.out
        go_wp2_with fail
        refine (alive_c _).mono ?_
        rintro e w6 ⟨rfl, hq⟩
        have z9 := hide ((hq).size)
        replace hd := hide (hd.out.up hq)
        replace hl := hide (hl.out.up hq)
        replace hx := hide (hx.out.up hq)
        replace t3 := hide (t3.out.up hq)
        replace t5 := hide (t5.out.up hq)
        replace hb := hide (upB hb.out hq)
        clear hq
        clear q19c0 q19c1 q19c2 q19c3 q19f0 q19f1 q19f2 q19f3 q20c0 q20c1 q20c2 q20c3 q20f0 q20f1 q20f2 q20f3
        obtain ⟨q21c0, q21c1, q21c2, q21c3, q21f0, q21f1, q21f2, q21f3, _⟩ := t3.out
        obtain ⟨q22c0, q22c1, q22c2, q22c3, q22f0, q22f1, q22f2, q22f3, _⟩ := t5.out
        go_wp2_with fail
        go_ret
        exact ⟨rfl, hb.out⟩
      ·
        obtain ⟨H, hH⟩ : ∃ H : Nat, Hid (H = nl / 2) := ⟨_, hide rfl⟩
        have hH2 : (nl : Int) / 2 = (H : Int) := by have := hH.out; omega
        have hHn : H ≤ nl := by have := hH.out; omega
        have hyR := hide (show deskR d ds = runD d ds by unfold deskR runOk; rw [hok, ← hlen.out, decide_eq_true (by omega)]; rfl)
        have hyN := hide (show deskN d ds = (runN d ds : Int) by unfold deskN runOk; rw [hok, ← hlen.out, decide_eq_true (by omega)]; rfl)
        have hd1 := runD_ok hok (ds.take H)
        have e1 := hide (show deskR d (ds.take H) = runD d (ds.take H) by unfold deskR runOk; rw [hok, List.length_take, decide_eq_true (by have := hlen.out; omega)]; rfl)
        have e2 := hide (show deskN d (ds.take H) = (runN d (ds.take H) : Int) by unfold deskN runOk; rw [hok, List.length_take, decide_eq_true (by have := hlen.out; omega)]; rfl)
        have e3 := hide (show deskR (runD d (ds.take H)) (ds.drop H) = runD d ds by unfold deskR runOk; rw [hd1, List.length_drop, decide_eq_true (by have := hlen.out; omega), Bool.true_and, if_pos rfl, ← runD_append, List.take_append_drop])
        have e4 := hide (show (runN d (ds.take H) : Int) + deskN (runD d (ds.take H)) (ds.drop H) = deskN d ds by
          rw [hyN.out]
          unfold deskN runOk
          rw [hd1, List.length_drop, decide_eq_true (by have := hlen.out; omega), Bool.true_and, if_pos rfl, ← Int.natCast_add, ← runN_append, List.take_append_drop])
        have hok2 := hide (runD_ok hok ds)
        have hr1 := hide (runN_le d (ds.take H))
        have hr2 := hide (runN_le (runD d (ds.take H)) (ds.drop H))
        have e5 := hide (show deskN (runD d (ds.take H)) (ds.drop H) = (runN (runD d (ds.take H)) (ds.drop H) : Int) by unfold deskN runOk; rw [hd1, List.length_drop, decide_eq_true (by have := hlen.out; omega)]; rfl)
        obtain ⟨D1, hD1⟩ : ∃ D1, Hid (runD d (ds.take H) = D1) := ⟨_, hide rfl⟩
        obtain ⟨P1, hP1⟩ : ∃ P1 : Nat, Hid (runN d (ds.take H) = P1) := ⟨_, hide rfl⟩
        rw [← hyR.out, hR.out] at e3 hok2
        rw [hD1.out] at e1 e3 e4 e5 hr2
        rw [hP1.out] at e2 e4 hr1
        rw [hN.out] at e4
        rw [e5.out] at e4
        obtain ⟨Q1, hQ1⟩ : ∃ Q1 : Nat, Hid (runN D1 (ds.drop H) = Q1) := ⟨_, hide rfl⟩
        rw [hQ1.out] at e4 e5 hr2
        have hP1b : P1 ≤ 40 := by have := hr1.out; rw [List.length_take] at this; omega
        have hQ1b : Q1 ≤ 40 := by have := hr2.out; rw [List.length_drop] at this; have := hlen.out; omega
        have hPQ : (P1 : Int) + (Q1 : Int) = N := e4.out
        clear hr1 hr2 e4 hd1 hyR hyN hQ1 hP1 hD1 hN hR
        clear q4c0 q4c1 q4c2 q4c3 q4f0 q4f1 q4f2 q4f3 q5c0 q5c1 q5c2 q5c3 q5f0 q5f1 q5f2 q5f3 q6c0 q6c1 q6c2 q6c3 q6f0 q6f1 q6f2 q6f3
        obtain ⟨q23c0, q23c1, q23c2, q23c3, q23f0, q23f1, q23f2, q23f3, _⟩ := t3.out
        obtain ⟨q24c0, q24c1, q24c2, q24c3, q24f0, q24f1, q24f2, q24f3, _⟩ := t5.out
        go_wp2_with fail
        refine (HO.out _ hd.out).mono ?_
        rintro e w4 ⟨rfl, hq⟩
        have z7 := hide ((hq).size)
        replace hd := hide (hd.out.up hq)
        replace hl := hide (hl.out.up hq)
        replace hx := hide (hx.out.up hq)
        replace t3 := hide (t3.out.up hq)
        replace t5 := hide (t5.out.up hq)
        replace hb := hide (upB hb.out hq)
        clear hq
        clear HO
        rcases hsh with ⟨rfl, rfl, rfl⟩ | ⟨b, rfl, hlc⟩
        ·
          skip
          obtain rfl : H = 0 := by omega
          have hl1 := hide (hl.out.takeS (h := 0) (by omega))
          have HA := hide (fun (W : World) (hq : Below w4.heap.size w4 W) => show Calls Tryd.prog 19 #[.agg #[.slice A0 n0 c0, .int .i64 d.now.step, .slice B0 m0 d0, .slice E0 r0 s0], .slice none 0 0] W (fun e w' => ∃ A3 n3 c3 B3 m3 d3 E3 r3 s3, e = .returned (.tuple #[.agg #[.slice A3 n3 c3, .int .i64 D1.now.step, .slice B3 m3 d3, .slice E3 r3 s3], .int .i64 (P1 : Int)]) ∧ DkM w' w'.heap.size (.agg #[.slice A3 n3 c3, .int .i64 D1.now.step, .slice B3 m3 d3, .slice E3 r3 s3]) D1 ∧ DkR w' W.heap.size (.agg #[.slice A3 n3 c3, .int .i64 D1.now.step, .slice B3 m3 d3, .slice E3 r3 s3]) D1 ∧ Below W.heap.size W w' ∧ Below w4.heap.size w4 w') from
            (deskRun_impl _ d (ds.take 0) none 0 0 _ W (hd.out.up hq) (Nat.le_refl _) (hl1.out.up hq) (hD.out.up (upB hb.out hq))).mono fun e w' ⟨u, ee, h1, h2⟩ => by
              rw [e2.out] at ee
              have hm := h1.dkM
              rw [e1.out] at hm
              obtain ⟨A3, n3, c3, B3, m3, d3, E3, r3, s3, rfl⟩ := hm.open_
              rw [e1.out] at h1
              exact ⟨A3, n3, c3, B3, m3, d3, E3, r3, s3, ee, hm, h1, h2, upB hq h2⟩)
          clear q23c0 q23c1 q23c2 q23c3 q23f0 q23f1 q23f2 q23f3 q24c0 q24c1 q24c2 q24c3 q24f0 q24f1 q24f2 q24f3
          obtain ⟨q25c0, q25c1, q25c2, q25c3, q25f0, q25f1, q25f2, q25f3, _⟩ := t3.out
          obtain ⟨q26c0, q26c1, q26c2, q26c3, q26f0, q26f1, q26f2, q26f3, _⟩ := t5.out
          go_upto_region 11 with fail
          go_cut [10, 11] (fun v10 v11 wx => ∃ W, W = wx ∧ ∃ b10 A3 n3 c3 B3 m3 d3 E3 r3 s3, v10 = .pointer (some ⟨b10, 0, none⟩) ∧ v11 = .int .i64 (P1 : Int) ∧ Hid (QuaW W b10 (.slice A3 n3 c3) (.int .i64 D1.now.step) (.slice B3 m3 d3) (.slice E3 r3 s3)) ∧ Hid (DkM W W.heap.size (.agg #[.slice A3 n3 c3, .int .i64 D1.now.step, .slice B3 m3 d3, .slice E3 r3 s3]) D1) ∧ Hid (Below w4.heap.size w4 W))
          case first =>
            go_wp2_with fail
            go_region_with (first | (go_at_call 19; (with_reducible refine (HA.out _ ?_).mono ?_); (focus (repeat (first | assumption | exact Below.refl _ _ | refine Below.drew ?_ | refine Below.alloc ?_ (by simp) _)); done); rintro e wa ⟨A3, n3, c3, B3, m3, d3, E3, r3, s3, rfl, hma, hmR, hqa, hqca⟩; (first | (have hZ : Hid (DBox wa w4.heap.size (.slice none 0 0) (.int .i64 0) (.slice none 0 0) (.slice none 0 0)) := hide (by first | exact DBox.up (DBox.madeAt rfl) hqa | exact DBox.up (DBox.drew (DBox.madeAt rfl)) hqa | exact DBox.up (DBox.madeAt (by simp)) hqa); obtain ⟨zd0, zd1, zd2, zd3, yd0, yd1, yd2, yd3, _⟩ := hZ.out.qua) | skip); have hmF := hide hmR; replace hma := hide hma; replace hqa := hide hqa; replace hqca := hide hqca))
            all_goals
              go_wp2_with fail
              go_meet
              first
              | exact ⟨_, rfl, w4.heap.size, A3, n3, c3, B3, m3, d3, E3, r3, s3, rfl, rfl, hide (hZ.out.set _ _ _ _).qua, hide ((hmF.out.set4 ⟨hZ.out.ob⟩ _ _ _ _).dkM), hide ((((hqca.out.setCell (Nat.le_refl _) _).setCell (Nat.le_refl _) _).setCell (Nat.le_refl _) _).setCell (Nat.le_refl _) _)⟩
              | exact ⟨_, rfl, wa.heap.size, A3, n3, c3, B3, m3, d3, E3, r3, s3, rfl, rfl, hide (QuaW.made _ _ _ _ _ _), hide (hma.out.up (al _ _)), hide (upB hqca.out (al _ _))⟩
          case rest =>
            clear q25c0 q25c1 q25c2 q25c3 q25f0 q25f1 q25f2 q25f3 q26c0 q26c1 q26c2 q26c3 q26f0 q26f1 q26f2 q26f3
            obtain ⟨w5, rfl, b10, A3, n3, c3, B3, m3, d3, E3, r3, s3, rfl, rfl, t10, hm1, hqc⟩ := hcut
            replace hqc := hqc.out
            clear HA
            have z8 := hide ((hqc).size)
            replace hd := hide (hd.out.up hqc)
            replace hl := hide (hl.out.up hqc)
            replace hx := hide (hx.out.up hqc)
            replace t3 := hide (t3.out.up hqc)
            replace t5 := hide (t5.out.up hqc)
            replace hb := hide (upB hb.out hqc)
            clear hqc
            have hl2 := hide (show DdM w5 w5.heap.size none 0 0 (ds.drop 0) from hl.out)
            have HB := hide (fun (W : World) (hq : Below w5.heap.size w5 W) => show Calls Tryd.prog 19 #[.agg #[.slice A3 n3 c3, .int .i64 D1.now.step, .slice B3 m3 d3, .slice E3 r3 s3], .slice none 0 0] W (fun e w' => ∃ A4 n4 c4 B4 m4 d4 E4 r4 s4, e = .returned (.tuple #[.agg #[.slice A4 n4 c4, .int .i64 R.now.step, .slice B4 m4 d4, .slice E4 r4 s4], .int .i64 (Q1 : Int)]) ∧ DkM w' w'.heap.size (.agg #[.slice A4 n4 c4, .int .i64 R.now.step, .slice B4 m4 d4, .slice E4 r4 s4]) R ∧ DkR w' W.heap.size (.agg #[.slice A4 n4 c4, .int .i64 R.now.step, .slice B4 m4 d4, .slice E4 r4 s4]) R ∧ Below W.heap.size W w' ∧ Below w5.heap.size w5 w') from
              (deskRun_impl _ D1 (ds.drop 0) none 0 0 _ W (hm1.out.up hq) (Nat.le_refl _) (hl2.out.up hq) (hD.out.up (upB hb.out hq))).mono fun e w' ⟨u, ee, h1, h2⟩ => by
                rw [e5.out] at ee
                rw [e3.out] at h1
                have hm := h1.dkM
                obtain ⟨A4, n4, c4, B4, m4, d4, E4, r4, s4, rfl⟩ := hm.open_
                exact ⟨A4, n4, c4, B4, m4, d4, E4, r4, s4, ee, hm, h1, h2, upB hq h2⟩)
            obtain ⟨q27c0, q27c1, q27c2, q27c3, q27f0, q27f1, q27f2, q27f3, _⟩ := t3.out
            obtain ⟨q28c0, q28c1, q28c2, q28c3, q28f0, q28f1, q28f2, q28f3, _⟩ := t5.out
            obtain ⟨q29c0, q29c1, q29c2, q29c3, q29f0, q29f1, q29f2, q29f3, _⟩ := t10.out
            go_upto_region 12 with fail
            go_cut [12, 13] (fun v12 v13 wx => ∃ W, W = wx ∧ ∃ b12 A4 n4 c4 B4 m4 d4 E4 r4 s4, v12 = .pointer (some ⟨b12, 0, none⟩) ∧ v13 = .int .i64 (Q1 : Int) ∧ Hid (QuaW W b12 (.slice A4 n4 c4) (.int .i64 R.now.step) (.slice B4 m4 d4) (.slice E4 r4 s4)) ∧ Hid (DkM W W.heap.size (.agg #[.slice A4 n4 c4, .int .i64 R.now.step, .slice B4 m4 d4, .slice E4 r4 s4]) R) ∧ Hid (Below w5.heap.size w5 W))
            case first =>
              go_wp2_with fail
              go_region_with (first | (go_at_call 19; (with_reducible refine (HB.out _ ?_).mono ?_); (focus (repeat (first | assumption | exact Below.refl _ _ | refine Below.drew ?_ | refine Below.alloc ?_ (by simp) _)); done); rintro e wb ⟨A4, n4, c4, B4, m4, d4, E4, r4, s4, rfl, hma, hmR, hqa, hqca⟩; (first | (have hZ : Hid (DBox wb w5.heap.size (.slice none 0 0) (.int .i64 0) (.slice none 0 0) (.slice none 0 0)) := hide (by first | exact DBox.up (DBox.madeAt rfl) hqa | exact DBox.up (DBox.drew (DBox.madeAt rfl)) hqa | exact DBox.up (DBox.madeAt (by simp)) hqa); obtain ⟨zd0, zd1, zd2, zd3, yd0, yd1, yd2, yd3, _⟩ := hZ.out.qua) | skip); have hmF := hide hmR; replace hma := hide hma; replace hqa := hide hqa; replace hqca := hide hqca))
              all_goals
                go_wp2_with fail
                go_meet
                first
                | exact ⟨_, rfl, w5.heap.size, A4, n4, c4, B4, m4, d4, E4, r4, s4, rfl, rfl, hide (hZ.out.set _ _ _ _).qua, hide ((hmF.out.set4 ⟨hZ.out.ob⟩ _ _ _ _).dkM), hide ((((hqca.out.setCell (Nat.le_refl _) _).setCell (Nat.le_refl _) _).setCell (Nat.le_refl _) _).setCell (Nat.le_refl _) _)⟩
                | exact ⟨_, rfl, wb.heap.size, A4, n4, c4, B4, m4, d4, E4, r4, s4, rfl, rfl, hide (QuaW.made _ _ _ _ _ _), hide (hma.out.up (al _ _)), hide (upB hqca.out (al _ _))⟩
            case rest =>
              clear q27c0 q27c1 q27c2 q27c3 q27f0 q27f1 q27f2 q27f3 q28c0 q28c1 q28c2 q28c3 q28f0 q28f1 q28f2 q28f3 q29c0 q29c1 q29c2 q29c3 q29f0 q29f1 q29f2 q29f3
              obtain ⟨w6, rfl, b12, A4, n4, c4, B4, m4, d4, E4, r4, s4, rfl, rfl, t12, hm2, hqc⟩ := hcut
              replace hqc := hqc.out
              clear HB
              have z9 := hide ((hqc).size)
              replace hd := hide (hd.out.up hqc)
              replace hl := hide (hl.out.up hqc)
              replace hx := hide (hx.out.up hqc)
              replace hm1 := hide (hm1.out.up hqc)
              replace t3 := hide (t3.out.up hqc)
              replace t5 := hide (t5.out.up hqc)
              replace t10 := hide (t10.out.up hqc)
              replace hb := hide (upB hb.out hqc)
              clear hqc
              have hwr : IntKind.i64.wrap ((P1 : Int) + (Q1 : Int)) = N := by rw [hPQ]; exact IntWalk.i64_in _ (by omega)
              have HK := hide (fun (W : World) (hx : DkM W W.heap.size (.agg #[.slice A1 n1 c1, .int .i64 R.now.step, .slice B1 m1 d1, .slice E1 r1 s1]) R) => deskOk_impl _ R _ W hx (Nat.le_refl _))
              rw [hok2.out] at HK
              obtain ⟨q30c0, q30c1, q30c2, q30c3, q30f0, q30f1, q30f2, q30f3, _⟩ := t3.out
              obtain ⟨q31c0, q31c1, q31c2, q31c3, q31f0, q31f1, q31f2, q31f3, _⟩ := t5.out
              obtain ⟨q32c0, q32c1, q32c2, q32c3, q32f0, q32f1, q32f2, q32f3, _⟩ := t10.out
              obtain ⟨q33c0, q33c1, q33c2, q33c3, q33f0, q33f1, q33f2, q33f3, _⟩ := t12.out
              go_wp2_with fail
              refine (HK.out _ hx.out).mono ?_
              rintro e w7 ⟨rfl, hq⟩
              have z10 := hide ((hq).size)
              replace hd := hide (hd.out.up hq)
              replace hl := hide (hl.out.up hq)
              replace hx := hide (hx.out.up hq)
              replace hm1 := hide (hm1.out.up hq)
              replace hm2 := hide (hm2.out.up hq)
              replace t3 := hide (t3.out.up hq)
              replace t5 := hide (t5.out.up hq)
              replace t10 := hide (t10.out.up hq)
              replace t12 := hide (t12.out.up hq)
              replace hb := hide (upB hb.out hq)
              clear hq
              clear q30c0 q30c1 q30c2 q30c3 q30f0 q30f1 q30f2 q30f3 q31c0 q31c1 q31c2 q31c3 q31f0 q31f1 q31f2 q31f3 q32c0 q32c1 q32c2 q32c3 q32f0 q32f1 q32f2 q32f3 q33c0 q33c1 q33c2 q33c3 q33f0 q33f1 q33f2 q33f3
              obtain ⟨q34c0, q34c1, q34c2, q34c3, q34f0, q34f1, q34f2, q34f3, _⟩ := t3.out
              obtain ⟨q35c0, q35c1, q35c2, q35c3, q35f0, q35f1, q35f2, q35f3, _⟩ := t5.out
              obtain ⟨q36c0, q36c1, q36c2, q36c3, q36f0, q36f1, q36f2, q36f3, _⟩ := t10.out
              obtain ⟨q37c0, q37c1, q37c2, q37c3, q37f0, q37f1, q37f2, q37f3, _⟩ := t12.out
              go_wp2_with fail
              refine (sameDesk_c _ _ R R _ _ _ hm2.out hx.out (Nat.le_refl _) (Nat.le_refl _)).mono ?_
              rw [sameK_refl]
              rintro e w8 ⟨rfl, hq⟩
              have z11 := hide ((hq).size)
              replace hd := hide (hd.out.up hq)
              replace hl := hide (hl.out.up hq)
              replace hx := hide (hx.out.up hq)
              replace hm1 := hide (hm1.out.up hq)
              replace hm2 := hide (hm2.out.up hq)
              replace t3 := hide (t3.out.up hq)
              replace t5 := hide (t5.out.up hq)
              replace t10 := hide (t10.out.up hq)
              replace t12 := hide (t12.out.up hq)
              replace hb := hide (upB hb.out hq)
              clear hq
              clear q34c0 q34c1 q34c2 q34c3 q34f0 q34f1 q34f2 q34f3 q35c0 q35c1 q35c2 q35c3 q35f0 q35f1 q35f2 q35f3 q36c0 q36c1 q36c2 q36c3 q36f0 q36f1 q36f2 q36f3 q37c0 q37c1 q37c2 q37c3 q37f0 q37f1 q37f2 q37f3
              obtain ⟨q38c0, q38c1, q38c2, q38c3, q38f0, q38f1, q38f2, q38f3, _⟩ := t3.out
              obtain ⟨q39c0, q39c1, q39c2, q39c3, q39f0, q39f1, q39f2, q39f3, _⟩ := t5.out
              obtain ⟨q40c0, q40c1, q40c2, q40c3, q40f0, q40f1, q40f2, q40f3, _⟩ := t10.out
              obtain ⟨q41c0, q41c1, q41c2, q41c3, q41f0, q41f1, q41f2, q41f3, _⟩ := t12.out
              go_wp2_with fail
              go_ret
              exact ⟨rfl, hb.out⟩
        ·
          skip
          have hl1 := hide (hl.out.takeS (h := H) (by omega))
          have HA := hide (fun (W : World) (hq : Below w4.heap.size w4 W) => show Calls Tryd.prog 19 #[.agg #[.slice A0 n0 c0, .int .i64 d.now.step, .slice B0 m0 d0, .slice E0 r0 s0], .slice (some ⟨b, 0, none⟩) H cl] W (fun e w' => ∃ A3 n3 c3 B3 m3 d3 E3 r3 s3, e = .returned (.tuple #[.agg #[.slice A3 n3 c3, .int .i64 D1.now.step, .slice B3 m3 d3, .slice E3 r3 s3], .int .i64 (P1 : Int)]) ∧ DkM w' w'.heap.size (.agg #[.slice A3 n3 c3, .int .i64 D1.now.step, .slice B3 m3 d3, .slice E3 r3 s3]) D1 ∧ DkR w' W.heap.size (.agg #[.slice A3 n3 c3, .int .i64 D1.now.step, .slice B3 m3 d3, .slice E3 r3 s3]) D1 ∧ Below W.heap.size W w' ∧ Below w4.heap.size w4 w') from
            (deskRun_impl _ d (ds.take H) (some ⟨b, 0, none⟩) H cl _ W (hd.out.up hq) (Nat.le_refl _) (hl1.out.up hq) (hD.out.up (upB hb.out hq))).mono fun e w' ⟨u, ee, h1, h2⟩ => by
              rw [e2.out] at ee
              have hm := h1.dkM
              rw [e1.out] at hm
              obtain ⟨A3, n3, c3, B3, m3, d3, E3, r3, s3, rfl⟩ := hm.open_
              rw [e1.out] at h1
              exact ⟨A3, n3, c3, B3, m3, d3, E3, r3, s3, ee, hm, h1, h2, upB hq h2⟩)
          clear q23c0 q23c1 q23c2 q23c3 q23f0 q23f1 q23f2 q23f3 q24c0 q24c1 q24c2 q24c3 q24f0 q24f1 q24f2 q24f3
          obtain ⟨q42c0, q42c1, q42c2, q42c3, q42f0, q42f1, q42f2, q42f3, _⟩ := t3.out
          obtain ⟨q43c0, q43c1, q43c2, q43c3, q43f0, q43f1, q43f2, q43f3, _⟩ := t5.out
          go_upto_region 11 with fail
          go_cut [10, 11] (fun v10 v11 wx => ∃ W, W = wx ∧ ∃ b10 A3 n3 c3 B3 m3 d3 E3 r3 s3, v10 = .pointer (some ⟨b10, 0, none⟩) ∧ v11 = .int .i64 (P1 : Int) ∧ Hid (QuaW W b10 (.slice A3 n3 c3) (.int .i64 D1.now.step) (.slice B3 m3 d3) (.slice E3 r3 s3)) ∧ Hid (DkM W W.heap.size (.agg #[.slice A3 n3 c3, .int .i64 D1.now.step, .slice B3 m3 d3, .slice E3 r3 s3]) D1) ∧ Hid (Below w4.heap.size w4 W))
          case first =>
            go_wp2_with fail
            go_region_with (first | (go_at_call 19; (with_reducible refine (HA.out _ ?_).mono ?_); (focus (repeat (first | assumption | exact Below.refl _ _ | refine Below.drew ?_ | refine Below.alloc ?_ (by simp) _)); done); rintro e wa ⟨A3, n3, c3, B3, m3, d3, E3, r3, s3, rfl, hma, hmR, hqa, hqca⟩; (first | (have hZ : Hid (DBox wa w4.heap.size (.slice none 0 0) (.int .i64 0) (.slice none 0 0) (.slice none 0 0)) := hide (by first | exact DBox.up (DBox.madeAt rfl) hqa | exact DBox.up (DBox.drew (DBox.madeAt rfl)) hqa | exact DBox.up (DBox.madeAt (by simp)) hqa); obtain ⟨zd0, zd1, zd2, zd3, yd0, yd1, yd2, yd3, _⟩ := hZ.out.qua) | skip); have hmF := hide hmR; replace hma := hide hma; replace hqa := hide hqa; replace hqca := hide hqca))
            all_goals
              go_wp2_with fail
              go_meet
              first
              | exact ⟨_, rfl, w4.heap.size, A3, n3, c3, B3, m3, d3, E3, r3, s3, rfl, rfl, hide (hZ.out.set _ _ _ _).qua, hide ((hmF.out.set4 ⟨hZ.out.ob⟩ _ _ _ _).dkM), hide ((((hqca.out.setCell (Nat.le_refl _) _).setCell (Nat.le_refl _) _).setCell (Nat.le_refl _) _).setCell (Nat.le_refl _) _)⟩
              | exact ⟨_, rfl, wa.heap.size, A3, n3, c3, B3, m3, d3, E3, r3, s3, rfl, rfl, hide (QuaW.made _ _ _ _ _ _), hide (hma.out.up (al _ _)), hide (upB hqca.out (al _ _))⟩
          case rest =>
            clear q42c0 q42c1 q42c2 q42c3 q42f0 q42f1 q42f2 q42f3 q43c0 q43c1 q43c2 q43c3 q43f0 q43f1 q43f2 q43f3
            obtain ⟨w5, rfl, b10, A3, n3, c3, B3, m3, d3, E3, r3, s3, rfl, rfl, t10, hm1, hqc⟩ := hcut
            replace hqc := hqc.out
            clear HA
            have z8 := hide ((hqc).size)
            replace hd := hide (hd.out.up hqc)
            replace hl := hide (hl.out.up hqc)
            replace hx := hide (hx.out.up hqc)
            replace t3 := hide (t3.out.up hqc)
            replace t5 := hide (t5.out.up hqc)
            replace hb := hide (upB hb.out hqc)
            clear hqc
            by_cases hn0 : nl = 0
            ·
              subst hn0
              obtain rfl : H = 0 := by omega
              have hl2 := hide (show DdM w5 w5.heap.size (some ⟨b, 0, none⟩) 0 cl (ds.drop 0) from hl.out)
              have HB := hide (fun (W : World) (hq : Below w5.heap.size w5 W) => show Calls Tryd.prog 19 #[.agg #[.slice A3 n3 c3, .int .i64 D1.now.step, .slice B3 m3 d3, .slice E3 r3 s3], .slice (some ⟨b, 0, none⟩) 0 cl] W (fun e w' => ∃ A4 n4 c4 B4 m4 d4 E4 r4 s4, e = .returned (.tuple #[.agg #[.slice A4 n4 c4, .int .i64 R.now.step, .slice B4 m4 d4, .slice E4 r4 s4], .int .i64 (Q1 : Int)]) ∧ DkM w' w'.heap.size (.agg #[.slice A4 n4 c4, .int .i64 R.now.step, .slice B4 m4 d4, .slice E4 r4 s4]) R ∧ DkR w' W.heap.size (.agg #[.slice A4 n4 c4, .int .i64 R.now.step, .slice B4 m4 d4, .slice E4 r4 s4]) R ∧ Below W.heap.size W w' ∧ Below w5.heap.size w5 w') from
                (deskRun_impl _ D1 (ds.drop 0) (some ⟨b, 0, none⟩) 0 cl _ W (hm1.out.up hq) (Nat.le_refl _) (hl2.out.up hq) (hD.out.up (upB hb.out hq))).mono fun e w' ⟨u, ee, h1, h2⟩ => by
                  rw [e5.out] at ee
                  rw [e3.out] at h1
                  have hm := h1.dkM
                  obtain ⟨A4, n4, c4, B4, m4, d4, E4, r4, s4, rfl⟩ := hm.open_
                  exact ⟨A4, n4, c4, B4, m4, d4, E4, r4, s4, ee, hm, h1, h2, upB hq h2⟩)
              obtain ⟨q44c0, q44c1, q44c2, q44c3, q44f0, q44f1, q44f2, q44f3, _⟩ := t3.out
              obtain ⟨q45c0, q45c1, q45c2, q45c3, q45f0, q45f1, q45f2, q45f3, _⟩ := t5.out
              obtain ⟨q46c0, q46c1, q46c2, q46c3, q46f0, q46f1, q46f2, q46f3, _⟩ := t10.out
              go_upto_region 12 with fail
              go_cut [12, 13] (fun v12 v13 wx => ∃ W, W = wx ∧ ∃ b12 A4 n4 c4 B4 m4 d4 E4 r4 s4, v12 = .pointer (some ⟨b12, 0, none⟩) ∧ v13 = .int .i64 (Q1 : Int) ∧ Hid (QuaW W b12 (.slice A4 n4 c4) (.int .i64 R.now.step) (.slice B4 m4 d4) (.slice E4 r4 s4)) ∧ Hid (DkM W W.heap.size (.agg #[.slice A4 n4 c4, .int .i64 R.now.step, .slice B4 m4 d4, .slice E4 r4 s4]) R) ∧ Hid (Below w5.heap.size w5 W))
              case first =>
                go_wp2_with fail
                go_region_with (first | (go_at_call 19; (with_reducible refine (HB.out _ ?_).mono ?_); (focus (repeat (first | assumption | exact Below.refl _ _ | refine Below.drew ?_ | refine Below.alloc ?_ (by simp) _)); done); rintro e wb ⟨A4, n4, c4, B4, m4, d4, E4, r4, s4, rfl, hma, hmR, hqa, hqca⟩; (first | (have hZ : Hid (DBox wb w5.heap.size (.slice none 0 0) (.int .i64 0) (.slice none 0 0) (.slice none 0 0)) := hide (by first | exact DBox.up (DBox.madeAt rfl) hqa | exact DBox.up (DBox.drew (DBox.madeAt rfl)) hqa | exact DBox.up (DBox.madeAt (by simp)) hqa); obtain ⟨zd0, zd1, zd2, zd3, yd0, yd1, yd2, yd3, _⟩ := hZ.out.qua) | skip); have hmF := hide hmR; replace hma := hide hma; replace hqa := hide hqa; replace hqca := hide hqca))
                all_goals
                  go_wp2_with fail
                  go_meet
                  first
                  | exact ⟨_, rfl, w5.heap.size, A4, n4, c4, B4, m4, d4, E4, r4, s4, rfl, rfl, hide (hZ.out.set _ _ _ _).qua, hide ((hmF.out.set4 ⟨hZ.out.ob⟩ _ _ _ _).dkM), hide ((((hqca.out.setCell (Nat.le_refl _) _).setCell (Nat.le_refl _) _).setCell (Nat.le_refl _) _).setCell (Nat.le_refl _) _)⟩
                  | exact ⟨_, rfl, wb.heap.size, A4, n4, c4, B4, m4, d4, E4, r4, s4, rfl, rfl, hide (QuaW.made _ _ _ _ _ _), hide (hma.out.up (al _ _)), hide (upB hqca.out (al _ _))⟩
              case rest =>
                clear q44c0 q44c1 q44c2 q44c3 q44f0 q44f1 q44f2 q44f3 q45c0 q45c1 q45c2 q45c3 q45f0 q45f1 q45f2 q45f3 q46c0 q46c1 q46c2 q46c3 q46f0 q46f1 q46f2 q46f3
                obtain ⟨w6, rfl, b12, A4, n4, c4, B4, m4, d4, E4, r4, s4, rfl, rfl, t12, hm2, hqc⟩ := hcut
                replace hqc := hqc.out
                clear HB
                have z9 := hide ((hqc).size)
                replace hd := hide (hd.out.up hqc)
                replace hl := hide (hl.out.up hqc)
                replace hx := hide (hx.out.up hqc)
                replace hm1 := hide (hm1.out.up hqc)
                replace t3 := hide (t3.out.up hqc)
                replace t5 := hide (t5.out.up hqc)
                replace t10 := hide (t10.out.up hqc)
                replace hb := hide (upB hb.out hqc)
                clear hqc
                have hwr : IntKind.i64.wrap ((P1 : Int) + (Q1 : Int)) = N := by rw [hPQ]; exact IntWalk.i64_in _ (by omega)
                have HK := hide (fun (W : World) (hx : DkM W W.heap.size (.agg #[.slice A1 n1 c1, .int .i64 R.now.step, .slice B1 m1 d1, .slice E1 r1 s1]) R) => deskOk_impl _ R _ W hx (Nat.le_refl _))
                rw [hok2.out] at HK
                obtain ⟨q47c0, q47c1, q47c2, q47c3, q47f0, q47f1, q47f2, q47f3, _⟩ := t3.out
                obtain ⟨q48c0, q48c1, q48c2, q48c3, q48f0, q48f1, q48f2, q48f3, _⟩ := t5.out
                obtain ⟨q49c0, q49c1, q49c2, q49c3, q49f0, q49f1, q49f2, q49f3, _⟩ := t10.out
                obtain ⟨q50c0, q50c1, q50c2, q50c3, q50f0, q50f1, q50f2, q50f3, _⟩ := t12.out
                go_wp2_with fail
                refine (HK.out _ hx.out).mono ?_
                rintro e w7 ⟨rfl, hq⟩
                have z10 := hide ((hq).size)
                replace hd := hide (hd.out.up hq)
                replace hl := hide (hl.out.up hq)
                replace hx := hide (hx.out.up hq)
                replace hm1 := hide (hm1.out.up hq)
                replace hm2 := hide (hm2.out.up hq)
                replace t3 := hide (t3.out.up hq)
                replace t5 := hide (t5.out.up hq)
                replace t10 := hide (t10.out.up hq)
                replace t12 := hide (t12.out.up hq)
                replace hb := hide (upB hb.out hq)
                clear hq
                clear q47c0 q47c1 q47c2 q47c3 q47f0 q47f1 q47f2 q47f3 q48c0 q48c1 q48c2 q48c3 q48f0 q48f1 q48f2 q48f3 q49c0 q49c1 q49c2 q49c3 q49f0 q49f1 q49f2 q49f3 q50c0 q50c1 q50c2 q50c3 q50f0 q50f1 q50f2 q50f3
                obtain ⟨q51c0, q51c1, q51c2, q51c3, q51f0, q51f1, q51f2, q51f3, _⟩ := t3.out
                obtain ⟨q52c0, q52c1, q52c2, q52c3, q52f0, q52f1, q52f2, q52f3, _⟩ := t5.out
                obtain ⟨q53c0, q53c1, q53c2, q53c3, q53f0, q53f1, q53f2, q53f3, _⟩ := t10.out
                obtain ⟨q54c0, q54c1, q54c2, q54c3, q54f0, q54f1, q54f2, q54f3, _⟩ := t12.out
                go_wp2_with fail
                refine (sameDesk_c _ _ R R _ _ _ hm2.out hx.out (Nat.le_refl _) (Nat.le_refl _)).mono ?_
                rw [sameK_refl]
                rintro e w8 ⟨rfl, hq⟩
                have z11 := hide ((hq).size)
                replace hd := hide (hd.out.up hq)
                replace hl := hide (hl.out.up hq)
                replace hx := hide (hx.out.up hq)
                replace hm1 := hide (hm1.out.up hq)
                replace hm2 := hide (hm2.out.up hq)
                replace t3 := hide (t3.out.up hq)
                replace t5 := hide (t5.out.up hq)
                replace t10 := hide (t10.out.up hq)
                replace t12 := hide (t12.out.up hq)
                replace hb := hide (upB hb.out hq)
                clear hq
                clear q51c0 q51c1 q51c2 q51c3 q51f0 q51f1 q51f2 q51f3 q52c0 q52c1 q52c2 q52c3 q52f0 q52f1 q52f2 q52f3 q53c0 q53c1 q53c2 q53c3 q53f0 q53f1 q53f2 q53f3 q54c0 q54c1 q54c2 q54c3 q54f0 q54f1 q54f2 q54f3
                obtain ⟨q55c0, q55c1, q55c2, q55c3, q55f0, q55f1, q55f2, q55f3, _⟩ := t3.out
                obtain ⟨q56c0, q56c1, q56c2, q56c3, q56f0, q56f1, q56f2, q56f3, _⟩ := t5.out
                obtain ⟨q57c0, q57c1, q57c2, q57c3, q57f0, q57f1, q57f2, q57f3, _⟩ := t10.out
                obtain ⟨q58c0, q58c1, q58c2, q58c3, q58f0, q58f1, q58f2, q58f3, _⟩ := t12.out
                go_wp2_with fail
                go_ret
                exact ⟨rfl, hb.out⟩
            ·
              have hcl : ¬ (cl = H) := by omega
              have hH3 : (H : Int) ≤ (nl : Int) := by omega
              have hl2 := hide (show DdM w5 w5.heap.size (some ⟨b, H * 3, none⟩) (nl - H) (cl - H) (ds.drop H) from (by have := DdM.dropS hl.out hHn; simpa using this))
              have HB := hide (fun (W : World) (hq : Below w5.heap.size w5 W) => show Calls Tryd.prog 19 #[.agg #[.slice A3 n3 c3, .int .i64 D1.now.step, .slice B3 m3 d3, .slice E3 r3 s3], .slice (some ⟨b, H * 3, none⟩) (nl - H) (cl - H)] W (fun e w' => ∃ A4 n4 c4 B4 m4 d4 E4 r4 s4, e = .returned (.tuple #[.agg #[.slice A4 n4 c4, .int .i64 R.now.step, .slice B4 m4 d4, .slice E4 r4 s4], .int .i64 (Q1 : Int)]) ∧ DkM w' w'.heap.size (.agg #[.slice A4 n4 c4, .int .i64 R.now.step, .slice B4 m4 d4, .slice E4 r4 s4]) R ∧ DkR w' W.heap.size (.agg #[.slice A4 n4 c4, .int .i64 R.now.step, .slice B4 m4 d4, .slice E4 r4 s4]) R ∧ Below W.heap.size W w' ∧ Below w5.heap.size w5 w') from
                (deskRun_impl _ D1 (ds.drop H) (some ⟨b, H * 3, none⟩) (nl - H) (cl - H) _ W (hm1.out.up hq) (Nat.le_refl _) (hl2.out.up hq) (hD.out.up (upB hb.out hq))).mono fun e w' ⟨u, ee, h1, h2⟩ => by
                  rw [e5.out] at ee
                  rw [e3.out] at h1
                  have hm := h1.dkM
                  obtain ⟨A4, n4, c4, B4, m4, d4, E4, r4, s4, rfl⟩ := hm.open_
                  exact ⟨A4, n4, c4, B4, m4, d4, E4, r4, s4, ee, hm, h1, h2, upB hq h2⟩)
              obtain ⟨q59c0, q59c1, q59c2, q59c3, q59f0, q59f1, q59f2, q59f3, _⟩ := t3.out
              obtain ⟨q60c0, q60c1, q60c2, q60c3, q60f0, q60f1, q60f2, q60f3, _⟩ := t5.out
              obtain ⟨q61c0, q61c1, q61c2, q61c3, q61f0, q61f1, q61f2, q61f3, _⟩ := t10.out
              go_upto_region 12 with fail
              go_cut [12, 13] (fun v12 v13 wx => ∃ W, W = wx ∧ ∃ b12 A4 n4 c4 B4 m4 d4 E4 r4 s4, v12 = .pointer (some ⟨b12, 0, none⟩) ∧ v13 = .int .i64 (Q1 : Int) ∧ Hid (QuaW W b12 (.slice A4 n4 c4) (.int .i64 R.now.step) (.slice B4 m4 d4) (.slice E4 r4 s4)) ∧ Hid (DkM W W.heap.size (.agg #[.slice A4 n4 c4, .int .i64 R.now.step, .slice B4 m4 d4, .slice E4 r4 s4]) R) ∧ Hid (Below w5.heap.size w5 W))
              case first =>
                go_wp2_with fail
                go_region_with (first | (go_at_call 19; (with_reducible refine (HB.out _ ?_).mono ?_); (focus (repeat (first | assumption | exact Below.refl _ _ | refine Below.drew ?_ | refine Below.alloc ?_ (by simp) _)); done); rintro e wb ⟨A4, n4, c4, B4, m4, d4, E4, r4, s4, rfl, hma, hmR, hqa, hqca⟩; (first | (have hZ : Hid (DBox wb w5.heap.size (.slice none 0 0) (.int .i64 0) (.slice none 0 0) (.slice none 0 0)) := hide (by first | exact DBox.up (DBox.madeAt rfl) hqa | exact DBox.up (DBox.drew (DBox.madeAt rfl)) hqa | exact DBox.up (DBox.madeAt (by simp)) hqa); obtain ⟨zd0, zd1, zd2, zd3, yd0, yd1, yd2, yd3, _⟩ := hZ.out.qua) | skip); have hmF := hide hmR; replace hma := hide hma; replace hqa := hide hqa; replace hqca := hide hqca))
                all_goals
                  go_wp2_with fail
                  go_meet
                  first
                  | exact ⟨_, rfl, w5.heap.size, A4, n4, c4, B4, m4, d4, E4, r4, s4, rfl, rfl, hide (hZ.out.set _ _ _ _).qua, hide ((hmF.out.set4 ⟨hZ.out.ob⟩ _ _ _ _).dkM), hide ((((hqca.out.setCell (Nat.le_refl _) _).setCell (Nat.le_refl _) _).setCell (Nat.le_refl _) _).setCell (Nat.le_refl _) _)⟩
                  | exact ⟨_, rfl, wb.heap.size, A4, n4, c4, B4, m4, d4, E4, r4, s4, rfl, rfl, hide (QuaW.made _ _ _ _ _ _), hide (hma.out.up (al _ _)), hide (upB hqca.out (al _ _))⟩
              case rest =>
                clear q59c0 q59c1 q59c2 q59c3 q59f0 q59f1 q59f2 q59f3 q60c0 q60c1 q60c2 q60c3 q60f0 q60f1 q60f2 q60f3 q61c0 q61c1 q61c2 q61c3 q61f0 q61f1 q61f2 q61f3
                obtain ⟨w6, rfl, b12, A4, n4, c4, B4, m4, d4, E4, r4, s4, rfl, rfl, t12, hm2, hqc⟩ := hcut
                replace hqc := hqc.out
                clear HB
                have z9 := hide ((hqc).size)
                replace hd := hide (hd.out.up hqc)
                replace hl := hide (hl.out.up hqc)
                replace hx := hide (hx.out.up hqc)
                replace hm1 := hide (hm1.out.up hqc)
                replace t3 := hide (t3.out.up hqc)
                replace t5 := hide (t5.out.up hqc)
                replace t10 := hide (t10.out.up hqc)
                replace hb := hide (upB hb.out hqc)
                clear hqc
                have hwr : IntKind.i64.wrap ((P1 : Int) + (Q1 : Int)) = N := by rw [hPQ]; exact IntWalk.i64_in _ (by omega)
                have HK := hide (fun (W : World) (hx : DkM W W.heap.size (.agg #[.slice A1 n1 c1, .int .i64 R.now.step, .slice B1 m1 d1, .slice E1 r1 s1]) R) => deskOk_impl _ R _ W hx (Nat.le_refl _))
                rw [hok2.out] at HK
                obtain ⟨q62c0, q62c1, q62c2, q62c3, q62f0, q62f1, q62f2, q62f3, _⟩ := t3.out
                obtain ⟨q63c0, q63c1, q63c2, q63c3, q63f0, q63f1, q63f2, q63f3, _⟩ := t5.out
                obtain ⟨q64c0, q64c1, q64c2, q64c3, q64f0, q64f1, q64f2, q64f3, _⟩ := t10.out
                obtain ⟨q65c0, q65c1, q65c2, q65c3, q65f0, q65f1, q65f2, q65f3, _⟩ := t12.out
                go_wp2_with fail
                refine (HK.out _ hx.out).mono ?_
                rintro e w7 ⟨rfl, hq⟩
                have z10 := hide ((hq).size)
                replace hd := hide (hd.out.up hq)
                replace hl := hide (hl.out.up hq)
                replace hx := hide (hx.out.up hq)
                replace hm1 := hide (hm1.out.up hq)
                replace hm2 := hide (hm2.out.up hq)
                replace t3 := hide (t3.out.up hq)
                replace t5 := hide (t5.out.up hq)
                replace t10 := hide (t10.out.up hq)
                replace t12 := hide (t12.out.up hq)
                replace hb := hide (upB hb.out hq)
                clear hq
                clear q62c0 q62c1 q62c2 q62c3 q62f0 q62f1 q62f2 q62f3 q63c0 q63c1 q63c2 q63c3 q63f0 q63f1 q63f2 q63f3 q64c0 q64c1 q64c2 q64c3 q64f0 q64f1 q64f2 q64f3 q65c0 q65c1 q65c2 q65c3 q65f0 q65f1 q65f2 q65f3
                obtain ⟨q66c0, q66c1, q66c2, q66c3, q66f0, q66f1, q66f2, q66f3, _⟩ := t3.out
                obtain ⟨q67c0, q67c1, q67c2, q67c3, q67f0, q67f1, q67f2, q67f3, _⟩ := t5.out
                obtain ⟨q68c0, q68c1, q68c2, q68c3, q68f0, q68f1, q68f2, q68f3, _⟩ := t10.out
                obtain ⟨q69c0, q69c1, q69c2, q69c3, q69f0, q69f1, q69f2, q69f3, _⟩ := t12.out
                go_wp2_with fail
                refine (sameDesk_c _ _ R R _ _ _ hm2.out hx.out (Nat.le_refl _) (Nat.le_refl _)).mono ?_
                rw [sameK_refl]
                rintro e w8 ⟨rfl, hq⟩
                have z11 := hide ((hq).size)
                replace hd := hide (hd.out.up hq)
                replace hl := hide (hl.out.up hq)
                replace hx := hide (hx.out.up hq)
                replace hm1 := hide (hm1.out.up hq)
                replace hm2 := hide (hm2.out.up hq)
                replace t3 := hide (t3.out.up hq)
                replace t5 := hide (t5.out.up hq)
                replace t10 := hide (t10.out.up hq)
                replace t12 := hide (t12.out.up hq)
                replace hb := hide (upB hb.out hq)
                clear hq
                clear q66c0 q66c1 q66c2 q66c3 q66f0 q66f1 q66f2 q66f3 q67c0 q67c1 q67c2 q67c3 q67f0 q67f1 q67f2 q67f3 q68c0 q68c1 q68c2 q68c3 q68f0 q68f1 q68f2 q68f3 q69c0 q69c1 q69c2 q69c3 q69f0 q69f1 q69f2 q69f3
                obtain ⟨q70c0, q70c1, q70c2, q70c3, q70f0, q70f1, q70f2, q70f3, _⟩ := t3.out
                obtain ⟨q71c0, q71c1, q71c2, q71c3, q71f0, q71f1, q71f2, q71f3, _⟩ := t5.out
                obtain ⟨q72c0, q72c1, q72c2, q72c3, q72f0, q72f1, q72f2, q72f3, _⟩ := t10.out
                obtain ⟨q73c0, q73c1, q73c2, q73c3, q73f0, q73f1, q73f2, q73f3, _⟩ := t12.out
                go_wp2_with fail
                go_ret
                exact ⟨rfl, hb.out⟩
end Go.Proofs.YtoafpokcbbncfaaDoor
