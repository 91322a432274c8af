/-
  Exact laws of chapter 14 walked: DeskRun (written by wip/gen_g9.py).
-/
import Derived.Test.YtoafpokcbbncfaaDoorZmd
import Derived.Test.YtoafpokcbbncfaaDoorZdf
import Derived.Test.YtoafpokcbbncfaaDoorZdsl
import Derived.Test.YtoafpokcbbncfaaDoorDeedX
import Derived.Test.YtoafpokcbbncfaaDoorZdraw
namespace Go.Proofs.YtoafpokcbbncfaaDoor
open Go.RowKit
set_option linter.unusedVariables false

theorem deskR_or (d : Dsk) (l : List Ded) : deskOk (deskR d l) = true ∨ deskR d l = noDsk := by
  unfold deskR runOk
  cases h : deskOk d with
  | false => exact .inr rfl
  | true =>
    rw [Bool.true_and]
    split
    · exact .inl (runD_ok h l)
    · exact .inr rfl
theorem OwnD.only {w w' : World} {b lo hi : Nat} {v : Value} {ds : List Ded} (h : OwnD w b v ds) (hO : Only w w' lo hi) (hv : ∀ k, v.ownBlock = some k → k < lo ∨ hi ≤ k) : OwnD w' b v ds :=
  ⟨row_same h.row fun k hk => hO.block k (h.row.lt k hk).2 (hv k hk), h.wf⟩

set_option maxRecDepth 100000 in
set_option maxHeartbeats 1600000 in
theorem markDeedSZ_c (A : Option Addr) (n c base : Nat) (k : Int) (ds : List Ded) (w : World) (h : OwnD w base (.slice A n c) ds) (h0 : 0 ≤ k) (h1 : k ≤ 1000000000000000) (hn : n ≤ 1048576) :
    Calls Tryd.prog 21 #[.slice A n c, .int .i64 k] w fun e w' => e = .returned (.int .i64 (k + 3 * (n : Int))) ∧ OwnD w' base (.slice A n c) (mrkD ds k n) ∧ w.grownBy w' ((Value.slice A n c).ownBlock) := by
  have hl := hide h.len
  replace h := hide h
  go_enter Tryd.func21, Tryd.ntmps21
  go_wp2
  go_loopw [1, 5] (fun q i wr => ∃ j : Nat, j ≤ n ∧ i = .int .i64 j ∧ q = .int .i64 (k + 3 * (j : Int)) ∧ Hid (OwnD wr base (.slice A n c) (mrkD ds k j)) ∧ Hid (w.grownBy wr ((Value.slice A n c).ownBlock))) (fun _ i _ => n - (intOf i).toNat)
  case atStart => exact ⟨0, Nat.zero_le _, rfl, by simp, by rw [mrkD_zero]; exact h, hide (World.grownBy.refl w _)⟩
  case round =>
    clear h
    obtain ⟨j, hj, rfl, rfl, ho, hg⟩ := hrel
    by_cases hlt : j < n
    · have hjl : j < ds.length := by have := hl.out; omega
      obtain ⟨K, hK⟩ : ∃ K, Hid (k + 3 * (j : Int) = K) := ⟨_, hide rfl⟩
      have hKb : 0 ≤ K ∧ K ≤ 1100000000000000 := by have := hK.out; omega
      have hmk := hide (show mk3 k j = ⟨K, K + 1, K + 2⟩ by unfold mk3; rw [hK.out])
      rw [hK.out]
      obtain ⟨K0, K1⟩ := hKb
      obtain ⟨x, hxy⟩ : ∃ m, ds[j]? = some m := ⟨_, List.getElem?_eq_getElem hjl⟩
      obtain ⟨g, rfl, hgb, hgl, ⟨d1, d2⟩, ⟨d3, d4⟩, ⟨d5, d6⟩, ⟨d7, d8⟩, ⟨d9, d10⟩⟩ := ho.out.at3 (mrkD_past.trans hxy) (.int .i64 K) (.int .i64 (K + 1))
      have ho3 := hide (show OwnD (((wr.setCell ⟨g, j * 3, none⟩ (.int .i64 K)).setCell ⟨g, j * 3 + 1, none⟩ (.int .i64 (K + 1))).setCell ⟨g, j * 3 + 2, none⟩ (.int .i64 (K + 2))) base (.slice (some ⟨g, 0, none⟩) n c) (mrkD ds k (j + 1)) by
        have := ho.out.set3 (j := j) (x := ⟨K, K + 1, K + 2⟩) (by rw [mrkD_len (by omega)]; exact hjl) ⟨wf_i64 (by simp only; omega), wf_i64 (by simp only; omega), wf_i64 (by simp only; omega)⟩
        rw [← hmk.out, mrkD_set hjl, hmk.out] at this
        exact this)
      have hg3 := hide (show w.grownBy (((wr.setCell ⟨g, j * 3, none⟩ (.int .i64 K)).setCell ⟨g, j * 3 + 1, none⟩ (.int .i64 (K + 1))).setCell ⟨g, j * 3 + 2, none⟩ (.int .i64 (K + 2))) (some g) from ((World.grownBy.trans hg.out (grown_set wr g (j * 3) (.int .i64 K))).trans (grown_set _ g (j * 3 + 1) (.int .i64 (K + 1)))).trans (grown_set _ g (j * 3 + 2) (.int .i64 (K + 2))))
      have hKn := hide (show K + 1 + 1 + 1 = k + 3 * ((j + 1 : Nat) : Int) by have := hK.out; omega)
      have hK2 : K + 1 + 1 = K + 2 := by omega
      clear hxy hmk
      go_wp2
      go_roundw
      case rel => exact ⟨j + 1, by omega, by go_num, by rw [← hKn.out] <;> first | rfl | (congr 1; omega), ho3, hg3⟩
      case measure => simp [intOf]; omega
    · obtain rfl : j = n := by omega
      go_wp2
      go_ret
      exact ⟨rfl, ho.out, hg.out⟩


set_option maxRecDepth 100000 in
set_option maxHeartbeats 6400000 in
theorem exDeskRun {v : Value} {d : Dsk} {Al : Option Addr} {nl cl : Nat} {ds : List Ded} {w : World} (h : DkM w w.heap.size v d) (hl : DdM w w.heap.size Al nl cl ds) (hD : LaidD w) :
    Calls Tryd.prog 4 #[v, .slice Al nl cl] w fun e w' => e = .returned (.bool true) ∧ Below w.heap.size w w' := by
  have hd := hide h
  replace hl := hide hl
  replace hD := hide hD
  obtain ⟨A, n, c, A2, n2, c2, A3, n3, c3, rfl, i1, i2, hwf, i3⟩ := h.ex
  clear i1 i2 i3 hwf h
  have hb := hide (Below.refl w.heap.size w)
  have z1 := hide (show (w.alloc (.cells #[.slice A n c, .int .i64 d.now.step, .slice A2 n2 c2, .slice A3 n3 c3] 27)).heap.size = w.heap.size + 1 by simp)
  replace hb := hide (upB hb.out (al w (.cells #[.slice A n c, .int .i64 d.now.step, .slice A2 n2 c2, .slice A3 n3 c3] 27)))
  have t1 := hide (QuaW.made w (.slice A n c) (.int .i64 d.now.step) (.slice A2 n2 c2) (.slice A3 n3 c3) 27)
  obtain ⟨N, hN⟩ : ∃ N, Hid (deskN d ds = N) := ⟨_, hide rfl⟩
  obtain ⟨R, hR⟩ : ∃ R, Hid (deskR d ds = R) := ⟨_, hide rfl⟩
  have hRs := hide (smallD_ok (deskR_or d ds))
  rw [hR.out] at hRs
  have HS := hide (fun (W : World) (u : Value) (A1 : Option Addr) (n1 c1 : Nat) (hu : DkM W W.heap.size u d) (hq : DdM W W.heap.size A1 n1 c1 ds) => deskRun_spec u d ds A1 n1 c1 _ W hu (Nat.le_refl _) hq)
  rw [hN.out, hR.out] at HS
  have HI := hide (fun (W : World) (u : Value) (A1 : Option Addr) (n1 c1 : Nat) (hu : DkM W W.heap.size u d) (hq : DdM W W.heap.size A1 n1 c1 ds) (hLD : LaidD W) => deskRun_impl u d ds A1 n1 c1 _ W hu (Nat.le_refl _) hq hLD)
  rw [hN.out, hR.out] at HI
  go_enter Tryd.func4, Tryd.ntmps4
  obtain ⟨q1c0, q1c1, q1c2, q1c3, q1f0, q1f1, q1f2, q1f3, _⟩ := t1.out
  go_wp2_with fail
  refine (szDesk_c _ d _ 1048576 _ (hd.out.up hb.out) (Nat.le_refl _) (by omega) (by omega)).mono ?_
  rintro e w1 ⟨⟨x, rfl, hx1, hx2, hx3⟩, hq⟩
  have z2 := hide ((hq).size)
  replace t1 := hide (t1.out.up hq)
  replace hb := hide (upB hb.out hq)
  clear hq
  by_cases hx : x < 0
  ·
    clear q1c0 q1c1 q1c2 q1c3 q1f0 q1f1 q1f2 q1f3
    obtain ⟨q2c0, q2c1, q2c2, q2c3, q2f0, q2f1, q2f2, q2f3, _⟩ := t1.out
    go_wp2_with fail
    go_ret
    exact ⟨rfl, hb.out⟩
  have hsm := hide (hx3.out (by omega))
  clear hx3
  clear q1c0 q1c1 q1c2 q1c3 q1f0 q1f1 q1f2 q1f3
  obtain ⟨q3c0, q3c1, q3c2, q3c3, q3f0, q3f1, q3f2, q3f3, _⟩ := t1.out
  go_wp2_with fail
  refine (szDeedS_c Al nl cl _ ds _ x (hl.out.up hb.out) (by omega) (by omega)).mono ?_
  rintro e w2 ⟨⟨y, rfl, hy1, hy2, hy3⟩, hq⟩
  have z3 := hide ((hq).size)
  replace t1 := hide (t1.out.up hq)
  replace hb := hide (upB hb.out hq)
  clear hq
  by_cases hy : y < 0
  ·
    clear q3c0 q3c1 q3c2 q3c3 q3f0 q3f1 q3f2 q3f3
    obtain ⟨q4c0, q4c1, q4c2, q4c3, q4f0, q4f1, q4f2, q4f3, _⟩ := t1.out
    go_wp2_with fail
    go_ret
    exact ⟨rfl, hb.out⟩
  have hnl := hy3 (by omega)
  clear hy3
  clear q3c0 q3c1 q3c2 q3c3 q3f0 q3f1 q3f2 q3f3
  obtain ⟨q5c0, q5c1, q5c2, q5c3, q5f0, q5f1, q5f2, q5f3, _⟩ := t1.out
  go_wp2_with fail
  refine (toDesk_c _ d _ _ (hd.out.up hb.out) (Nat.le_refl _) hsm.out).mono ?_
  rintro e w3 ⟨uA, rfl, ⟨hiA, hA⟩, hq⟩
  have z4 := hide ((hq).size)
  replace t1 := hide (t1.out.up hq)
  replace hb := hide (upB hb.out hq)
  clear hq
  have hA := hide hA.dkM
  replace hA := hide hA.out
  clear q5c0 q5c1 q5c2 q5c3 q5f0 q5f1 q5f2 q5f3
  obtain ⟨q6c0, q6c1, q6c2, q6c3, q6f0, q6f1, q6f2, q6f3, _⟩ := t1.out
  go_wp2_with fail
  refine (toDeedS_c Al nl cl _ ds _ (hl.out.up hb.out) (Nat.le_refl _) hnl).mono ?_
  rintro e w4 ⟨gA, rfl, hQ, hq⟩
  have z5 := hide ((hq).size)
  replace hA := hide (hA.out.up hq)
  replace t1 := hide (t1.out.up hq)
  replace hb := hide (upB hb.out hq)
  clear hq
  clear q6c0 q6c1 q6c2 q6c3 q6f0 q6f1 q6f2 q6f3
  obtain ⟨q7c0, q7c1, q7c2, q7c3, q7f0, q7f1, q7f2, q7f3, _⟩ := t1.out
  go_wp2_with fail
  refine (HS.out _ _ _ _ _ hA.out hQ.deeds).mono ?_
  rintro e w5 ⟨u0, rfl, h0, hq⟩
  have z6 := hide ((hq).size)
  replace hA := hide (hA.out.up hq)
  replace t1 := hide (t1.out.up hq)
  replace hb := hide (upB hb.out hq)
  clear hq
  have hw0 := hide (show DkB w5 w5.heap.size u0 R from ⟨h0.dkM, Nat.le_refl _⟩)
  obtain ⟨A0, n0, c0, B0, m0, d0, E0, r0, s0, rfl⟩ := h0.open_
  clear hA h0 hQ
  have z7 := hide (show (w5.alloc (.cells #[.slice A0 n0 c0, .int .i64 R.now.step, .slice B0 m0 d0, .slice E0 r0 s0] 34)).heap.size = w5.heap.size + 1 by simp)
  replace hw0 := hide (hw0.out.up (al w5 (.cells #[.slice A0 n0 c0, .int .i64 R.now.step, .slice B0 m0 d0, .slice E0 r0 s0] 34)))
  replace t1 := hide (t1.out.up (al w5 (.cells #[.slice A0 n0 c0, .int .i64 R.now.step, .slice B0 m0 d0, .slice E0 r0 s0] 34)))
  replace hb := hide (upB hb.out (al w5 (.cells #[.slice A0 n0 c0, .int .i64 R.now.step, .slice B0 m0 d0, .slice E0 r0 s0] 34)))
  have t6 := hide (QuaW.made w5 (.slice A0 n0 c0) (.int .i64 R.now.step) (.slice B0 m0 d0) (.slice E0 r0 s0) 34)
  clear q7c0 q7c1 q7c2 q7c3 q7f0 q7f1 q7f2 q7f3
  obtain ⟨q8c0, q8c1, q8c2, q8c3, q8f0, q8f1, q8f2, q8f3, _⟩ := t1.out
  obtain ⟨q9c0, q9c1, q9c2, q9c3, q9f0, q9f1, q9f2, q9f3, _⟩ := t6.out
  go_wp2_with fail
  refine (toDesk_c _ d _ _ (hd.out.up hb.out) (Nat.le_refl _) hsm.out).mono ?_
  rintro e w6 ⟨uX, rfl, ⟨hiX, hX⟩, hq⟩
  have z8 := hide ((hq).size)
  replace hw0 := hide (hw0.out.up hq)
  replace t1 := hide (t1.out.up hq)
  replace t6 := hide (t6.out.up hq)
  replace hb := hide (upB hb.out hq)
  clear hq
  have hx0 := hide hX.toH
  have hlx := hX
  obtain ⟨A7, n7, c7, B7, m7, d7, E7, r7, s7, rfl⟩ := hX.dkM.open_
  clear hX hlx
  have z9 := hide (show (w6.alloc (.cells #[.slice A7 n7 c7, .int .i64 d.now.step, .slice B7 m7 d7, .slice E7 r7 s7] 34)).heap.size = w6.heap.size + 1 by simp)
  replace hw0 := hide (hw0.out.up (al w6 (.cells #[.slice A7 n7 c7, .int .i64 d.now.step, .slice B7 m7 d7, .slice E7 r7 s7] 34)))
  replace hx0 := hide (hx0.out.up (al w6 (.cells #[.slice A7 n7 c7, .int .i64 d.now.step, .slice B7 m7 d7, .slice E7 r7 s7] 34)))
  replace t1 := hide (t1.out.up (al w6 (.cells #[.slice A7 n7 c7, .int .i64 d.now.step, .slice B7 m7 d7, .slice E7 r7 s7] 34)))
  replace t6 := hide (t6.out.up (al w6 (.cells #[.slice A7 n7 c7, .int .i64 d.now.step, .slice B7 m7 d7, .slice E7 r7 s7] 34)))
  replace hb := hide (upB hb.out (al w6 (.cells #[.slice A7 n7 c7, .int .i64 d.now.step, .slice B7 m7 d7, .slice E7 r7 s7] 34)))
  have t8 := hide (QuaW.made w6 (.slice A7 n7 c7) (.int .i64 d.now.step) (.slice B7 m7 d7) (.slice E7 r7 s7) 34)
  clear q8c0 q8c1 q8c2 q8c3 q8f0 q8f1 q8f2 q8f3 q9c0 q9c1 q9c2 q9c3 q9f0 q9f1 q9f2 q9f3
  obtain ⟨q10c0, q10c1, q10c2, q10c3, q10f0, q10f1, q10f2, q10f3, _⟩ := t1.out
  obtain ⟨q11c0, q11c1, q11c2, q11c3, q11f0, q11f1, q11f2, q11f3, _⟩ := t6.out
  obtain ⟨q12c0, q12c1, q12c2, q12c3, q12f0, q12f1, q12f2, q12f3, _⟩ := t8.out
  go_wp2_with fail
  refine (toDeedS_c Al nl cl _ ds _ (hl.out.up hb.out) (Nat.le_refl _) hnl).mono ?_
  rintro e w7 ⟨gX, rfl, hQ, hq⟩
  have z10 := hide ((hq).size)
  replace hw0 := hide (hw0.out.up hq)
  replace hx0 := hide (hx0.out.up hq)
  replace t1 := hide (t1.out.up hq)
  replace t6 := hide (t6.out.up hq)
  replace t8 := hide (t8.out.up hq)
  replace hb := hide (upB hb.out hq)
  clear hq
  have hx1 := hide hQ
  have hgX := hide (hQ.row.lt gX rfl)
  clear hQ
  have z11 := hide (hgX.out.1)
  have z12 := hide (hgX.out.2)
  clear q10c0 q10c1 q10c2 q10c3 q10f0 q10f1 q10f2 q10f3 q11c0 q11c1 q11c2 q11c3 q11f0 q11f1 q11f2 q11f3 q12c0 q12c1 q12c2 q12c3 q12f0 q12f1 q12f2 q12f3
  obtain ⟨q13c0, q13c1, q13c2, q13c3, q13f0, q13f1, q13f2, q13f3, _⟩ := t1.out
  obtain ⟨q14c0, q14c1, q14c2, q14c3, q14f0, q14f1, q14f2, q14f3, _⟩ := t6.out
  obtain ⟨q15c0, q15c1, q15c2, q15c3, q15f0, q15f1, q15f2, q15f3, _⟩ := t8.out
  go_wp2_with fail
  refine (HI.out _ _ _ _ _ hx0.out.dkM hx1.out.deeds (hD.out.up hb.out)).mono ?_
  rintro e w8 ⟨u1, rfl, h1, hq⟩
  have z13 := hide ((hq).size)
  replace hw0 := hide (hw0.out.up hq)
  replace hx0 := hide (hx0.out.up hq)
  replace hx1 := hide (hx1.out.up hq)
  replace t1 := hide (t1.out.up hq)
  replace t6 := hide (t6.out.up hq)
  replace t8 := hide (t8.out.up hq)
  replace hb := hide (upB hb.out hq)
  clear hq
  have hg := hide h1.toH
  obtain ⟨A1, n1, c1, B1, m1, d1, E1, r1, s1, rfl⟩ := h1.dkM.open_
  clear h1
  have z14 := hide (show (w8.alloc (.cells #[.slice A1 n1 c1, .int .i64 R.now.step, .slice B1 m1 d1, .slice E1 r1 s1] 34)).heap.size = w8.heap.size + 1 by simp)
  replace hw0 := hide (hw0.out.up (al w8 (.cells #[.slice A1 n1 c1, .int .i64 R.now.step, .slice B1 m1 d1, .slice E1 r1 s1] 34)))
  replace hx0 := hide (hx0.out.up (al w8 (.cells #[.slice A1 n1 c1, .int .i64 R.now.step, .slice B1 m1 d1, .slice E1 r1 s1] 34)))
  replace hx1 := hide (hx1.out.up (al w8 (.cells #[.slice A1 n1 c1, .int .i64 R.now.step, .slice B1 m1 d1, .slice E1 r1 s1] 34)))
  replace hg := hide (hg.out.up (al w8 (.cells #[.slice A1 n1 c1, .int .i64 R.now.step, .slice B1 m1 d1, .slice E1 r1 s1] 34)))
  replace t1 := hide (t1.out.up (al w8 (.cells #[.slice A1 n1 c1, .int .i64 R.now.step, .slice B1 m1 d1, .slice E1 r1 s1] 34)))
  replace t6 := hide (t6.out.up (al w8 (.cells #[.slice A1 n1 c1, .int .i64 R.now.step, .slice B1 m1 d1, .slice E1 r1 s1] 34)))
  replace t8 := hide (t8.out.up (al w8 (.cells #[.slice A1 n1 c1, .int .i64 R.now.step, .slice B1 m1 d1, .slice E1 r1 s1] 34)))
  replace hb := hide (upB hb.out (al w8 (.cells #[.slice A1 n1 c1, .int .i64 R.now.step, .slice B1 m1 d1, .slice E1 r1 s1] 34)))
  have t10 := hide (QuaW.made w8 (.slice A1 n1 c1) (.int .i64 R.now.step) (.slice B1 m1 d1) (.slice E1 r1 s1) 34)
  clear q13c0 q13c1 q13c2 q13c3 q13f0 q13f1 q13f2 q13f3 q14c0 q14c1 q14c2 q14c3 q14f0 q14f1 q14f2 q14f3 q15c0 q15c1 q15c2 q15c3 q15f0 q15f1 q15f2 q15f3
  obtain ⟨q16c0, q16c1, q16c2, q16c3, q16f0, q16f1, q16f2, q16f3, _⟩ := t1.out
  obtain ⟨q17c0, q17c1, q17c2, q17c3, q17f0, q17f1, q17f2, q17f3, _⟩ := t6.out
  obtain ⟨q18c0, q18c1, q18c2, q18c3, q18f0, q18f1, q18f2, q18f3, _⟩ := t8.out
  obtain ⟨q19c0, q19c1, q19c2, q19c3, q19f0, q19f1, q19f2, q19f3, _⟩ := t10.out
  go_wp2_with fail
  refine (eqDesk_c _ _ R _ _ _ hg.out.dkM hw0.out.dkM (Nat.le_refl _) (Nat.le_refl _)).mono ?_
  rintro e w9 ⟨rfl, hq⟩
  have z15 := hide ((hq).size)
  replace hw0 := hide (hw0.out.up hq)
  replace hx0 := hide (hx0.out.up hq)
  replace hx1 := hide (hx1.out.up hq)
  replace hg := hide (hg.out.up hq)
  replace t1 := hide (t1.out.up hq)
  replace t6 := hide (t6.out.up hq)
  replace t8 := hide (t8.out.up hq)
  replace t10 := hide (t10.out.up hq)
  replace hb := hide (upB hb.out hq)
  clear hq
  have HA := hide (fun (W : World) (hq : Below w9.heap.size w9 W) => show Calls Tryd.prog 10 #[.agg #[.slice A n c, .int .i64 d.now.step, .slice A2 n2 c2, .slice A3 n3 c3]] W (fun e w' => ∃ u, e = .returned u ∧ DkM w' w'.heap.size u d ∧ Below W.heap.size W w' ∧ Below w9.heap.size w9 w') from
    (toDesk_c _ d _ W (hd.out.up (upB hb.out hq)) (Nat.le_refl _) hsm.out).mono fun e w' ⟨u, e1, ⟨_, h1⟩, h2⟩ => ⟨u, e1, h1.dkM, h2, upB hq h2⟩)
  have HB := hide (fun (u : Value) (W1 W : World) (hm : DkM W1 W1.heap.size u d) (hq1 : Below W1.heap.size W1 W) (hq : Below w9.heap.size w9 W) => show Calls Tryd.prog 13 #[.agg #[.slice A7 n7 c7, .int .i64 d.now.step, .slice B7 m7 d7, .slice E7 r7 s7], u] W (fun e w' => e = .returned (.bool true) ∧ Below w9.heap.size w9 w') from
    (eqDesk_c _ _ d _ _ W (hx0.out.up hq).dkM (hm.up hq1) (Nat.le_refl _) (Nat.le_refl _)).mono fun e w' ⟨e1, h2⟩ => ⟨e1, upB hq h2⟩)
  clear q16c0 q16c1 q16c2 q16c3 q16f0 q16f1 q16f2 q16f3 q17c0 q17c1 q17c2 q17c3 q17f0 q17f1 q17f2 q17f3 q18c0 q18c1 q18c2 q18c3 q18f0 q18f1 q18f2 q18f3 q19c0 q19c1 q19c2 q19c3 q19f0 q19f1 q19f2 q19f3
  obtain ⟨q20c0, q20c1, q20c2, q20c3, q20f0, q20f1, q20f2, q20f3, _⟩ := t1.out
  obtain ⟨q21c0, q21c1, q21c2, q21c3, q21f0, q21f1, q21f2, q21f3, _⟩ := t6.out
  obtain ⟨q22c0, q22c1, q22c2, q22c3, q22f0, q22f1, q22f2, q22f3, _⟩ := t8.out
  obtain ⟨q23c0, q23c1, q23c2, q23c3, q23f0, q23f1, q23f2, q23f3, _⟩ := t10.out
  go_upto_region 14 with fail
  go_cut [58] (fun v58 wx => ∃ W, W = wx ∧ v58 = .bool false ∧ Hid (Below w9.heap.size w9 W))
  case first =>
    go_wp2_with fail
    go_region_with (first | (go_at_call 10; (with_reducible refine (HA.out _ ?_).mono ?_); (focus (repeat (first | assumption | exact Below.refl _ _ | refine Below.drew ?_ | refine Below.alloc ?_ (by simp) _)); done); rintro e wa ⟨uB, rfl, hB, hqa, hqca⟩; obtain ⟨xa0, xa1, xa2, xa3, _⟩ := t8.out.up hqca; replace hqa := hide hqa; replace hqca := hide hqca) | (go_at_call 13; (with_reducible refine (HB.out _ _ _ hB ?_ ?_).mono ?_); (first | exact Below.refl _ _ | exact (Below.refl _ _).drew); (first | exact hqca.out | exact hqca.out.drew); rintro e wb ⟨rfl, hqcb⟩; replace hqcb := hide hqcb))
    all_goals
      go_wp2_with fail
      go_meet
      first
      | exact ⟨_, rfl, rfl, hqcb⟩
      | exact ⟨_, rfl, rfl, hide hqcb.out.drew⟩
  case rest =>
    clear q20c0 q20c1 q20c2 q20c3 q20f0 q20f1 q20f2 q20f3 q21c0 q21c1 q21c2 q21c3 q21f0 q21f1 q21f2 q21f3 q22c0 q22c1 q22c2 q22c3 q22f0 q22f1 q22f2 q22f3 q23c0 q23c1 q23c2 q23c3 q23f0 q23f1 q23f2 q23f3
    obtain ⟨w10, rfl, rfl, hqc⟩ := hcut
    replace hqc := hqc.out
    clear HA HB
    have z16 := hide ((hqc).size)
    replace hw0 := hide (hw0.out.up hqc)
    replace hx0 := hide (hx0.out.up hqc)
    replace hx1 := hide (hx1.out.up hqc)
    replace hg := hide (hg.out.up hqc)
    replace t1 := hide (t1.out.up hqc)
    replace t6 := hide (t6.out.up hqc)
    replace t8 := hide (t8.out.up hqc)
    replace t10 := hide (t10.out.up hqc)
    replace hb := hide (upB hb.out hqc)
    clear hqc
    obtain ⟨q24c0, q24c1, q24c2, q24c3, q24f0, q24f1, q24f2, q24f3, _⟩ := t1.out
    obtain ⟨q25c0, q25c1, q25c2, q25c3, q25f0, q25f1, q25f2, q25f3, _⟩ := t6.out
    obtain ⟨q26c0, q26c1, q26c2, q26c3, q26f0, q26f1, q26f2, q26f3, _⟩ := t8.out
    obtain ⟨q27c0, q27c1, q27c2, q27c3, q27f0, q27f1, q27f2, q27f3, _⟩ := t10.out
    go_wp2_with fail
    refine (toDeedS_c Al nl cl _ ds _ (hl.out.up hb.out) (Nat.le_refl _) hnl).mono ?_
    rintro e w11 ⟨gB, rfl, hQ, hq⟩
    have z17 := hide ((hq).size)
    replace hw0 := hide (hw0.out.up hq)
    replace hx0 := hide (hx0.out.up hq)
    replace hx1 := hide (hx1.out.up hq)
    replace hg := hide (hg.out.up hq)
    replace t1 := hide (t1.out.up hq)
    replace t6 := hide (t6.out.up hq)
    replace t8 := hide (t8.out.up hq)
    replace t10 := hide (t10.out.up hq)
    replace hb := hide (upB hb.out hq)
    clear hq
    clear q24c0 q24c1 q24c2 q24c3 q24f0 q24f1 q24f2 q24f3 q25c0 q25c1 q25c2 q25c3 q25f0 q25f1 q25f2 q25f3 q26c0 q26c1 q26c2 q26c3 q26f0 q26f1 q26f2 q26f3 q27c0 q27c1 q27c2 q27c3 q27f0 q27f1 q27f2 q27f3
    obtain ⟨q28c0, q28c1, q28c2, q28c3, q28f0, q28f1, q28f2, q28f3, _⟩ := t1.out
    obtain ⟨q29c0, q29c1, q29c2, q29c3, q29f0, q29f1, q29f2, q29f3, _⟩ := t6.out
    obtain ⟨q30c0, q30c1, q30c2, q30c3, q30f0, q30f1, q30f2, q30f3, _⟩ := t8.out
    obtain ⟨q31c0, q31c1, q31c2, q31c3, q31f0, q31f1, q31f2, q31f3, _⟩ := t10.out
    go_wp2_with fail
    refine (eqDeedS_c _ _ _ _ _ _ _ _ ds _ hx1.out.deeds hQ.deeds (Nat.le_refl _) (Nat.le_refl _)).mono ?_
    rintro e w12 ⟨rfl, hq⟩
    have z18 := hide ((hq).size)
    replace hw0 := hide (hw0.out.up hq)
    replace hx0 := hide (hx0.out.up hq)
    replace hx1 := hide (hx1.out.up hq)
    replace hg := hide (hg.out.up hq)
    replace t1 := hide (t1.out.up hq)
    replace t6 := hide (t6.out.up hq)
    replace t8 := hide (t8.out.up hq)
    replace t10 := hide (t10.out.up hq)
    replace hb := hide (upB hb.out hq)
    clear hq
    clear hQ
    clear q28c0 q28c1 q28c2 q28c3 q28f0 q28f1 q28f2 q28f3 q29c0 q29c1 q29c2 q29c3 q29f0 q29f1 q29f2 q29f3 q30c0 q30c1 q30c2 q30c3 q30f0 q30f1 q30f2 q30f3 q31c0 q31c1 q31c2 q31c3 q31f0 q31f1 q31f2 q31f3
    obtain ⟨q32c0, q32c1, q32c2, q32c3, q32f0, q32f1, q32f2, q32f3, _⟩ := t1.out
    obtain ⟨q33c0, q33c1, q33c2, q33c3, q33f0, q33f1, q33f2, q33f3, _⟩ := t6.out
    obtain ⟨q34c0, q34c1, q34c2, q34c3, q34f0, q34f1, q34f2, q34f3, _⟩ := t8.out
    obtain ⟨q35c0, q35c1, q35c2, q35c3, q35f0, q35f1, q35f2, q35f3, _⟩ := t10.out
    go_wp2_with fail
    refine (markDesk_c _ d 1 _ _ _ hx0.out (by have := z1.out; have := z2.out; have := z3.out; have := z4.out; have := z5.out; have := z6.out; have := z7.out; have := z8.out; have := z9.out; have := z10.out; have := z11.out; have := z12.out; have := z13.out; have := z14.out; have := z15.out; have := z16.out; have := z17.out; have := z18.out; omega) hsm.out (by omega) (by omega)).mono ?_
    rintro e w13 ⟨rfl, _, hO⟩
    have yz1 := z1.out
    have yz2 := z2.out
    have yz3 := z3.out
    have yz4 := z4.out
    have yz5 := z5.out
    have yz6 := z6.out
    have yz7 := z7.out
    have yz8 := z8.out
    have yz9 := z9.out
    have yz10 := z10.out
    have yz11 := z11.out
    have yz12 := z12.out
    have yz13 := z13.out
    have yz14 := z14.out
    have yz15 := z15.out
    have yz16 := z16.out
    have yz17 := z17.out
    have yz18 := z18.out
    replace hw0 := hide (hw0.out.only hO (by omega))
    replace hx1 := hide (hx1.out.only hO (fun q hq => by simp [Value.ownBlock] at hq; omega))
    replace hg := hide (hg.out.only hO (by first | exact .inl (by omega) | exact .inr (by omega)))
    replace t1 := hide (t1.out.only hO (by first | exact .inl (by omega) | exact .inr (by omega)))
    replace t6 := hide (t6.out.only hO (by first | exact .inl (by omega) | exact .inr (by omega)))
    replace t8 := hide (t8.out.only hO (by first | exact .inl (by omega) | exact .inr (by omega)))
    replace t10 := hide (t10.out.only hO (by first | exact .inl (by omega) | exact .inr (by omega)))
    replace hb := hide (belowSize hb.out hO (by omega))
    clear yz1 yz2 yz3 yz4 yz5 yz6 yz7 yz8 yz9 yz10 yz11 yz12 yz13 yz14 yz15 yz16 yz17 yz18
    have z19 := hide (hO.size)
    clear hO
    clear hx0
    have hF := endDk_le (k := 1) hsm.out
    obtain ⟨F, hFF⟩ : ∃ F : Int, Hid (endDk d 1 = F) := ⟨_, hide rfl⟩
    rw [hFF.out] at hF ⊢
    have hF0 : 0 ≤ F ∧ F ≤ 200000000000000 := by omega
    obtain ⟨hF0, hF1⟩ := hF0
    clear hF hFF
    clear q32c0 q32c1 q32c2 q32c3 q32f0 q32f1 q32f2 q32f3 q33c0 q33c1 q33c2 q33c3 q33f0 q33f1 q33f2 q33f3 q34c0 q34c1 q34c2 q34c3 q34f0 q34f1 q34f2 q34f3 q35c0 q35c1 q35c2 q35c3 q35f0 q35f1 q35f2 q35f3
    obtain ⟨q36c0, q36c1, q36c2, q36c3, q36f0, q36f1, q36f2, q36f3, _⟩ := t1.out
    obtain ⟨q37c0, q37c1, q37c2, q37c3, q37f0, q37f1, q37f2, q37f3, _⟩ := t6.out
    obtain ⟨q38c0, q38c1, q38c2, q38c3, q38f0, q38f1, q38f2, q38f3, _⟩ := t8.out
    obtain ⟨q39c0, q39c1, q39c2, q39c3, q39f0, q39f1, q39f2, q39f3, _⟩ := t10.out
    go_wp2_with fail
    refine (markDeedSZ_c _ _ _ _ F ds _ hx1.out hF0 (by omega) hnl).mono ?_
    rintro e w14 ⟨rfl, _, hgr⟩
    have hO := (Only.refl w13 gX (gX + 1)).grown hgr (fun q hq => by simp [Value.ownBlock] at hq; omega)
    clear hgr hx1
    have yz1 := z1.out
    have yz2 := z2.out
    have yz3 := z3.out
    have yz4 := z4.out
    have yz5 := z5.out
    have yz6 := z6.out
    have yz7 := z7.out
    have yz8 := z8.out
    have yz9 := z9.out
    have yz10 := z10.out
    have yz11 := z11.out
    have yz12 := z12.out
    have yz13 := z13.out
    have yz14 := z14.out
    have yz15 := z15.out
    have yz16 := z16.out
    have yz17 := z17.out
    have yz18 := z18.out
    have yz19 := z19.out
    replace hw0 := hide (hw0.out.only hO (by omega))
    replace hg := hide (hg.out.only hO (by first | exact .inl (by omega) | exact .inr (by omega)))
    replace t1 := hide (t1.out.only hO (by first | exact .inl (by omega) | exact .inr (by omega)))
    replace t6 := hide (t6.out.only hO (by first | exact .inl (by omega) | exact .inr (by omega)))
    replace t8 := hide (t8.out.only hO (by first | exact .inl (by omega) | exact .inr (by omega)))
    replace t10 := hide (t10.out.only hO (by first | exact .inl (by omega) | exact .inr (by omega)))
    replace hb := hide (belowSize hb.out hO (by omega))
    clear yz1 yz2 yz3 yz4 yz5 yz6 yz7 yz8 yz9 yz10 yz11 yz12 yz13 yz14 yz15 yz16 yz17 yz18 yz19
    have z20 := hide (hO.size)
    clear hO
    obtain ⟨K, hK⟩ : ∃ K : Int, Hid (F + 3 * (nl : Int) = K) := ⟨_, hide rfl⟩
    rw [hK.out]
    have hK0 : 0 ≤ K := by have := hK.out; omega
    clear q36c0 q36c1 q36c2 q36c3 q36f0 q36f1 q36f2 q36f3 q37c0 q37c1 q37c2 q37c3 q37f0 q37f1 q37f2 q37f3 q38c0 q38c1 q38c2 q38c3 q38f0 q38f1 q38f2 q38f3 q39c0 q39c1 q39c2 q39c3 q39f0 q39f1 q39f2 q39f3
    obtain ⟨q40c0, q40c1, q40c2, q40c3, q40f0, q40f1, q40f2, q40f3, _⟩ := t1.out
    obtain ⟨q41c0, q41c1, q41c2, q41c3, q41f0, q41f1, q41f2, q41f3, _⟩ := t6.out
    obtain ⟨q42c0, q42c1, q42c2, q42c3, q42f0, q42f1, q42f2, q42f3, _⟩ := t8.out
    obtain ⟨q43c0, q43c1, q43c2, q43c3, q43f0, q43f1, q43f2, q43f3, _⟩ := t10.out
    go_wp2_with fail
    refine (eqDesk_c _ _ R _ _ _ hg.out.dkM hw0.out.dkM (Nat.le_refl _) (Nat.le_refl _)).mono ?_
    rintro e w15 ⟨rfl, hq⟩
    have z21 := hide ((hq).size)
    replace hw0 := hide (hw0.out.up hq)
    replace hg := hide (hg.out.up hq)
    replace t1 := hide (t1.out.up hq)
    replace t6 := hide (t6.out.up hq)
    replace t8 := hide (t8.out.up hq)
    replace t10 := hide (t10.out.up hq)
    replace hb := hide (upB hb.out hq)
    clear hq
    clear q40c0 q40c1 q40c2 q40c3 q40f0 q40f1 q40f2 q40f3 q41c0 q41c1 q41c2 q41c3 q41f0 q41f1 q41f2 q41f3 q42c0 q42c1 q42c2 q42c3 q42f0 q42f1 q42f2 q42f3 q43c0 q43c1 q43c2 q43c3 q43f0 q43f1 q43f2 q43f3
    obtain ⟨q44c0, q44c1, q44c2, q44c3, q44f0, q44f1, q44f2, q44f3, _⟩ := t1.out
    obtain ⟨q45c0, q45c1, q45c2, q45c3, q45f0, q45f1, q45f2, q45f3, _⟩ := t6.out
    obtain ⟨q46c0, q46c1, q46c2, q46c3, q46f0, q46f1, q46f2, q46f3, _⟩ := t8.out
    obtain ⟨q47c0, q47c1, q47c2, q47c3, q47f0, q47f1, q47f2, q47f3, _⟩ := t10.out
    go_wp2_with fail
    refine (markDesk_c _ R 1 _ _ _ hg.out (by have := z1.out; have := z2.out; have := z3.out; have := z4.out; have := z5.out; have := z6.out; have := z7.out; have := z8.out; have := z9.out; have := z10.out; have := z11.out; have := z12.out; have := z13.out; have := z14.out; have := z15.out; have := z16.out; have := z17.out; have := z18.out; have := z19.out; have := z20.out; have := z21.out; omega) hRs.out (by omega) (by omega)).mono ?_
    rintro e w16 ⟨rfl, hgm, hO⟩
    have yz1 := z1.out
    have yz2 := z2.out
    have yz3 := z3.out
    have yz4 := z4.out
    have yz5 := z5.out
    have yz6 := z6.out
    have yz7 := z7.out
    have yz8 := z8.out
    have yz9 := z9.out
    have yz10 := z10.out
    have yz11 := z11.out
    have yz12 := z12.out
    have yz13 := z13.out
    have yz14 := z14.out
    have yz15 := z15.out
    have yz16 := z16.out
    have yz17 := z17.out
    have yz18 := z18.out
    have yz19 := z19.out
    have yz20 := z20.out
    have yz21 := z21.out
    replace hw0 := hide (hw0.out.only hO (by omega))
    replace t1 := hide (t1.out.only hO (by first | exact .inl (by omega) | exact .inr (by omega)))
    replace t6 := hide (t6.out.only hO (by first | exact .inl (by omega) | exact .inr (by omega)))
    replace t8 := hide (t8.out.only hO (by first | exact .inl (by omega) | exact .inr (by omega)))
    replace t10 := hide (t10.out.only hO (by first | exact .inl (by omega) | exact .inr (by omega)))
    replace hb := hide (belowSize hb.out hO (by omega))
    clear yz1 yz2 yz3 yz4 yz5 yz6 yz7 yz8 yz9 yz10 yz11 yz12 yz13 yz14 yz15 yz16 yz17 yz18 yz19 yz20 yz21
    have z22 := hide (hO.size)
    clear hO
    replace hg := hide hgm
    clear hgm
    have hE := endDk_le (k := 1) hRs.out
    obtain ⟨E, hEE⟩ : ∃ E : Int, Hid (endDk R 1 = E) := ⟨_, hide rfl⟩
    rw [hEE.out] at hE ⊢
    have hE0 : 0 ≤ E := by omega
    clear hE
    have HHa := hide (fun (W : World) (h : DkM W W.heap.size _ (mrkDk R 1)) => heldDesk_c (.agg #[.slice A1 n1 c1, .int .i64 R.now.step, .slice B1 m1 d1, .slice E1 r1 s1]) R 1 W h hRs.out (by omega) (by omega))
    rw [hEE.out] at HHa
    clear q44c0 q44c1 q44c2 q44c3 q44f0 q44f1 q44f2 q44f3 q45c0 q45c1 q45c2 q45c3 q45f0 q45f1 q45f2 q45f3 q46c0 q46c1 q46c2 q46c3 q46f0 q46f1 q46f2 q46f3 q47c0 q47c1 q47c2 q47c3 q47f0 q47f1 q47f2 q47f3
    obtain ⟨q48c0, q48c1, q48c2, q48c3, q48f0, q48f1, q48f2, q48f3, _⟩ := t1.out
    obtain ⟨q49c0, q49c1, q49c2, q49c3, q49f0, q49f1, q49f2, q49f3, _⟩ := t6.out
    obtain ⟨q50c0, q50c1, q50c2, q50c3, q50f0, q50f1, q50f2, q50f3, _⟩ := t8.out
    obtain ⟨q51c0, q51c1, q51c2, q51c3, q51f0, q51f1, q51f2, q51f3, _⟩ := t10.out
    go_wp2_with fail
    refine (HHa.out _ hg.out.dkM).mono ?_
    rintro e w17 ⟨rfl, hq⟩
    have z23 := hide ((hq).size)
    replace hw0 := hide (hw0.out.up hq)
    replace hg := hide (hg.out.up hq)
    replace t1 := hide (t1.out.up hq)
    replace t6 := hide (t6.out.up hq)
    replace t8 := hide (t8.out.up hq)
    replace t10 := hide (t10.out.up hq)
    replace hb := hide (upB hb.out hq)
    clear hq
    clear HHa
    clear q48c0 q48c1 q48c2 q48c3 q48f0 q48f1 q48f2 q48f3 q49c0 q49c1 q49c2 q49c3 q49f0 q49f1 q49f2 q49f3 q50c0 q50c1 q50c2 q50c3 q50f0 q50f1 q50f2 q50f3 q51c0 q51c1 q51c2 q51c3 q51f0 q51f1 q51f2 q51f3
    obtain ⟨q52c0, q52c1, q52c2, q52c3, q52f0, q52f1, q52f2, q52f3, _⟩ := t1.out
    obtain ⟨q53c0, q53c1, q53c2, q53c3, q53f0, q53f1, q53f2, q53f3, _⟩ := t6.out
    obtain ⟨q54c0, q54c1, q54c2, q54c3, q54f0, q54f1, q54f2, q54f3, _⟩ := t8.out
    obtain ⟨q55c0, q55c1, q55c2, q55c3, q55f0, q55f1, q55f2, q55f3, _⟩ := t10.out
    go_wp2_with fail
    refine (toDesk_c _ d _ _ (hd.out.up hb.out) (Nat.le_refl _) hsm.out).mono ?_
    rintro e w18 ⟨uC, rfl, ⟨hiC, hC⟩, hq⟩
    have z24 := hide ((hq).size)
    replace hw0 := hide (hw0.out.up hq)
    replace hg := hide (hg.out.up hq)
    replace t1 := hide (t1.out.up hq)
    replace t6 := hide (t6.out.up hq)
    replace t8 := hide (t8.out.up hq)
    replace t10 := hide (t10.out.up hq)
    replace hb := hide (upB hb.out hq)
    clear hq
    have hC := hide hC.dkM
    replace hC := hide hC.out
    clear q52c0 q52c1 q52c2 q52c3 q52f0 q52f1 q52f2 q52f3 q53c0 q53c1 q53c2 q53c3 q53f0 q53f1 q53f2 q53f3 q54c0 q54c1 q54c2 q54c3 q54f0 q54f1 q54f2 q54f3 q55c0 q55c1 q55c2 q55c3 q55f0 q55f1 q55f2 q55f3
    obtain ⟨q56c0, q56c1, q56c2, q56c3, q56f0, q56f1, q56f2, q56f3, _⟩ := t1.out
    obtain ⟨q57c0, q57c1, q57c2, q57c3, q57f0, q57f1, q57f2, q57f3, _⟩ := t6.out
    obtain ⟨q58c0, q58c1, q58c2, q58c3, q58f0, q58f1, q58f2, q58f3, _⟩ := t8.out
    obtain ⟨q59c0, q59c1, q59c2, q59c3, q59f0, q59f1, q59f2, q59f3, _⟩ := t10.out
    go_wp2_with fail
    refine (toDeedS_c Al nl cl _ ds _ (hl.out.up hb.out) (Nat.le_refl _) hnl).mono ?_
    rintro e w19 ⟨gC, rfl, hQC, hq⟩
    have z25 := hide ((hq).size)
    replace hw0 := hide (hw0.out.up hq)
    replace hg := hide (hg.out.up hq)
    replace hC := hide (hC.out.up hq)
    replace t1 := hide (t1.out.up hq)
    replace t6 := hide (t6.out.up hq)
    replace t8 := hide (t8.out.up hq)
    replace t10 := hide (t10.out.up hq)
    replace hb := hide (upB hb.out hq)
    clear hq
    clear q56c0 q56c1 q56c2 q56c3 q56f0 q56f1 q56f2 q56f3 q57c0 q57c1 q57c2 q57c3 q57f0 q57f1 q57f2 q57f3 q58c0 q58c1 q58c2 q58c3 q58f0 q58f1 q58f2 q58f3 q59c0 q59c1 q59c2 q59c3 q59f0 q59f1 q59f2 q59f3
    obtain ⟨q60c0, q60c1, q60c2, q60c3, q60f0, q60f1, q60f2, q60f3, _⟩ := t1.out
    obtain ⟨q61c0, q61c1, q61c2, q61c3, q61f0, q61f1, q61f2, q61f3, _⟩ := t6.out
    obtain ⟨q62c0, q62c1, q62c2, q62c3, q62f0, q62f1, q62f2, q62f3, _⟩ := t8.out
    obtain ⟨q63c0, q63c1, q63c2, q63c3, q63f0, q63f1, q63f2, q63f3, _⟩ := t10.out
    go_wp2_with fail
    refine (HI.out _ _ _ _ _ hC.out hQC.deeds (hD.out.up hb.out)).mono ?_
    rintro e w20 ⟨u2, rfl, h2, hq⟩
    have z26 := hide ((hq).size)
    replace hw0 := hide (hw0.out.up hq)
    replace hg := hide (hg.out.up hq)
    replace hC := hide (hC.out.up hq)
    replace t1 := hide (t1.out.up hq)
    replace t6 := hide (t6.out.up hq)
    replace t8 := hide (t8.out.up hq)
    replace t10 := hide (t10.out.up hq)
    replace hb := hide (upB hb.out hq)
    clear hq
    clear hC hQC
    have hh := hide (show DkB w20 w20.heap.size u2 R from ⟨h2.dkM, Nat.le_refl _⟩)
    obtain ⟨A2, n2, c2, B2, m2, d2, E2, r2, s2, rfl⟩ := h2.dkM.open_
    clear h2
    have z27 := hide (show (w20.alloc (.cells #[.slice A2 n2 c2, .int .i64 R.now.step, .slice B2 m2 d2, .slice E2 r2 s2] 34)).heap.size = w20.heap.size + 1 by simp)
    replace hw0 := hide (hw0.out.up (al w20 (.cells #[.slice A2 n2 c2, .int .i64 R.now.step, .slice B2 m2 d2, .slice E2 r2 s2] 34)))
    replace hg := hide (hg.out.up (al w20 (.cells #[.slice A2 n2 c2, .int .i64 R.now.step, .slice B2 m2 d2, .slice E2 r2 s2] 34)))
    replace hh := hide (hh.out.up (al w20 (.cells #[.slice A2 n2 c2, .int .i64 R.now.step, .slice B2 m2 d2, .slice E2 r2 s2] 34)))
    replace t1 := hide (t1.out.up (al w20 (.cells #[.slice A2 n2 c2, .int .i64 R.now.step, .slice B2 m2 d2, .slice E2 r2 s2] 34)))
    replace t6 := hide (t6.out.up (al w20 (.cells #[.slice A2 n2 c2, .int .i64 R.now.step, .slice B2 m2 d2, .slice E2 r2 s2] 34)))
    replace t8 := hide (t8.out.up (al w20 (.cells #[.slice A2 n2 c2, .int .i64 R.now.step, .slice B2 m2 d2, .slice E2 r2 s2] 34)))
    replace t10 := hide (t10.out.up (al w20 (.cells #[.slice A2 n2 c2, .int .i64 R.now.step, .slice B2 m2 d2, .slice E2 r2 s2] 34)))
    replace hb := hide (upB hb.out (al w20 (.cells #[.slice A2 n2 c2, .int .i64 R.now.step, .slice B2 m2 d2, .slice E2 r2 s2] 34)))
    have t9 := hide (QuaW.made w20 (.slice A2 n2 c2) (.int .i64 R.now.step) (.slice B2 m2 d2) (.slice E2 r2 s2) 34)
    clear q60c0 q60c1 q60c2 q60c3 q60f0 q60f1 q60f2 q60f3 q61c0 q61c1 q61c2 q61c3 q61f0 q61f1 q61f2 q61f3 q62c0 q62c1 q62c2 q62c3 q62f0 q62f1 q62f2 q62f3 q63c0 q63c1 q63c2 q63c3 q63f0 q63f1 q63f2 q63f3
    obtain ⟨q64c0, q64c1, q64c2, q64c3, q64f0, q64f1, q64f2, q64f3, _⟩ := t1.out
    obtain ⟨q65c0, q65c1, q65c2, q65c3, q65f0, q65f1, q65f2, q65f3, _⟩ := t6.out
    obtain ⟨q66c0, q66c1, q66c2, q66c3, q66f0, q66f1, q66f2, q66f3, _⟩ := t8.out
    obtain ⟨q67c0, q67c1, q67c2, q67c3, q67f0, q67f1, q67f2, q67f3, _⟩ := t10.out
    obtain ⟨q68c0, q68c1, q68c2, q68c3, q68f0, q68f1, q68f2, q68f3, _⟩ := t9.out
    go_wp2_with fail
    refine (eqDesk_c _ _ R _ _ _ hh.out.dkM hw0.out.dkM (Nat.le_refl _) (Nat.le_refl _)).mono ?_
    rintro e w21 ⟨rfl, hq⟩
    have z28 := hide ((hq).size)
    replace hw0 := hide (hw0.out.up hq)
    replace hg := hide (hg.out.up hq)
    replace hh := hide (hh.out.up hq)
    replace t1 := hide (t1.out.up hq)
    replace t6 := hide (t6.out.up hq)
    replace t8 := hide (t8.out.up hq)
    replace t10 := hide (t10.out.up hq)
    replace t9 := hide (t9.out.up hq)
    replace hb := hide (upB hb.out hq)
    clear hq
    clear hh
    have HHb := hide (fun (W : World) (h : DkM W W.heap.size _ (mrkDk R 1)) => heldDesk_c (.agg #[.slice A1 n1 c1, .int .i64 R.now.step, .slice B1 m1 d1, .slice E1 r1 s1]) R 1 W h hRs.out (by omega) (by omega))
    rw [hEE.out] at HHb
    clear q64c0 q64c1 q64c2 q64c3 q64f0 q64f1 q64f2 q64f3 q65c0 q65c1 q65c2 q65c3 q65f0 q65f1 q65f2 q65f3 q66c0 q66c1 q66c2 q66c3 q66f0 q66f1 q66f2 q66f3 q67c0 q67c1 q67c2 q67c3 q67f0 q67f1 q67f2 q67f3 q68c0 q68c1 q68c2 q68c3 q68f0 q68f1 q68f2 q68f3
    obtain ⟨q69c0, q69c1, q69c2, q69c3, q69f0, q69f1, q69f2, q69f3, _⟩ := t1.out
    obtain ⟨q70c0, q70c1, q70c2, q70c3, q70f0, q70f1, q70f2, q70f3, _⟩ := t6.out
    obtain ⟨q71c0, q71c1, q71c2, q71c3, q71f0, q71f1, q71f2, q71f3, _⟩ := t8.out
    obtain ⟨q72c0, q72c1, q72c2, q72c3, q72f0, q72f1, q72f2, q72f3, _⟩ := t10.out
    obtain ⟨q73c0, q73c1, q73c2, q73c3, q73f0, q73f1, q73f2, q73f3, _⟩ := t9.out
    go_wp2_with fail
    refine (HHb.out _ hg.out.dkM).mono ?_
    rintro e w22 ⟨rfl, hq⟩
    have z29 := hide ((hq).size)
    replace hw0 := hide (hw0.out.up hq)
    replace hg := hide (hg.out.up hq)
    replace t1 := hide (t1.out.up hq)
    replace t6 := hide (t6.out.up hq)
    replace t8 := hide (t8.out.up hq)
    replace t10 := hide (t10.out.up hq)
    replace t9 := hide (t9.out.up hq)
    replace hb := hide (upB hb.out hq)
    clear hq
    clear HHb
    clear q69c0 q69c1 q69c2 q69c3 q69f0 q69f1 q69f2 q69f3 q70c0 q70c1 q70c2 q70c3 q70f0 q70f1 q70f2 q70f3 q71c0 q71c1 q71c2 q71c3 q71f0 q71f1 q71f2 q71f3 q72c0 q72c1 q72c2 q72c3 q72f0 q72f1 q72f2 q72f3 q73c0 q73c1 q73c2 q73c3 q73f0 q73f1 q73f2 q73f3
    obtain ⟨q74c0, q74c1, q74c2, q74c3, q74f0, q74f1, q74f2, q74f3, _⟩ := t1.out
    obtain ⟨q75c0, q75c1, q75c2, q75c3, q75f0, q75f1, q75f2, q75f3, _⟩ := t6.out
    obtain ⟨q76c0, q76c1, q76c2, q76c3, q76f0, q76f1, q76f2, q76f3, _⟩ := t8.out
    obtain ⟨q77c0, q77c1, q77c2, q77c3, q77f0, q77f1, q77f2, q77f3, _⟩ := t10.out
    obtain ⟨q78c0, q78c1, q78c2, q78c3, q78f0, q78f1, q78f2, q78f3, _⟩ := t9.out
    go_wp2_with fail
    go_ret
    exact ⟨rfl, hb.out⟩
end Go.Proofs.YtoafpokcbbncfaaDoor
