/-
  Laws of chapter 11 walked: FnLikeliestThings (written by wip/gen_a5.py).
-/
import Derived.Test.YtjkccfnbepbmbaaSampI
import Derived.Test.YtjkccfnbepbmbaaDrawCh11
import Derived.Test.YtjkccfnbepbmbaaZdraw
namespace Go.Proofs.Ytjkccfnbepbmbaa
open Go.RowKit
set_option linter.unusedVariables false

set_option maxRecDepth 100000 in
set_option maxHeartbeats 6400000 in
theorem lawLikeliestThings {A : Option Addr} {n c : Nat} {bs : List Int} {w : World} (h : Bts w w.heap.size A n c bs) :
    Calls Try.prog 7 #[.slice A n c] w fun e w' => e = .returned (.bool true) ∧ Below w.heap.size w w' := by
  have hbig := h.big
  have hle := h.le
  unfold maxLen at hbig
  by_cases hn : 1048576 < n
  · go_enter Try.func7, Try.ntmps7
    go_wp2
    go_ret
    exact ⟨rfl, Below.refl _ _⟩
  · have hD := hide (DrawLikeliestThings_c A n c bs w h)
    obtain ⟨i0, hi, hz0, hz1, hz2⟩ := info_parts infoInt
    go_enter Try.func7, Try.ntmps7
    go_wp2_with fail
    refine hD.out.mono ?_
    rintro e w0 ⟨m, p, b, rfl, hlom, hhim, hlop, hhip, hlob, hhib, hb⟩
    replace hb := hide hb
    clear hD
    have hwm := wf_i64 (z := m) (by omega)
    have hwp := wf_i64 (z := p) (by omega)
    have hwb := wf_i64 (z := b) (by omega)
    go_wp2_with fail
    refine (likeliest_impl m p b _ hwm hwp hwb).mono ?_
    rintro e w1 ⟨rfl, hq⟩
    replace hb := hide (upB hb.out (hq))
    clear hq
    go_wp2_with fail
    refine (sameB (likeliest_spec m p b _)).mono ?_
    rintro e w2 ⟨rfl, hq⟩
    replace hb := hide (upB hb.out (hq))
    clear hq
    cases hok : likeB m p b with
    | false =>
      rw [show likeT m p b = -1 by unfold likeT; rw [hok]; rfl]
      clear hok
      go_wp2_with fail
      refine (alive_c _).mono ?_
      rintro e wz ⟨rfl, hq⟩
      go_wp2_with fail
      go_ret
      exact ⟨by simp, upB hb.out hq⟩
    | true =>
      obtain ⟨f1, f2, f3, f4⟩ := like_facts hok
      obtain ⟨m1, m9, p1, p9, b1, bm, bp⟩ := of_decide_eq_true hok
      rw [show likeT m p b = m * p / b by unfold likeT; rw [hok]; rfl]
      obtain ⟨q0, q1⟩ := mul_bound (a := m) (M := 9) (by omega) (by omega) (b := p) (N := 9) (by omega) (by omega)
      obtain ⟨N, hN⟩ : ∃ N, Hid (m * p / b = N) := ⟨_, hide rfl⟩
      have hB0 : (b == 0) = false := by simp; omega
      have hw2 := hide (show wrap64 ((m * p).tdiv b) = N from by
        rw [Int.tdiv_eq_ediv_of_nonneg q0, hN.out]
        rw [hN.out] at f1 f3
        exact IntWalk.wrap64_in _ (by omega))
      have hw3 := hide (show (m * p).tdiv b = N from by rw [Int.tdiv_eq_ediv_of_nonneg q0, hN.out])
      rw [hN.out] at f1 f2 f3 f4 ⊢
      replace f4 := hide f4
      clear hok
      by_cases h30 : 30 < N
      · clear f4
        go_wp2_with fail
        go_ret
        exact ⟨by first | (rw [hw2.out]; simp) | (rw [hN.out]; simp) | (rw [hw3.out]; simp), hb.out⟩
      ·
        obtain ⟨g1, g2, g3, g4⟩ := f4.out (by omega)
        have bX := chooseI_bound (n := N) (k := p) (by omega)
        have bX1 := chooseI_bound (n := N - 1) (k := p) (by omega)
        have hbk : decide (0 ≤ b ∧ b ≤ p) = true := decide_eq_true (by omega)
        have HA := hide (show markW N m p b = markN N m p b by unfold markW markB; rw [show sampleB N m p = true from decide_eq_true (by omega), hbk]; rfl)
        have HX := hide (show pickW N p = chooseI N p by unfold pickW; rw [if_pos (by omega)])
        have HX1 := hide (show pickW (N - 1) p = chooseI (N - 1) p by unfold pickW; rw [if_pos (by omega)])
        have HM := hide (fun (h : N < 30) => show markW (N + 1) m p b = markN (N + 1) m p b by unfold markW markB; rw [show sampleB (N + 1) m p = true from decide_eq_true (by omega), hbk]; rfl)
        have HM2 := hide (fun (h : ¬ N < 30) => show markW (N + 1) m p b = -1 by unfold markW markB; rw [show sampleB (N + 1) m p = false from decide_eq_false (by omega)]; rfl)
        have HL := hide (fun (h : m < N ∧ p < N) => show markW (N - 1) m p b = markN (N - 1) m p b by unfold markW markB; rw [show sampleB (N - 1) m p = true from decide_eq_true (by omega), hbk]; rfl)
        have HL2 := hide (fun (h : ¬ (m < N ∧ p < N)) => show markW (N - 1) m p b = -1 by unfold markW markB; rw [show sampleB (N - 1) m p = false from decide_eq_false (by omega)]; rfl)
        have HXm := hide (fun (h : N < 30) => show pickW (N + 1) p = chooseI (N + 1) p by unfold pickW; rw [if_pos (by omega)])
        obtain ⟨V, hV⟩ : ∃ V, Hid (markN N m p b = V) := ⟨_, hide rfl⟩
        obtain ⟨X, hX⟩ : ∃ X, Hid (chooseI N p = X) := ⟨_, hide rfl⟩
        obtain ⟨X1, hX1⟩ : ∃ X, Hid (chooseI (N - 1) p = X) := ⟨_, hide rfl⟩
        rw [hV.out] at g1 g2 g3 g4 HA
        rw [hX.out] at g3 g4 HX bX
        rw [hX1.out] at g4 HX1 bX1
        obtain ⟨x0, x1⟩ := bX
        obtain ⟨y0, y1⟩ := bX1
        replace g3 := hide g3
        replace g4 := hide g4
        obtain ⟨d0, d1⟩ := mul_bound (show 0 ≤ V by omega) g2 y0 y1
        clear f4 hbk
        by_cases hc0 : N < 30
        · skip
          by_cases hc1 : m < N ∧ p < N
          · skip
            obtain ⟨e1, e2⟩ := g3.out hc0
            have bY := chooseI_bound (n := N + 1) (k := p) (by omega)
            have bB := markN_bound (p := p) (b := b) (n := N + 1) (m := m) (by omega) (by omega) (by omega)
            obtain ⟨B, hB⟩ : ∃ B, Hid (markN (N + 1) m p b = B) := ⟨_, hide rfl⟩
            obtain ⟨Y, hY⟩ : ∃ Y, Hid (chooseI (N + 1) p = Y) := ⟨_, hide rfl⟩
            rw [hB.out] at e1 e2 bB
            rw [hY.out] at e2 bY
            have HMv := hide ((HM.out hc0).trans hB.out)
            have HYv := hide ((HXm.out hc0).trans hY.out)
            obtain ⟨k0, _⟩ := bB
            obtain ⟨j0, j1⟩ := bY
            have hnb : ¬ (B < 0) := by omega
            obtain ⟨r0, r1⟩ := mul_bound (show 0 ≤ V by omega) g2 j0 j1
            obtain ⟨r2, r3⟩ := mul_bound k0 e1 x0 x1
            have hgt : V * Y > B * X := e2
            obtain ⟨c1, c2⟩ := g4.out hc1.1 hc1.2
            have bC := markN_bound (p := p) (b := b) (n := N - 1) (m := m) (by omega) (by omega) (by omega)
            obtain ⟨C, hC⟩ : ∃ C, Hid (markN (N - 1) m p b = C) := ⟨_, hide rfl⟩
            rw [hC.out] at c1 c2 bC
            have HLv := hide ((HL.out hc1).trans hC.out)
            obtain ⟨l0, _⟩ := bC
            have hnc : ¬ (C < 0) := by omega
            obtain ⟨s0, s1⟩ := mul_bound l0 c1 x0 x1
            have hge : V * X1 ≥ C * X := c2
            go_wp2_with fail
            refine (markedWays_impl (N) (m) (p) (b) _ (wf_i64 (by omega)) (wf_i64 (by omega)) (wf_i64 (by omega)) (wf_i64 (by omega))).mono ?_
            rw [HA.out]
            rintro e w3 ⟨rfl, hq⟩
            replace hb := hide (upB hb.out (hq))
            clear hq
            go_wp2_with fail
            refine (pickWays_impl (N) (p) _ (wf_i64 (by omega)) (wf_i64 (by omega))).mono ?_
            rw [HX.out]
            rintro e w4 ⟨rfl, hq⟩
            replace hb := hide (upB hb.out (hq))
            clear hq
            go_wp2_with fail
            refine (markedWays_impl (N + 1) (m) (p) (b) _ (wf_i64 (by omega)) (wf_i64 (by omega)) (wf_i64 (by omega)) (wf_i64 (by omega))).mono ?_
            rw [HMv.out]
            rintro e w5 ⟨rfl, hq⟩
            replace hb := hide (upB hb.out (hq))
            clear hq
            go_wp2_with fail
            refine (markedWays_impl (N - 1) (m) (p) (b) _ (wf_i64 (by omega)) (wf_i64 (by omega)) (wf_i64 (by omega)) (wf_i64 (by omega))).mono ?_
            rw [HLv.out]
            rintro e w6 ⟨rfl, hq⟩
            replace hb := hide (upB hb.out (hq))
            clear hq
            go_wp2_with fail
            refine (pickWays_impl (N + 1) (p) _ (wf_i64 (by omega)) (wf_i64 (by omega))).mono ?_
            rw [HYv.out]
            rintro e w7 ⟨rfl, hq⟩
            replace hb := hide (upB hb.out (hq))
            clear hq
            go_wp2_with fail
            refine (pickWays_impl (N - 1) (p) _ (wf_i64 (by omega)) (wf_i64 (by omega))).mono ?_
            rw [HX1.out]
            rintro e w8 ⟨rfl, hq⟩
            replace hb := hide (upB hb.out (hq))
            clear hq
            go_wp2_with fail
            go_ret
            exact ⟨by simp <;> omega, hb.out⟩
          · skip
            obtain ⟨e1, e2⟩ := g3.out hc0
            have bY := chooseI_bound (n := N + 1) (k := p) (by omega)
            have bB := markN_bound (p := p) (b := b) (n := N + 1) (m := m) (by omega) (by omega) (by omega)
            obtain ⟨B, hB⟩ : ∃ B, Hid (markN (N + 1) m p b = B) := ⟨_, hide rfl⟩
            obtain ⟨Y, hY⟩ : ∃ Y, Hid (chooseI (N + 1) p = Y) := ⟨_, hide rfl⟩
            rw [hB.out] at e1 e2 bB
            rw [hY.out] at e2 bY
            have HMv := hide ((HM.out hc0).trans hB.out)
            have HYv := hide ((HXm.out hc0).trans hY.out)
            obtain ⟨k0, _⟩ := bB
            obtain ⟨j0, j1⟩ := bY
            have hnb : ¬ (B < 0) := by omega
            obtain ⟨r0, r1⟩ := mul_bound (show 0 ≤ V by omega) g2 j0 j1
            obtain ⟨r2, r3⟩ := mul_bound k0 e1 x0 x1
            have hgt : V * Y > B * X := e2
            go_wp2_with fail
            refine (markedWays_impl (N) (m) (p) (b) _ (wf_i64 (by omega)) (wf_i64 (by omega)) (wf_i64 (by omega)) (wf_i64 (by omega))).mono ?_
            rw [HA.out]
            rintro e w9 ⟨rfl, hq⟩
            replace hb := hide (upB hb.out (hq))
            clear hq
            go_wp2_with fail
            refine (pickWays_impl (N) (p) _ (wf_i64 (by omega)) (wf_i64 (by omega))).mono ?_
            rw [HX.out]
            rintro e w10 ⟨rfl, hq⟩
            replace hb := hide (upB hb.out (hq))
            clear hq
            go_wp2_with fail
            refine (markedWays_impl (N + 1) (m) (p) (b) _ (wf_i64 (by omega)) (wf_i64 (by omega)) (wf_i64 (by omega)) (wf_i64 (by omega))).mono ?_
            rw [HMv.out]
            rintro e w11 ⟨rfl, hq⟩
            replace hb := hide (upB hb.out (hq))
            clear hq
            go_wp2_with fail
            refine (markedWays_impl (N - 1) (m) (p) (b) _ (wf_i64 (by omega)) (wf_i64 (by omega)) (wf_i64 (by omega)) (wf_i64 (by omega))).mono ?_
            rw [HL2.out hc1]
            rintro e w12 ⟨rfl, hq⟩
            replace hb := hide (upB hb.out (hq))
            clear hq
            go_wp2_with fail
            refine (pickWays_impl (N + 1) (p) _ (wf_i64 (by omega)) (wf_i64 (by omega))).mono ?_
            rw [HYv.out]
            rintro e w13 ⟨rfl, hq⟩
            replace hb := hide (upB hb.out (hq))
            clear hq
            go_wp2_with fail
            go_ret
            exact ⟨by simp <;> omega, hb.out⟩
        · skip
          by_cases hc1 : m < N ∧ p < N
          · skip
            obtain ⟨c1, c2⟩ := g4.out hc1.1 hc1.2
            have bC := markN_bound (p := p) (b := b) (n := N - 1) (m := m) (by omega) (by omega) (by omega)
            obtain ⟨C, hC⟩ : ∃ C, Hid (markN (N - 1) m p b = C) := ⟨_, hide rfl⟩
            rw [hC.out] at c1 c2 bC
            have HLv := hide ((HL.out hc1).trans hC.out)
            obtain ⟨l0, _⟩ := bC
            have hnc : ¬ (C < 0) := by omega
            obtain ⟨s0, s1⟩ := mul_bound l0 c1 x0 x1
            have hge : V * X1 ≥ C * X := c2
            go_wp2_with fail
            refine (markedWays_impl (N) (m) (p) (b) _ (wf_i64 (by omega)) (wf_i64 (by omega)) (wf_i64 (by omega)) (wf_i64 (by omega))).mono ?_
            rw [HA.out]
            rintro e w14 ⟨rfl, hq⟩
            replace hb := hide (upB hb.out (hq))
            clear hq
            go_wp2_with fail
            refine (pickWays_impl (N) (p) _ (wf_i64 (by omega)) (wf_i64 (by omega))).mono ?_
            rw [HX.out]
            rintro e w15 ⟨rfl, hq⟩
            replace hb := hide (upB hb.out (hq))
            clear hq
            go_wp2_with fail
            refine (markedWays_impl (N + 1) (m) (p) (b) _ (wf_i64 (by omega)) (wf_i64 (by omega)) (wf_i64 (by omega)) (wf_i64 (by omega))).mono ?_
            rw [HM2.out hc0]
            rintro e w16 ⟨rfl, hq⟩
            replace hb := hide (upB hb.out (hq))
            clear hq
            go_wp2_with fail
            refine (markedWays_impl (N - 1) (m) (p) (b) _ (wf_i64 (by omega)) (wf_i64 (by omega)) (wf_i64 (by omega)) (wf_i64 (by omega))).mono ?_
            rw [HLv.out]
            rintro e w17 ⟨rfl, hq⟩
            replace hb := hide (upB hb.out (hq))
            clear hq
            go_wp2_with fail
            refine (pickWays_impl (N - 1) (p) _ (wf_i64 (by omega)) (wf_i64 (by omega))).mono ?_
            rw [HX1.out]
            rintro e w18 ⟨rfl, hq⟩
            replace hb := hide (upB hb.out (hq))
            clear hq
            go_wp2_with fail
            go_ret
            exact ⟨by simp <;> omega, hb.out⟩
          · skip
            omega
end Go.Proofs.Ytjkccfnbepbmbaa
