/-
  Laws of chapter 11 walked: FnPickWays (written by wip/gen_a4.py).
-/
import Derived.Test.YtjkccfnbepbmbaaSampI
import Derived.Test.YtjkccfnbepbmbaaDrawCh11
import Derived.Test.YtjkccfnbepbmbaaZdraw
namespace Go.Proofs.Ytjkccfnbepbmbaa
open Go.RowKit
set_option linter.unusedVariables false

set_option maxRecDepth 100000 in
set_option maxHeartbeats 3200000 in
theorem lawPickWays {A : Option Addr} {n c : Nat} {bs : List Int} {w : World} (h : Bts w w.heap.size A n c bs) :
    Calls Try.prog 3 #[.slice A n c] w fun e w' => e = .returned (.bool true) ∧ Below w.heap.size w w' := by
  have hbig := h.big
  have hle := h.le
  unfold maxLen at hbig
  by_cases hn : 1048576 < n
  · go_enter Try.func3, Try.ntmps3
    go_wp2
    go_ret
    exact ⟨rfl, Below.refl _ _⟩
  · have hD := hide (DrawPickWays_c A n c bs w h)
    obtain ⟨i0, hi, hz0, hz1, hz2⟩ := info_parts infoInt
    go_enter Try.func3, Try.ntmps3
    go_wp2_with fail
    refine hD.out.mono ?_
    rintro e w0 ⟨n, k, rfl, hlon, hhin, hlok, hhik, hb⟩
    replace hb := hide hb
    clear hD
    have hwn := wf_i64 (z := n) (by omega)
    have hwk := wf_i64 (z := k) (by omega)
    go_wp2_with fail
    refine (pickWays_impl n k _ hwn hwk).mono ?_
    rintro e w1 ⟨rfl, hq⟩
    replace hb := hide (upB hb.out (hq))
    clear hq
    go_wp2_with fail
    refine (sameB (pickWays_spec n k _)).mono ?_
    rintro e w2 ⟨rfl, hq⟩
    replace hb := hide (upB hb.out (hq))
    clear hq
    by_cases hok : 0 ≤ n ∧ n ≤ 30 ∧ 0 ≤ k
    ·
      obtain ⟨n0, n1, k0⟩ := hok
      rw [show pickW n k = chooseI n k by unfold pickW; rw [if_pos ⟨n0, n1, k0⟩]]
      obtain ⟨f1, f2, f3⟩ := pick_facts n0 n1 k0 (show k ≤ 9 by omega)
      have bV := chooseI_bound (n := n) (k := k) (by omega)
      have bM := chooseI_bound (n := n) (k := k - 1) (by omega)
      have HZ := hide (show pickW n 0 = 1 by unfold pickW; rw [if_pos (by omega)]; exact f3)
      have HT := hide (fun (h : k ≤ n) => show pickW n (n - k) = chooseI n k by unfold pickW; rw [if_pos (by omega)]; exact f1 h)
      have HM := hide (fun (h : n < 30) => show pickW (n + 1) k = chooseI (n + 1) k by unfold pickW; rw [if_pos (by omega)])
      have HM2 := hide (fun (h : ¬ n < 30) => show pickW (n + 1) k = -1 by unfold pickW; rw [if_neg (by omega)])
      have HL := hide (fun (h : 1 ≤ k) => show pickW n (k - 1) = chooseI n (k - 1) by unfold pickW; rw [if_pos (by omega)])
      have HL2 := hide (fun (h : ¬ 1 ≤ k) => show pickW n (k - 1) = -1 by unfold pickW; rw [if_neg (by omega)])
      have HP := hide f2
      obtain ⟨V, hV⟩ : ∃ V, Hid (chooseI n k = V) := ⟨_, hide rfl⟩
      obtain ⟨Q, hQ⟩ : ∃ Q, Hid (chooseI n (k - 1) = Q) := ⟨_, hide rfl⟩
      rw [hV.out] at bV HT HP ⊢
      rw [hQ.out] at bM HL HP
      obtain ⟨v0, v1⟩ := bV
      obtain ⟨q0, q1⟩ := bM
      clear f1 f2 f3
      by_cases hc0 : n < 30
      · skip
        by_cases hc1 : 1 ≤ k
        · skip
          by_cases hc2 : k ≤ n
          · skip
            have hsum := hide (HP.out hc1 hc0)
            go_wp2_with fail
            refine (pickWays_impl (n + 1) (k) _ (wf_i64 (by omega)) (wf_i64 (by omega))).mono ?_
            rw [HM.out hc0]
            rintro e w3 ⟨rfl, hq⟩
            replace hb := hide (upB hb.out (hq))
            clear hq
            go_wp2_with fail
            refine (pickWays_impl (n) (k - 1) _ (wf_i64 (by omega)) (wf_i64 (by omega))).mono ?_
            rw [HL.out hc1]
            rintro e w4 ⟨rfl, hq⟩
            replace hb := hide (upB hb.out (hq))
            clear hq
            obtain ⟨M, hM⟩ : ∃ M, Hid (chooseI (n + 1) k = M) := ⟨_, hide rfl⟩
            have bMM := chooseI_bound (n := n + 1) (k := k) (by omega)
            rw [hM.out] at bMM ⊢
            obtain ⟨mm0, mm1⟩ := bMM
            rw [hM.out] at hsum
            have hs2 : (M == V + Q) = true := by have := hsum.out; simp <;> omega
            go_wp2_with fail
            refine (pickWays_impl (n) (n - k) _ (wf_i64 (by omega)) (wf_i64 (by omega))).mono ?_
            rw [HT.out hc2]
            rintro e w5 ⟨rfl, hq⟩
            replace hb := hide (upB hb.out (hq))
            clear hq
            go_wp2_with fail
            refine (pickWays_impl (n) (0) _ (wf_i64 (by omega)) (wf_i64 (by omega))).mono ?_
            rw [HZ.out]
            rintro e w6 ⟨rfl, hq⟩
            replace hb := hide (upB hb.out (hq))
            clear hq
            go_wp2_with fail
            go_ret
            exact ⟨by simp <;> omega, hb.out⟩
          · skip
            have hsum := hide (HP.out hc1 hc0)
            go_wp2_with fail
            refine (pickWays_impl (n + 1) (k) _ (wf_i64 (by omega)) (wf_i64 (by omega))).mono ?_
            rw [HM.out hc0]
            rintro e w7 ⟨rfl, hq⟩
            replace hb := hide (upB hb.out (hq))
            clear hq
            go_wp2_with fail
            refine (pickWays_impl (n) (k - 1) _ (wf_i64 (by omega)) (wf_i64 (by omega))).mono ?_
            rw [HL.out hc1]
            rintro e w8 ⟨rfl, hq⟩
            replace hb := hide (upB hb.out (hq))
            clear hq
            obtain ⟨M, hM⟩ : ∃ M, Hid (chooseI (n + 1) k = M) := ⟨_, hide rfl⟩
            have bMM := chooseI_bound (n := n + 1) (k := k) (by omega)
            rw [hM.out] at bMM ⊢
            obtain ⟨mm0, mm1⟩ := bMM
            rw [hM.out] at hsum
            have hs2 : (M == V + Q) = true := by have := hsum.out; simp <;> omega
            go_wp2_with fail
            refine (pickWays_impl (n) (0) _ (wf_i64 (by omega)) (wf_i64 (by omega))).mono ?_
            rw [HZ.out]
            rintro e w9 ⟨rfl, hq⟩
            replace hb := hide (upB hb.out (hq))
            clear hq
            go_wp2_with fail
            go_ret
            exact ⟨by simp <;> omega, hb.out⟩
        · skip
          by_cases hc2 : k ≤ n
          · skip
            go_wp2_with fail
            refine (pickWays_impl (n + 1) (k) _ (wf_i64 (by omega)) (wf_i64 (by omega))).mono ?_
            rw [HM.out hc0]
            rintro e w10 ⟨rfl, hq⟩
            replace hb := hide (upB hb.out (hq))
            clear hq
            go_wp2_with fail
            refine (pickWays_impl (n) (k - 1) _ (wf_i64 (by omega)) (wf_i64 (by omega))).mono ?_
            rw [HL2.out hc1]
            rintro e w11 ⟨rfl, hq⟩
            replace hb := hide (upB hb.out (hq))
            clear hq
            obtain ⟨M, hM⟩ : ∃ M, Hid (chooseI (n + 1) k = M) := ⟨_, hide rfl⟩
            have bMM := chooseI_bound (n := n + 1) (k := k) (by omega)
            rw [hM.out] at bMM ⊢
            obtain ⟨mm0, mm1⟩ := bMM
            go_wp2_with fail
            refine (pickWays_impl (n) (n - k) _ (wf_i64 (by omega)) (wf_i64 (by omega))).mono ?_
            rw [HT.out hc2]
            rintro e w12 ⟨rfl, hq⟩
            replace hb := hide (upB hb.out (hq))
            clear hq
            go_wp2_with fail
            refine (pickWays_impl (n) (0) _ (wf_i64 (by omega)) (wf_i64 (by omega))).mono ?_
            rw [HZ.out]
            rintro e w13 ⟨rfl, hq⟩
            replace hb := hide (upB hb.out (hq))
            clear hq
            go_wp2_with fail
            go_ret
            exact ⟨by simp <;> omega, hb.out⟩
          · skip
            omega
      · skip
        by_cases hc1 : 1 ≤ k
        · skip
          by_cases hc2 : k ≤ n
          · skip
            go_wp2_with fail
            refine (pickWays_impl (n + 1) (k) _ (wf_i64 (by omega)) (wf_i64 (by omega))).mono ?_
            rw [HM2.out hc0]
            rintro e w14 ⟨rfl, hq⟩
            replace hb := hide (upB hb.out (hq))
            clear hq
            go_wp2_with fail
            refine (pickWays_impl (n) (k - 1) _ (wf_i64 (by omega)) (wf_i64 (by omega))).mono ?_
            rw [HL.out hc1]
            rintro e w15 ⟨rfl, hq⟩
            replace hb := hide (upB hb.out (hq))
            clear hq
            go_wp2_with fail
            refine (pickWays_impl (n) (n - k) _ (wf_i64 (by omega)) (wf_i64 (by omega))).mono ?_
            rw [HT.out hc2]
            rintro e w16 ⟨rfl, hq⟩
            replace hb := hide (upB hb.out (hq))
            clear hq
            go_wp2_with fail
            refine (pickWays_impl (n) (0) _ (wf_i64 (by omega)) (wf_i64 (by omega))).mono ?_
            rw [HZ.out]
            rintro e w17 ⟨rfl, hq⟩
            replace hb := hide (upB hb.out (hq))
            clear hq
            go_wp2_with fail
            go_ret
            exact ⟨by simp <;> omega, hb.out⟩
          · skip
            omega
        · skip
          by_cases hc2 : k ≤ n
          · skip
            go_wp2_with fail
            refine (pickWays_impl (n + 1) (k) _ (wf_i64 (by omega)) (wf_i64 (by omega))).mono ?_
            rw [HM2.out hc0]
            rintro e w18 ⟨rfl, hq⟩
            replace hb := hide (upB hb.out (hq))
            clear hq
            go_wp2_with fail
            refine (pickWays_impl (n) (k - 1) _ (wf_i64 (by omega)) (wf_i64 (by omega))).mono ?_
            rw [HL2.out hc1]
            rintro e w19 ⟨rfl, hq⟩
            replace hb := hide (upB hb.out (hq))
            clear hq
            go_wp2_with fail
            refine (pickWays_impl (n) (n - k) _ (wf_i64 (by omega)) (wf_i64 (by omega))).mono ?_
            rw [HT.out hc2]
            rintro e w20 ⟨rfl, hq⟩
            replace hb := hide (upB hb.out (hq))
            clear hq
            go_wp2_with fail
            refine (pickWays_impl (n) (0) _ (wf_i64 (by omega)) (wf_i64 (by omega))).mono ?_
            rw [HZ.out]
            rintro e w21 ⟨rfl, hq⟩
            replace hb := hide (upB hb.out (hq))
            clear hq
            go_wp2_with fail
            go_ret
            exact ⟨by simp <;> omega, hb.out⟩
          · skip
            omega
    · rw [show pickW n k = -1 by unfold pickW; rw [if_neg hok]]
      clear hok
      go_wp2_with fail
      refine (alive_c _).mono ?_
      rintro e wz ⟨rfl, hq⟩
      go_wp2_with fail
      go_ret
      exact ⟨by simp, upB hb.out hq⟩
end Go.Proofs.Ytjkccfnbepbmbaa
