/-
  Laws of chapter 8 walked: FnPairWays (written by wip/gen_x3.py).
-/
import Derived.Test.YtfencbfjnifmjaaLawX1
namespace Go.Proofs.Ytfencbfjnifmjaa
open Go.RowKit
set_option linter.unusedVariables false

theorem pair_next {N B : Nat} (hN : N ≤ 7) (h1 : 1 ≤ B) (h6 : B ≤ 6) : (pairW ((N : Int) + 1) (B : Int) < 0 ∨ pairN N B * (B : Int) ≤ pairW ((N : Int) + 1) (B : Int)) ∧ -1 ≤ pairW ((N : Int) + 1) (B : Int) ∧ pairW ((N : Int) + 1) (B : Int) ≤ 300000 := by
  have F := fall_facts hN h1 h6
  rcases Nat.lt_or_ge N 7 with h | h
  · have e : pairW ((N : Int) + 1) (B : Int) = pairN (N + 1) B := by
      rw [show (N : Int) + 1 = ((N + 1 : Nat) : Int) by omega]; exact pairW_in (by omega) h1 h6
    have hb := (fall_facts (N := N + 1) (by omega) h1 h6).pB
    rw [e]
    exact ⟨.inr (F.pMore h), by omega, hb.2⟩
  · have e : pairW ((N : Int) + 1) (B : Int) = -1 := pairW_out (fallOk_no (.inl (by omega)))
    rw [e]
    exact ⟨.inl (by decide), by decide, by decide⟩
theorem pair_sum (N B : Nat) : pairN N B + (fallN B N : Int) = ((B ^ N : Nat) : Int) := by unfold pairN; omega

set_option maxRecDepth 100000 in
set_option maxHeartbeats 3200000 in
theorem lawPairWays {A : Option Addr} {n c : Nat} {bs : List Int} {w : World} (h : Bts w w.heap.size A n c bs) :
    Calls Try.prog 10 #[.slice A n c] w fun e w' => e = .returned (.bool true) ∧ Below w.heap.size w w' := by
  have hbig := h.big
  have hle := h.le
  unfold maxLen at hbig
  by_cases hn : 1048576 < n
  · go_enter Try.func10, Try.ntmps10
    go_wp2
    go_ret
    exact ⟨rfl, Below.refl _ _⟩
  · have hD := hide (DrawPairWays_c A n c bs w h)
    obtain ⟨i0, hi, hz0, hz1, hz2⟩ := info_parts infoInt
    go_enter Try.func10, Try.ntmps10
    go_wp2_with fail
    refine hD.out.mono ?_
    rintro e w0 ⟨x, y, rfl, hlox, hhix, hloy, hhiy, hb⟩
    replace hb := hide hb
    clear hD
    have hwx := wf_i64 (z := x) (by omega)
    have hwy := wf_i64 (z := y) (by omega)
    go_wp2_with fail
    refine (pairWays_impl x y _ hwx hwy).mono ?_
    rintro e w1 ⟨rfl, hq⟩
    replace hb := hide (upB hb.out (hq))
    clear hq
    go_wp2_with fail
    refine (sameB (pairWays_spec x y _)).mono ?_
    rintro e w2 ⟨rfl, hq⟩
    replace hb := hide (upB hb.out (hq))
    clear hq
    by_cases hok : fallOk x y = true
    · obtain ⟨N, B, rfl, rfl, h7, h1, h6⟩ := fallOk_yes hok
      have F := fall_facts h7 h1 h6
      replace F := hide F
      have hfb := full_bound h7 h6
      obtain ⟨u0, u1, u2, u3, u4⟩ := hfb
      rw [pairW_in h7 h1 h6]
      have pb := F.out.pB
      have hpa := F.out.pAll
      have hpz := F.out.pZero
      obtain ⟨hm, m0, m1⟩ := pair_next h7 h1 h6
      have hs := pair_sum N B
      have hap := hide (apartW_in h7 h1 h6)
      have HP := hide (fun w => lawPowN_c B N w h6 h7)
      clear F hok
      obtain ⟨M, hM⟩ : ∃ M : Int, Hid (pairW ((N : Int) + 1) (B : Int) = M) := ⟨_, hide rfl⟩
      obtain ⟨Z, hZ⟩ : ∃ Z : Int, Hid (pairN N B = Z) := ⟨_, hide rfl⟩
      obtain ⟨Y, hY⟩ : ∃ Y : Nat, Hid (fallN B N = Y) := ⟨_, hide rfl⟩
      obtain ⟨P, hP⟩ : ∃ P : Int, Hid (((B ^ N : Nat) : Int) = P) := ⟨_, hide rfl⟩
      rw [hM.out] at hm m0 m1
      rw [hZ.out] at hm hs hpa hpz pb ⊢
      rw [hY.out] at hs hap u2
      rw [hP.out] at hs hpa HP
      subst hs
      obtain ⟨pb0, pb1⟩ := pb
      obtain ⟨y0, y1⟩ := mul_bound pb0 pb1 (b := (B : Int)) (N := 6) (by omega) (by omega)
      have hc : (B < N ∧ 2 ≤ N ∧ Y = 0 ∧ Z ≠ 0) ∨ (N < 2 ∧ N ≤ B ∧ Y ≠ 0 ∧ Z = 0) ∨ (2 ≤ N ∧ N ≤ B ∧ Y ≠ 0 ∧ Z ≠ 0) := by omega
      clear hpa hpz
      rcases hc with ⟨c1, c2, rfl, hz⟩ | ⟨c1, c2, hy, rfl⟩ | ⟨c1, c2, hy, hz⟩
      · have hzb : (Z == 0) = false := by simpa using hz
        by_cases hl : M < 0
        · clear hm
          go_wp2_with fail
          refine (sameB (HP.out _)).mono ?_
          rintro e w3 ⟨rfl, hq⟩
          replace hb := hide (upB hb.out (hq))
          clear hq
          go_wp2_with fail
          refine (pairWays_impl ((N : Int) + 1) (B : Int) _ (wf_i64 (by omega)) hwy).mono ?_
          rw [hM.out]
          rintro e w4 ⟨rfl, hq⟩
          replace hb := hide (upB hb.out (hq))
          clear hq
          go_wp2_with fail
          refine (apartWays_impl (N : Int) (B : Int) _ hwx hwy).mono ?_
          rw [hap.out]
          rintro e w5 ⟨rfl, hq⟩
          replace hb := hide (upB hb.out (hq))
          clear hq
          go_wp2_with fail
          refine (alive_c _).mono ?_
          rintro e wz ⟨rfl, hq⟩
          go_wp2_with fail
          go_ret
          exact ⟨by first | rfl | (simp <;> omega), upB hb.out hq⟩
        · have hm := hm.resolve_left hl
          go_wp2_with fail
          refine (sameB (HP.out _)).mono ?_
          rintro e w6 ⟨rfl, hq⟩
          replace hb := hide (upB hb.out (hq))
          clear hq
          go_wp2_with fail
          refine (pairWays_impl ((N : Int) + 1) (B : Int) _ (wf_i64 (by omega)) hwy).mono ?_
          rw [hM.out]
          rintro e w7 ⟨rfl, hq⟩
          replace hb := hide (upB hb.out (hq))
          clear hq
          go_wp2_with fail
          refine (apartWays_impl (N : Int) (B : Int) _ hwx hwy).mono ?_
          rw [hap.out]
          rintro e w8 ⟨rfl, hq⟩
          replace hb := hide (upB hb.out (hq))
          clear hq
          go_wp2_with fail
          refine (alive_c _).mono ?_
          rintro e wz ⟨rfl, hq⟩
          go_wp2_with fail
          go_ret
          exact ⟨by first | rfl | (simp <;> omega), upB hb.out hq⟩
      · have hyb : ((0 : Int) == (Y : Int)) = false := by simp; omega
        have hy0 : 0 < Y := by omega
        by_cases hl : M < 0
        · clear hm
          go_wp2_with fail
          refine (sameB (HP.out _)).mono ?_
          rintro e w9 ⟨rfl, hq⟩
          replace hb := hide (upB hb.out (hq))
          clear hq
          go_wp2_with fail
          refine (pairWays_impl ((N : Int) + 1) (B : Int) _ (wf_i64 (by omega)) hwy).mono ?_
          rw [hM.out]
          rintro e w10 ⟨rfl, hq⟩
          replace hb := hide (upB hb.out (hq))
          clear hq
          go_wp2_with fail
          refine (apartWays_impl (N : Int) (B : Int) _ hwx hwy).mono ?_
          rw [hap.out]
          rintro e w11 ⟨rfl, hq⟩
          replace hb := hide (upB hb.out (hq))
          clear hq
          go_wp2_with fail
          refine (alive_c _).mono ?_
          rintro e wz ⟨rfl, hq⟩
          go_wp2_with fail
          go_ret
          exact ⟨by first | rfl | (simp <;> omega), upB hb.out hq⟩
        · have hm := hm.resolve_left hl
          go_wp2_with fail
          refine (sameB (HP.out _)).mono ?_
          rintro e w12 ⟨rfl, hq⟩
          replace hb := hide (upB hb.out (hq))
          clear hq
          go_wp2_with fail
          refine (pairWays_impl ((N : Int) + 1) (B : Int) _ (wf_i64 (by omega)) hwy).mono ?_
          rw [hM.out]
          rintro e w13 ⟨rfl, hq⟩
          replace hb := hide (upB hb.out (hq))
          clear hq
          go_wp2_with fail
          refine (apartWays_impl (N : Int) (B : Int) _ hwx hwy).mono ?_
          rw [hap.out]
          rintro e w14 ⟨rfl, hq⟩
          replace hb := hide (upB hb.out (hq))
          clear hq
          go_wp2_with fail
          refine (alive_c _).mono ?_
          rintro e wz ⟨rfl, hq⟩
          go_wp2_with fail
          go_ret
          exact ⟨by first | rfl | (simp <;> omega), upB hb.out hq⟩
      · have hy0 : 0 < Y := by omega
        have hyb : (Z == Z + (Y : Int)) = false := by simp; omega
        have hzb : (Z == 0) = false := by simpa using hz
        by_cases hl : M < 0
        · clear hm
          go_wp2_with fail
          refine (sameB (HP.out _)).mono ?_
          rintro e w15 ⟨rfl, hq⟩
          replace hb := hide (upB hb.out (hq))
          clear hq
          go_wp2_with fail
          refine (pairWays_impl ((N : Int) + 1) (B : Int) _ (wf_i64 (by omega)) hwy).mono ?_
          rw [hM.out]
          rintro e w16 ⟨rfl, hq⟩
          replace hb := hide (upB hb.out (hq))
          clear hq
          go_wp2_with fail
          refine (apartWays_impl (N : Int) (B : Int) _ hwx hwy).mono ?_
          rw [hap.out]
          rintro e w17 ⟨rfl, hq⟩
          replace hb := hide (upB hb.out (hq))
          clear hq
          go_wp2_with fail
          refine (alive_c _).mono ?_
          rintro e wz ⟨rfl, hq⟩
          go_wp2_with fail
          go_ret
          exact ⟨by first | rfl | (simp <;> omega), upB hb.out hq⟩
        · have hm := hm.resolve_left hl
          go_wp2_with fail
          refine (sameB (HP.out _)).mono ?_
          rintro e w18 ⟨rfl, hq⟩
          replace hb := hide (upB hb.out (hq))
          clear hq
          go_wp2_with fail
          refine (pairWays_impl ((N : Int) + 1) (B : Int) _ (wf_i64 (by omega)) hwy).mono ?_
          rw [hM.out]
          rintro e w19 ⟨rfl, hq⟩
          replace hb := hide (upB hb.out (hq))
          clear hq
          go_wp2_with fail
          refine (apartWays_impl (N : Int) (B : Int) _ hwx hwy).mono ?_
          rw [hap.out]
          rintro e w20 ⟨rfl, hq⟩
          replace hb := hide (upB hb.out (hq))
          clear hq
          go_wp2_with fail
          refine (alive_c _).mono ?_
          rintro e wz ⟨rfl, hq⟩
          go_wp2_with fail
          go_ret
          exact ⟨by first | rfl | (simp <;> omega), upB hb.out hq⟩
    · have hok : fallOk x y = false := by simpa using hok
      rw [pairW_out hok]
      clear hok
      go_wp2_with fail
      refine (alive_c _).mono ?_
      rintro e wz ⟨rfl, hq⟩
      go_wp2_with fail
      go_ret
      exact ⟨by simp, upB hb.out hq⟩
end Go.Proofs.Ytfencbfjnifmjaa
