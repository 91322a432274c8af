/-
  Laws of chapter 8 walked: FnWaitWays (written by wip/gen_x3.py).
-/
import Derived.Test.YtfencbfjnifmjaaLawX1
namespace Go.Proofs.Ytfencbfjnifmjaa
open Go.RowKit
set_option linter.unusedVariables false

theorem wait_next {N B : Nat} (hN : N ≤ 7) (hN1 : 1 ≤ N) (h1 : 1 ≤ B) (h6 : B ≤ 6) : fullW (N : Int) (B : Int) = (B : Int) * fullW ((N : Int) - 1) (B : Int) + waitN N B ∧ 0 ≤ fullW ((N : Int) - 1) (B : Int) ∧ fullW ((N : Int) - 1) (B : Int) ≤ 2000000 ∧ (fullW ((N : Int) - 1) ((B : Int) - 1) < 0 ∨ waitN N B = (B : Int) * fullW ((N : Int) - 1) ((B : Int) - 1)) ∧ -1 ≤ fullW ((N : Int) - 1) ((B : Int) - 1) ∧ fullW ((N : Int) - 1) ((B : Int) - 1) ≤ 2000000 := by
  have F := fall_facts hN h1 h6
  have hb := full_bound (N := N - 1) (B := B) (by omega) h6
  have e1 : fullW ((N : Int) - 1) (B : Int) = fullN (N - 1) B := by
    rw [show (N : Int) - 1 = ((N - 1 : Nat) : Int) by omega]; exact fullW_in (by omega) h1 h6
  rw [fullW_in hN h1 h6, e1]
  refine ⟨F.wEq hN1, hb.1, hb.2.1, ?_⟩
  rcases Nat.lt_or_ge B 2 with h | h
  · have e2 : fullW ((N : Int) - 1) ((B : Int) - 1) = -1 := fullW_out (fallOk_no (.inr (by omega)))
    rw [e2]
    exact ⟨.inl (by decide), by decide, by decide⟩
  · have e2 : fullW ((N : Int) - 1) ((B : Int) - 1) = fullN (N - 1) (B - 1) := by
      rw [show (N : Int) - 1 = ((N - 1 : Nat) : Int) by omega, show (B : Int) - 1 = ((B - 1 : Nat) : Int) by omega]; exact fullW_in (by omega) (by omega) (by omega)
    have hc := full_bound (N := N - 1) (B := B - 1) (by omega) (by omega)
    rw [e2]
    exact ⟨.inr (F.wLess hN1 h), by omega, hc.2.1⟩

set_option maxRecDepth 100000 in
set_option maxHeartbeats 3200000 in
theorem lawWaitWays {A : Option Addr} {n c : Nat} {bs : List Int} {w : World} (h : Bts w w.heap.size A n c bs) :
    Calls Try.prog 7 #[.slice A n c] w fun e w' => e = .returned (.bool true) ∧ Below w.heap.size w w' := by
  have hbig := h.big
  have hle := h.le
  unfold maxLen at hbig
  by_cases hn : 1048576 < n
  · go_enter Try.func7, Try.ntmps7
    go_wp2
    go_ret
    exact ⟨rfl, Below.refl _ _⟩
  · have hD := hide (DrawWaitWays_c A n c bs w h)
    obtain ⟨i0, hi, hz0, hz1, hz2⟩ := info_parts infoInt
    go_enter Try.func7, Try.ntmps7
    go_wp2_with fail
    refine hD.out.mono ?_
    rintro e w0 ⟨x, y, rfl, hlox, hhix, hloy, hhiy, hb⟩
    replace hb := hide hb
    clear hD
    have hwx := wf_i64 (z := x) (by omega)
    have hwy := wf_i64 (z := y) (by omega)
    go_wp2_with fail
    refine (waitWays_impl x y _ hwx hwy).mono ?_
    rintro e w1 ⟨rfl, hq⟩
    replace hb := hide (upB hb.out (hq))
    clear hq
    go_wp2_with fail
    refine (sameB (waitWays_spec x y _)).mono ?_
    rintro e w2 ⟨rfl, hq⟩
    replace hb := hide (upB hb.out (hq))
    clear hq
    by_cases hok : fallOk x y = true
    · obtain ⟨N, B, rfl, rfl, h7, h1, h6⟩ := fallOk_yes hok
      have F := fall_facts h7 h1 h6
      replace F := hide F
      have hfb := full_bound h7 h6
      obtain ⟨u0, u1, u2, u3, u4⟩ := hfb
      rw [waitW_in h7 h1 h6]
      have wb := F.out.wB
      clear F hok
      by_cases hN0 : N = 0
      · subst hN0
        rw [show waitN 0 B = 0 from rfl]
        go_wp2_with fail
        refine (alive_c _).mono ?_
        rintro e wz ⟨rfl, hq⟩
        go_wp2_with fail
        go_ret
        exact ⟨by simp, upB hb.out hq⟩
      · obtain ⟨q1, q2, q3, q4, q5, q6⟩ := wait_next h7 (by omega) h1 h6
        obtain ⟨W, hW⟩ : ∃ W : Int, Hid (waitN N B = W) := ⟨_, hide rfl⟩
        obtain ⟨F0, hF0⟩ : ∃ F0 : Int, Hid (fullW (N : Int) (B : Int) = F0) := ⟨_, hide rfl⟩
        obtain ⟨F1, hF1⟩ : ∃ F1 : Int, Hid (fullW ((N : Int) - 1) (B : Int) = F1) := ⟨_, hide rfl⟩
        obtain ⟨L, hL⟩ : ∃ L : Int, Hid (fullW ((N : Int) - 1) ((B : Int) - 1) = L) := ⟨_, hide rfl⟩
        rw [hW.out] at q1 q4 wb ⊢
        rw [hF0.out, hF1.out] at q1
        rw [hF1.out] at q2 q3
        rw [hL.out] at q4 q5 q6
        subst q1
        obtain ⟨wb0, wb1⟩ := wb
        obtain ⟨p0, p1⟩ := mul_bound (a := (B : Int)) (M := 6) (by omega) (by omega) (b := F1) (N := 2000000) q2 q3
        have hN1 : 1 ≤ N := by omega
        clear hN0
        by_cases hl : L < 0
        · clear q4
          go_wp2_with fail
          refine (fullWays_impl ((N : Int) - 1) ((B : Int) - 1) _ (wf_i64 (by omega)) (wf_i64 (by omega))).mono ?_
          rw [hL.out]
          rintro e w3 ⟨rfl, hq⟩
          replace hb := hide (upB hb.out (hq))
          clear hq
          go_wp2_with fail
          refine (fullWays_impl (N : Int) (B : Int) _ hwx hwy).mono ?_
          rw [hF0.out]
          rintro e w4 ⟨rfl, hq⟩
          replace hb := hide (upB hb.out (hq))
          clear hq
          go_wp2_with fail
          refine (fullWays_impl ((N : Int) - 1) (B : Int) _ (wf_i64 (by omega)) hwy).mono ?_
          rw [hF1.out]
          rintro e w5 ⟨rfl, hq⟩
          replace hb := hide (upB hb.out (hq))
          clear hq
          go_wp2_with fail
          refine (alive_c _).mono ?_
          rintro e wz ⟨rfl, hq⟩
          go_wp2_with fail
          go_ret
          exact ⟨by first | rfl | simp, upB hb.out hq⟩
        · have q4 := q4.resolve_left hl
          subst q4
          go_wp2_with fail
          refine (fullWays_impl ((N : Int) - 1) ((B : Int) - 1) _ (wf_i64 (by omega)) (wf_i64 (by omega))).mono ?_
          rw [hL.out]
          rintro e w6 ⟨rfl, hq⟩
          replace hb := hide (upB hb.out (hq))
          clear hq
          go_wp2_with fail
          refine (fullWays_impl (N : Int) (B : Int) _ hwx hwy).mono ?_
          rw [hF0.out]
          rintro e w7 ⟨rfl, hq⟩
          replace hb := hide (upB hb.out (hq))
          clear hq
          go_wp2_with fail
          refine (fullWays_impl ((N : Int) - 1) (B : Int) _ (wf_i64 (by omega)) hwy).mono ?_
          rw [hF1.out]
          rintro e w8 ⟨rfl, hq⟩
          replace hb := hide (upB hb.out (hq))
          clear hq
          go_wp2_with fail
          refine (alive_c _).mono ?_
          rintro e wz ⟨rfl, hq⟩
          go_wp2_with fail
          go_ret
          exact ⟨by first | rfl | simp, upB hb.out hq⟩
    · have hok : fallOk x y = false := by simpa using hok
      rw [waitW_out hok]
      clear hok
      go_wp2_with fail
      refine (alive_c _).mono ?_
      rintro e wz ⟨rfl, hq⟩
      go_wp2_with fail
      go_ret
      exact ⟨by simp, upB hb.out hq⟩
end Go.Proofs.Ytfencbfjnifmjaa
