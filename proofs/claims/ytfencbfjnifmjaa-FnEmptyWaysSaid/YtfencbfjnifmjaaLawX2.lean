/-
  Laws of chapter 8 walked: FnEmptyWays (written by wip/gen_x2.py).
-/
import Derived.Test.YtfencbfjnifmjaaLawX1
namespace Go.Proofs.Ytfencbfjnifmjaa
open Go.RowKit
set_option linter.unusedVariables false

set_option maxRecDepth 100000 in
set_option maxHeartbeats 3200000 in
theorem lawEmptyWays {A : Option Addr} {n c : Nat} {bs : List Int} {w : World} (h : Bts w w.heap.size A n c bs) :
    Calls Try.prog 4 #[.slice A n c] w fun e w' => e = .returned (.bool true) ∧ Below w.heap.size w w' := by
  have hbig := h.big
  have hle := h.le
  unfold maxLen at hbig
  by_cases hn : 1048576 < n
  · go_enter Try.func4, Try.ntmps4
    go_wp2
    go_ret
    exact ⟨rfl, Below.refl _ _⟩
  · have hD := hide (DrawEmptyWays_c A n c bs w h)
    obtain ⟨i0, hi, hz0, hz1, hz2⟩ := info_parts infoInt
    go_enter Try.func4, Try.ntmps4
    go_wp2_with fail
    refine hD.out.mono ?_
    rintro e w0 ⟨x, y, z, rfl, hlox, hhix, hloy, hhiy, hloz, hhiz, hb⟩
    replace hb := hide hb
    clear hD
    have hwx := wf_i64 (z := x) (by omega)
    have hwy := wf_i64 (z := y) (by omega)
    have hwz := wf_i64 (z := z) (by omega)
    go_wp2_with fail
    refine (emptyWays_impl x y z _ hwx hwy hwz).mono ?_
    rintro e w1 ⟨rfl, hq⟩
    replace hb := hide (upB hb.out (hq))
    clear hq
    go_wp2_with fail
    refine (sameB (emptyWays_spec x y z _)).mono ?_
    rintro e w2 ⟨rfl, hq⟩
    replace hb := hide (upB hb.out (hq))
    clear hq
    by_cases hall : emptyOk x y z = true
    · obtain ⟨hok, hz⟩ := Bool.and_eq_true_iff.1 hall
      have hz := of_decide_eq_true hz
      obtain ⟨N, B, rfl, rfl, h7, h1, h6⟩ := fallOk_yes hok
      have F := fall_facts h7 h1 h6
      replace F := hide F
      have hfb := full_bound h7 h6
      obtain ⟨u0, u1, u2, u3, u4⟩ := hfb
      obtain ⟨E, rfl⟩ : ∃ E : Nat, z = (E : Int) := ⟨z.toNat, by omega⟩
      have hEB : E ≤ B := by omega
      rw [emptyW_in h7 h1 h6 hEB]
      have e0 := (F.out.eB E (by omega)).1
      have hsum := hide F.out.eSum
      have hmean := hide F.out.eMean
      have HE := hide (fun (k : Nat) (h : k ≤ B + 1) => F.out.eB k h)
      have HW := hide (fun (k : Nat) (h : k ≤ B) => emptyW_in h7 h1 h6 h)
      have HS := hide (fun (k : Nat) => show emptySum N B (k + 1) = emptySum N B k + emptyN N B k from rfl)
      have HM := hide (fun (k : Nat) => show emptyMean N B (k + 1) = emptyMean N B k + (k : Int) * emptyN N B k from rfl)
      have HP := hide (fun w => lawPowN_c B N w h6 h7)
      have hpb := pow_box (b := B - 1) (m := N) (by omega) h7
      have HQ := hide (fun w => lawPowN_c (B - 1) N w (by omega) h7)
      rw [Int.natCast_sub h1] at HQ
      obtain ⟨P, hP⟩ : ∃ P : Nat, Hid (B ^ N = P) := ⟨_, hide rfl⟩
      obtain ⟨Q, hQ⟩ : ∃ Q : Nat, Hid ((B - 1) ^ N = Q) := ⟨_, hide rfl⟩
      rw [hP.out] at HP hsum u4
      rw [hQ.out] at HQ hmean hpb
      obtain ⟨q0, q1⟩ := mul_bound (a := (B : Int)) (M := 6) (by omega) (by omega) (b := (Q : Int)) (N := 279936) (by omega) (by omega)
      clear F hok hall hz u0 u1 u2 u3
      generalize emptyN N B E = X at e0
      go_wp2_with fail
      go_loopw [7, 8, 9] (fun t u i wr => ∃ k : Nat, ∃ V U : Int, k ≤ B + 1 ∧ i = .int .i64 k ∧ t = .int .i64 V ∧ u = .int .i64 U ∧ Hid (V = emptySum N B k) ∧ Hid (U = emptyMean N B k) ∧ Hid (Below w.heap.size w wr)) (fun _ _ i _ => B + 1 - (intOf i).toNat)
      case atStart => exact ⟨0, 0, 0, Nat.zero_le _, rfl, rfl, rfl, hide rfl, hide rfl, hb⟩
      case round =>
        clear hb
        obtain ⟨k, V, U, hk, rfl, rfl, rfl, hV, hU, hb⟩ := hrel
        by_cases hlt : k ≤ B
        · have hwk := wf_i64 (z := (k : Int)) (by omega)
          have hEW := hide (HW.out k hlt)
          have hS := hide (HS.out k)
          have hM := hide (HM.out k)
          rw [← hV.out] at hS
          rw [← hU.out] at hM
          obtain ⟨x0, x1, v0, v1, m0, m1⟩ := HE.out k (by omega)
          rw [← hV.out] at v0 v1
          rw [← hU.out] at m0 m1
          obtain ⟨X1, hX1⟩ : ∃ X1 : Int, Hid (emptyN N B k = X1) := ⟨_, hide rfl⟩
          rw [hX1.out] at hEW hS hM x0 x1
          obtain ⟨y0, y1⟩ := mul_bound (a := (k : Int)) (M := 6) (by omega) (by omega) (b := X1) (N := 2000000) x0 x1
          go_wp2_with fail
          refine (emptyWays_impl (N : Int) (B : Int) (k : Int) _ hwx hwy hwk).mono ?_
          rw [hEW.out]
          rintro e wn ⟨rfl, hq⟩
          have hb2 := hide (upB hb.out hq)
          clear hb hq
          go_wp2_with fail
          go_roundw
          case rel => exact ⟨k + 1, _, _, by omega, by go_num, rfl, rfl, hide hS.out.symm, hide hM.out.symm, hb2⟩
          case measure => simp [intOf]; omega
        · have hkB : k = B + 1 := by omega
          have hV2 : V = (P : Int) := by rw [hV.out, hkB, hsum.out]
          have hU2 : U = (B : Int) * (Q : Int) := by rw [hU.out, hkB, hmean.out]
          clear hV hU hsum hmean HE HW HS HM
          subst hV2
          subst hU2
          go_wp2_with fail
          refine (sameB (HP.out _)).mono ?_
          rintro e wn ⟨rfl, hq⟩
          replace hb := hide (upB hb.out hq)
          clear hq
          go_wp2_with fail
          refine (sameB (HQ.out _)).mono ?_
          rintro e wm ⟨rfl, hq⟩
          replace hb := hide (upB hb.out hq)
          clear hq
          go_wp2_with fail
          go_ret
          exact ⟨by first | rfl | simp, hb.out⟩
    · have hall : emptyOk x y z = false := by simpa using hall
      rw [emptyW_out hall]
      clear hall
      go_wp2_with fail
      refine (alive_c _).mono ?_
      rintro e wz ⟨rfl, hq⟩
      go_wp2_with fail
      go_ret
      exact ⟨by simp, upB hb.out hq⟩
end Go.Proofs.Ytfencbfjnifmjaa
