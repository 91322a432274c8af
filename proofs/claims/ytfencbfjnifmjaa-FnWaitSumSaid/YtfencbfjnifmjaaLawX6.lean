/-
  Laws of chapter 8 walked: FnWaitSum (written by wip/gen_x3.py).
-/
import Derived.Test.YtfencbfjnifmjaaLawX1
namespace Go.Proofs.Ytfencbfjnifmjaa
open Go.RowKit
set_option linter.unusedVariables false

set_option maxRecDepth 100000 in
set_option maxHeartbeats 3200000 in
theorem lawWaitSum {A : Option Addr} {n c : Nat} {bs : List Int} {w : World} (h : Bts w w.heap.size A n c bs) :
    Calls Try.prog 8 #[.slice A n c] w fun e w' => e = .returned (.bool true) ∧ Below w.heap.size w w' := by
  have hbig := h.big
  have hle := h.le
  unfold maxLen at hbig
  by_cases hn : 1048576 < n
  · go_enter Try.func8, Try.ntmps8
    go_wp2
    go_ret
    exact ⟨rfl, Below.refl _ _⟩
  · have hD := hide (DrawWaitWays_c A n c bs w h)
    obtain ⟨i0, hi, hz0, hz1, hz2⟩ := info_parts infoInt
    go_enter Try.func8, Try.ntmps8
    go_wp2_with fail
    refine hD.out.mono ?_
    rintro e w0 ⟨x, y, rfl, hlox, hhix, hloy, hhiy, hb⟩
    replace hb := hide hb
    clear hD
    have hwx := wf_i64 (z := x) (by omega)
    have hwy := wf_i64 (z := y) (by omega)
    go_wp2_with fail
    refine (sameB (waitWays_spec x y _)).mono ?_
    rintro e w1 ⟨rfl, hq⟩
    replace hb := hide (upB hb.out (hq))
    clear hq
    by_cases hok : fallOk x y = true
    · obtain ⟨N, B, rfl, rfl, h7, h1, h6⟩ := fallOk_yes hok
      have F := fall_facts h7 h1 h6
      replace F := hide F
      have hfb := full_bound h7 h6
      obtain ⟨u0, u1, u2, u3, u4⟩ := hfb
      rw [waitW_in h7 h1 h6]
      have wb := F.out.wB
      have hsum := hide F.out.wSum
      have HSB := hide F.out.wsB
      have HPB := hide F.out.pwB
      have HW := hide (fun (k : Nat) (h : k ≤ N) => waitW_in (N := k) (B := B) (by omega) h1 h6)
      have HWB := hide (fun (k : Nat) (h : k ≤ N) => (fall_facts (N := k) (B := B) (by omega) h1 h6).wB)
      have HS := hide (fun (k : Nat) => show waitSum N B (k + 1) = waitSum N B k + waitN k B * ((B ^ (N - k) : Nat) : Int) from rfl)
      have HP := hide (fun (j : Nat) (hj : j ≤ 7) w => lawPowN_c B j w h6 hj)
      have hful := hide (fullW_in h7 h1 h6)
      clear F hok
      generalize waitN N B = W at wb
      obtain ⟨Z, hZ⟩ : ∃ Z : Int, Hid (fullN N B = Z) := ⟨_, hide rfl⟩
      rw [hZ.out] at hsum hful u0 u1
      obtain ⟨wb0, wb1⟩ := wb
      go_wp2_with fail
      go_loopw [5, 6] (fun t i wr => ∃ k : Nat, ∃ V : Int, k ≤ N + 1 ∧ i = .int .i64 k ∧ t = .int .i64 V ∧ Hid (V = waitSum N B k) ∧ Hid (Below w.heap.size w wr)) (fun _ i _ => N + 1 - (intOf i).toNat)
      case atStart => exact ⟨0, 0, Nat.zero_le _, rfl, rfl, hide rfl, hb⟩
      case round =>
        clear hb
        obtain ⟨k, V, hk, rfl, rfl, hV, hb⟩ := hrel
        by_cases hlt : k ≤ N
        · skip
          have hwk := wf_i64 (z := (k : Int)) (by omega)
          obtain ⟨j, hjN, hjI⟩ : ∃ j : Nat, j = N - k ∧ (N : Int) - (k : Int) = (j : Int) := ⟨N - k, rfl, by omega⟩
          have hj7 : j ≤ 7 := by omega
          have hWk := hide (HW.out k hlt)
          have hS := hide (HS.out k)
          obtain ⟨x0, x1⟩ := HWB.out k hlt
          have hpb := HPB.out k (by omega)
          obtain ⟨v0, v1⟩ := HSB.out k (by omega)
          obtain ⟨v2, v3⟩ := HSB.out (k + 1) (by omega)
          have HPj := hide (HP.out j hj7)
          rw [← hV.out] at hS v0 v1
          rw [← hjN] at hS hpb
          obtain ⟨X, hX⟩ : ∃ X : Int, Hid (waitN k B = X) := ⟨_, hide rfl⟩
          obtain ⟨P, hP⟩ : ∃ P : Nat, Hid (B ^ j = P) := ⟨_, hide rfl⟩
          rw [hX.out] at hWk hS x0 x1
          rw [hP.out] at hS hpb HPj
          obtain ⟨y0, y1⟩ := mul_bound x0 x1 (b := (P : Int)) (N := 279936) (by omega) (by omega)
          rw [hS.out] at v2 v3
          clear hjN
          go_wp2_with fail
          refine (waitWays_impl (k : Int) (B : Int) _ hwk hwy).mono ?_
          rw [hWk.out]
          rintro e w2 ⟨rfl, hq⟩
          replace hb := hide (upB hb.out (hq))
          clear hq
          go_wp2_with fail
          refine (sameB (HPj.out _)).mono ?_
          rintro e w3 ⟨rfl, hq⟩
          replace hb := hide (upB hb.out (hq))
          clear hq
          go_wp2_with fail
          go_roundw
          case rel => exact ⟨k + 1, _, by omega, by go_num, rfl, hide hS.out.symm, hb⟩
          case measure => simp [intOf]; omega
        · have hkN : k = N + 1 := by omega
          have hV2 : V = Z := by rw [hV.out, hkN, hsum.out]
          clear hV hsum HSB HPB HW HWB HS HP
          subst hV2
          go_wp2_with fail
          refine (fullWays_impl (N : Int) (B : Int) _ hwx hwy).mono ?_
          rw [hful.out]
          rintro e w4 ⟨rfl, hq⟩
          replace hb := hide (upB hb.out (hq))
          clear hq
          go_wp2_with fail
          refine (alive_c _).mono ?_
          rintro e wz ⟨rfl, hq⟩
          go_wp2_with fail
          go_ret
          exact ⟨by first | rfl | simp, upB hb.out hq⟩
    · have hok : fallOk x y = false := by simpa using hok
      rw [waitW_out hok]
      have he := hide (waitW_out hok)
      clear hok
      go_wp2_with fail
      refine (waitWays_impl x y _ hwx hwy).mono ?_
      rw [he.out]
      rintro e w5 ⟨rfl, hq⟩
      replace hb := hide (upB hb.out (hq))
      clear hq
      go_wp2_with fail
      refine (alive_c _).mono ?_
      rintro e wz ⟨rfl, hq⟩
      go_wp2_with fail
      go_ret
      exact ⟨by simp, upB hb.out hq⟩
end Go.Proofs.Ytfencbfjnifmjaa
