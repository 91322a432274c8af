/-
  Laws of chapter 8 walked: FnGroupsPower (written by wip/gen_x3.py).
-/
import Derived.Test.YtfencbfjnifmjaaLawX1
namespace Go.Proofs.Ytfencbfjnifmjaa
open Go.RowKit
set_option linter.unusedVariables false

set_option maxRecDepth 100000 in
set_option maxHeartbeats 3200000 in
theorem lawGroupsPower {A : Option Addr} {n c : Nat} {bs : List Int} {w : World} (h : Bts w w.heap.size A n c bs) :
    Calls Try.prog 9 #[.slice A n c] w fun e w' => e = .returned (.bool true) ∧ Below w.heap.size w w' := by
  have hbig := h.big
  have hle := h.le
  unfold maxLen at hbig
  by_cases hn : 1048576 < n
  · go_enter Try.func9, Try.ntmps9
    go_wp2
    go_ret
    exact ⟨rfl, Below.refl _ _⟩
  · have hD := hide (DrawApartWays_c A n c bs w h)
    obtain ⟨i0, hi, hz0, hz1, hz2⟩ := info_parts infoInt
    go_enter Try.func9, Try.ntmps9
    go_wp2_with fail
    refine hD.out.mono ?_
    rintro e w0 ⟨x, y, rfl, hlox, hhix, hloy, hhiy, hb⟩
    replace hb := hide hb
    clear hD
    have hwx := wf_i64 (z := x) (by omega)
    have hwy := wf_i64 (z := y) (by omega)
    go_wp2_with fail
    refine (sameB (apartWays_spec x y _)).mono ?_
    rintro e w1 ⟨rfl, hq⟩
    replace hb := hide (upB hb.out (hq))
    clear hq
    by_cases hok : fallOk x y = true
    · obtain ⟨N, B, rfl, rfl, h7, h1, h6⟩ := fallOk_yes hok
      have F := fall_facts h7 h1 h6
      replace F := hide F
      have hfb := full_bound h7 h6
      obtain ⟨u0, u1, u2, u3, u4⟩ := hfb
      have hap := hide (apartW_in h7 h1 h6)
      rw [apartW_in h7 h1 h6]
      by_cases h66 : N ≤ 6
      · have hsum := hide (F.out.gSum h66)
        have HSB := hide (F.out.gsB h66)
        have HG := hide (fun (k : Nat) (h : k ≤ N) => groupsW_in (N := N) (K := k) h7 (by omega))
        have HGB := hide (fun (k : Nat) (h : k ≤ N) => (full_bound (N := N) (B := k) h7 (by omega)).2.2.2.1)
        have HA := hide (fun (k : Nat) (h : k ≤ N) => apartW_in (N := k) (B := B) (by omega) h1 h6)
        have HAB := hide (fun (k : Nat) (h : k ≤ N) => (full_bound (N := k) (B := B) (by omega) h6).2.2.1)
        have HS := hide (fun (k : Nat) => show groupSum N B (k + 1) = groupSum N B k + (groupsN N k : Int) * (fallN B k : Int) from rfl)
        have HP := hide (fun w => lawPowN_c B N w h6 h7)
        clear F hok hap u0 u1
        generalize fallN B N = Y
        obtain ⟨P, hP⟩ : ∃ P : Nat, Hid (B ^ N = P) := ⟨_, hide rfl⟩
        rw [hP.out] at hsum HP u4
        go_wp2_with fail
        go_loopw [5, 6] (fun t i wr => ∃ k : Nat, ∃ V : Int, k ≤ N + 1 ∧ i = .int .i64 k ∧ t = .int .i64 V ∧ Hid (V = groupSum N B k) ∧ Hid (Below w.heap.size w wr)) (fun _ i _ => N + 1 - (intOf i).toNat)
        case atStart => exact ⟨0, 0, Nat.zero_le _, rfl, rfl, hide rfl, hb⟩
        case round =>
          clear hb
          obtain ⟨k, V, hk, rfl, rfl, hV, hb⟩ := hrel
          by_cases hlt : k ≤ N
          · skip
            have hwk := wf_i64 (z := (k : Int)) (by omega)
            have hGk := hide (HG.out k hlt)
            have hAk := hide (HA.out k hlt)
            have hS := hide (HS.out k)
            have gb := HGB.out k hlt
            have ab := HAB.out k hlt
            obtain ⟨v0, v1⟩ := HSB.out k (by omega)
            obtain ⟨v2, v3⟩ := HSB.out (k + 1) (by omega)
            rw [← hV.out] at hS v0 v1
            obtain ⟨X, hX⟩ : ∃ X : Nat, Hid (groupsN N k = X) := ⟨_, hide rfl⟩
            obtain ⟨Q, hQ⟩ : ∃ Q : Nat, Hid (fallN B k = Q) := ⟨_, hide rfl⟩
            rw [hX.out] at hGk hS gb
            rw [hQ.out] at hAk hS ab
            obtain ⟨y0, y1⟩ := mul_bound (a := (X : Int)) (M := 2000) (by omega) (by omega) (b := (Q : Int)) (N := 300000) (by omega) (by omega)
            rw [hS.out] at v2 v3
            go_wp2_with fail
            refine (groupsOf_impl (N : Int) (k : Int) _ hwx hwk).mono ?_
            rw [hGk.out]
            rintro e w2 ⟨rfl, hq⟩
            replace hb := hide (upB hb.out (hq))
            clear hq
            go_wp2_with fail
            refine (apartWays_impl (k : Int) (B : Int) _ hwk hwy).mono ?_
            rw [hAk.out]
            rintro e w3 ⟨rfl, hq⟩
            replace hb := hide (upB hb.out (hq))
            clear hq
            go_wp2_with fail
            go_roundw
            case rel => exact ⟨k + 1, _, by omega, by go_num, rfl, hide hS.out.symm, hb⟩
            case measure => simp [intOf]; omega
          · have hkN : k = N + 1 := by omega
            have hV2 : V = (P : Int) := by rw [hV.out, hkN, hsum.out]
            clear hV hsum HSB HG HGB HA HAB HS
            subst hV2
            go_wp2_with fail
            refine (sameB (HP.out _)).mono ?_
            rintro e w4 ⟨rfl, hq⟩
            replace hb := hide (upB hb.out (hq))
            clear hq
            go_wp2_with fail
            refine (alive_c _).mono ?_
            rintro e wz ⟨rfl, hq⟩
            go_wp2_with fail
            go_ret
            exact ⟨by first | rfl | simp, upB hb.out hq⟩
      · have h77 : 6 < (N : Int) := by omega
        clear F hok
        obtain ⟨Y, hY⟩ : ∃ Y : Nat, Hid (fallN B N = Y) := ⟨_, hide rfl⟩
        rw [hY.out] at hap u2 ⊢
        go_wp2_with fail
        refine (apartWays_impl (N : Int) (B : Int) _ hwx hwy).mono ?_
        rw [hap.out]
        rintro e w5 ⟨rfl, hq⟩
        replace hb := hide (upB hb.out (hq))
        clear hq
        go_wp2_with fail
        refine (alive_c _).mono ?_
        rintro e wz ⟨rfl, hq⟩
        go_wp2_with fail
        go_ret
        exact ⟨by first | rfl | simp, upB hb.out hq⟩
    · have hok : fallOk x y = false := by simpa using hok
      rw [apartW_out hok]
      have he := hide (apartW_out hok)
      clear hok
      go_wp2_with fail
      refine (apartWays_impl x y _ hwx hwy).mono ?_
      rw [he.out]
      rintro e w6 ⟨rfl, hq⟩
      replace hb := hide (upB hb.out (hq))
      clear hq
      go_wp2_with fail
      refine (alive_c _).mono ?_
      rintro e wz ⟨rfl, hq⟩
      go_wp2_with fail
      go_ret
      exact ⟨by simp, upB hb.out hq⟩
end Go.Proofs.Ytfencbfjnifmjaa
