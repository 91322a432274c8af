/-
  Laws of chapter 11 walked: FnPickTwice (written by wip/gen_a5.py).
-/
import Derived.Test.YtjkccfnbepbmbaaSampI
import Derived.Test.YtjkccfnbepbmbaaDrawCh11
import Derived.Test.YtjkccfnbepbmbaaZdraw
namespace Go.Proofs.Ytjkccfnbepbmbaa
open Go.RowKit
set_option linter.unusedVariables false

set_option maxRecDepth 100000 in
set_option maxHeartbeats 6400000 in
theorem lawPickTwice {A : Option Addr} {n c : Nat} {bs : List Int} {w : World} (h : Bts w w.heap.size A n c bs) :
    Calls Try.prog 8 #[.slice A n c] w fun e w' => e = .returned (.bool true) ∧ Below w.heap.size w w' := by
  have hbig := h.big
  have hle := h.le
  unfold maxLen at hbig
  by_cases hn : 1048576 < n
  · go_enter Try.func8, Try.ntmps8
    go_wp2
    go_ret
    exact ⟨rfl, Below.refl _ _⟩
  · have hD := hide (DrawPickWays_c A n c bs w h)
    obtain ⟨i0, hi, hz0, hz1, hz2⟩ := info_parts infoInt
    go_enter Try.func8, Try.ntmps8
    go_wp2_with fail
    refine hD.out.mono ?_
    rintro e w0 ⟨n, p, rfl, hlon, hhin, hlop, hhip, hb⟩
    replace hb := hide hb
    clear hD
    have hwn := wf_i64 (z := n) (by omega)
    have hwp := wf_i64 (z := p) (by omega)
    go_wp2_with fail
    refine (pickWays_impl n p _ hwn hwp).mono ?_
    rintro e w1 ⟨rfl, hq⟩
    replace hb := hide (upB hb.out (hq))
    clear hq
    by_cases hok : 0 ≤ n ∧ n ≤ 30 ∧ 0 ≤ p
    · have hv := hide (show pickW n p = chooseI n p by unfold pickW; rw [if_pos hok])
      have bV := chooseI_bound (n := n) (k := p) (by omega)
      obtain ⟨V, hV⟩ : ∃ V, Hid (chooseI n p = V) := ⟨_, hide rfl⟩
      rw [hV.out] at hv bV
      rw [hv.out]
      obtain ⟨v0, v1⟩ := bV
      obtain ⟨n0, n1, p0⟩ := hok
      by_cases hpn : n < p
      · skip
        go_wp2_with fail
        refine (sameB (pickWays_spec n p _)).mono ?_
        rw [hv.out]
        rintro e w2 ⟨rfl, hq⟩
        replace hb := hide (upB hb.out (hq))
        clear hq
        go_wp2_with fail
        refine (alive_c _).mono ?_
        rintro e wz ⟨rfl, hq⟩
        go_wp2_with fail
        go_ret
        exact ⟨by simp, upB hb.out hq⟩
      · by_cases hn20 : 20 < n
        · skip
          go_wp2_with fail
          refine (sameB (pickWays_spec n p _)).mono ?_
          rw [hv.out]
          rintro e w3 ⟨rfl, hq⟩
          replace hb := hide (upB hb.out (hq))
          clear hq
          go_wp2_with fail
          refine (alive_c _).mono ?_
          rintro e wz ⟨rfl, hq⟩
          go_wp2_with fail
          go_ret
          exact ⟨by simp, upB hb.out hq⟩
        ·
          have HK := hide (fun (k : Nat) (h : (k : Int) ≤ p) => show pickW p (k : Int) = chooseI p (k : Int) by unfold pickW; rw [if_pos (by omega)])
          have HN := hide (fun (k : Nat) => show pickW n (k : Int) = chooseI n (k : Int) by unfold pickW; rw [if_pos (by omega)])
          have HD := hide (fun (k : Nat) (h : (k : Int) ≤ p) => show pickW (n - (k : Int)) (p - (k : Int)) = chooseI (n - (k : Int)) (p - (k : Int)) by unfold pickW; rw [if_pos (by omega)])
          have HT := hide (fun (k : Nat) (h : (k : Int) ≤ p) => twice_facts (k := (k : Int)) n0 (show n ≤ 20 by omega) p0 (show p ≤ 8 by omega) (by omega) (by omega) h)
          have HB := hide (fun (x y : Int) (h : x ≤ 30) => chooseI_bound (n := x) (k := y) h)
          rw [hV.out] at HT
          obtain ⟨J, hJ⟩ : ∃ J : Nat, p + 1 = (J : Int) := ⟨(p + 1).toNat, by omega⟩
          go_wp2_with fail
          go_loopw [6] (fun i wr => ∃ k : Nat, k ≤ J ∧ i = .int .i64 (k : Int) ∧ Hid (Below w.heap.size w wr)) (fun i _ => J - (intOf i).toNat)
          case atStart => exact ⟨0, Nat.zero_le _, rfl, hb⟩
          case round =>
            clear hb
            obtain ⟨k, hk, rfl, hb⟩ := hrel
            by_cases hlt : k < J
            · have hkp : (k : Int) ≤ p := by omega
              have e := HT.out k hkp
              have bA := HB.out p (k : Int) (by omega)
              have bB := HB.out n (k : Int) (by omega)
              have bC := HB.out (n - (k : Int)) (p - (k : Int)) (by omega)
              have HKk := hide (HK.out k hkp)
              have HNk := hide (HN.out k)
              have HDk := hide (HD.out k hkp)
              obtain ⟨X, hX⟩ : ∃ X, Hid (chooseI p (k : Int) = X) := ⟨_, hide rfl⟩
              obtain ⟨Y, hY⟩ : ∃ Y, Hid (chooseI n (k : Int) = Y) := ⟨_, hide rfl⟩
              obtain ⟨Z, hZ⟩ : ∃ Z, Hid (chooseI (n - (k : Int)) (p - (k : Int)) = Z) := ⟨_, hide rfl⟩
              rw [hX.out] at e bA HKk
              rw [hY.out] at e bB HNk
              rw [hZ.out] at e bC HDk
              obtain ⟨a0, a1⟩ := bA
              obtain ⟨b0, b1⟩ := bB
              obtain ⟨c0, c1⟩ := bC
              obtain ⟨r0, r1⟩ := mul_bound v0 v1 a0 a1
              obtain ⟨r2, r3⟩ := mul_bound b0 b1 c0 c1
              have hne : (V * X != Y * Z) = false := by simp [e]
              clear e
              go_wp2_with fail
              refine (pickWays_impl (p) ((k : Int)) _ (wf_i64 (by omega)) (wf_i64 (by omega))).mono ?_
              rw [HKk.out]
              rintro e w4 ⟨rfl, hq⟩
              replace hb := hide (upB hb.out (hq))
              clear hq
              go_wp2_with fail
              refine (pickWays_impl (n) ((k : Int)) _ (wf_i64 (by omega)) (wf_i64 (by omega))).mono ?_
              rw [HNk.out]
              rintro e w5 ⟨rfl, hq⟩
              replace hb := hide (upB hb.out (hq))
              clear hq
              go_wp2_with fail
              refine (pickWays_impl (n - (k : Int)) (p - (k : Int)) _ (wf_i64 (by omega)) (wf_i64 (by omega))).mono ?_
              rw [HDk.out]
              rintro e w6 ⟨rfl, hq⟩
              replace hb := hide (upB hb.out (hq))
              clear hq
              go_wp2_with fail
              go_roundw
              case rel => exact ⟨k + 1, by omega, by go_num, hb⟩
              case measure => simp [intOf]; omega
            · have hkp : ¬ ((k : Int) ≤ p) := by omega
              go_wp2_with fail
              refine (alive_c _).mono ?_
              rintro e wz ⟨rfl, hq⟩
              go_wp2_with fail
              go_ret
              exact ⟨rfl, upB hb.out hq⟩
    · have hv := hide (show pickW n p = -1 by unfold pickW; rw [if_neg hok])
      rw [hv.out]
      clear hok
      go_wp2_with fail
      refine (sameB (pickWays_spec n p _)).mono ?_
      rw [hv.out]
      rintro e w7 ⟨rfl, hq⟩
      replace hb := hide (upB hb.out (hq))
      clear hq
      go_wp2_with fail
      refine (alive_c _).mono ?_
      rintro e wz ⟨rfl, hq⟩
      go_wp2_with fail
      go_ret
      exact ⟨by simp, upB hb.out hq⟩
end Go.Proofs.Ytjkccfnbepbmbaa
