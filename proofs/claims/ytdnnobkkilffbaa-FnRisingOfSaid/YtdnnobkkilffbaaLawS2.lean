/-
  Laws of chapter 5 walked: FnRisingOf (written by wip/gen_s1.py).
-/
import Derived.Test.YtdnnobkkilffbaaLawS1
namespace Go.Proofs.Ytdnnobkkilffbaa
open Go.RowKit
set_option linter.unusedVariables false

set_option maxHeartbeats 3200000 in
theorem lawRisingOf {A : Option Addr} {n c : Nat} {bs : List Int} {w : World} (h : Bts w w.heap.size A n c bs) :
    Calls Try.prog 8 #[.slice A n c] w fun e w' => e = .returned (.bool true) ∧ Below w.heap.size w w' := by
  have hbig := h.big
  have hle := h.le
  unfold maxLen at hbig
  by_cases hn : 1048576 < n
  · go_enter Try.func8, Try.ntmps8
    go_wp2
    go_ret
    exact ⟨rfl, Below.refl _ _⟩
  · have hD := hide (DrawRisingOf_c A n c bs w h)
    obtain ⟨i0, hi, hz0, hz1, hz2⟩ := info_parts infoInt
    go_enter Try.func8, Try.ntmps8
    go_wp2_with fail
    refine hD.out.mono ?_
    rintro e w0 ⟨z, m, s, rfl, hloz, hhiz, hlom, hhim, hlos, hhis, hb⟩
    replace hb := hide hb
    clear hD
    have hwz := wf_i64 (z := z) (by omega)
    have hwm := wf_i64 (z := m) (by omega)
    have hws := wf_i64 (z := s) (by omega)
    go_wp2_with fail
    refine (risingOf_impl z m s _ hwz hwm hws).mono ?_
    rintro e w1 ⟨rfl, hq⟩
    replace hb := hide (upB hb.out (hq))
    clear hq
    go_wp2_with fail
    refine (sameB (risingOf_spec z m s _)).mono ?_
    rintro e w2 ⟨rfl, hq⟩
    replace hb := hide (upB hb.out (hq))
    clear hq
    by_cases hok : (decide (0 ≤ z ∧ z ≤ 40) && decide (0 ≤ m ∧ m ≤ 6) && stepB s) = true
    · have he : risingOf z m s = ris s z m.toNat := by unfold risingOf; rw [if_pos hok]
      obtain ⟨hok2, hs⟩ := Bool.and_eq_true_iff.1 hok
      obtain ⟨hz, hm⟩ := Bool.and_eq_true_iff.1 hok2
      obtain ⟨z0, z1⟩ := of_decide_eq_true hz
      obtain ⟨m0, m6⟩ := of_decide_eq_true hm
      obtain ⟨s0, s1⟩ := stepB_yes hs
      obtain ⟨mm, rfl⟩ : ∃ mm : Nat, m = (mm : Int) := ⟨m.toNat, by omega⟩
      obtain ⟨H, hH, hH2⟩ : ∃ H : Nat, Hid ((mm : Int) / 2 = (H : Int)) ∧ H ≤ mm := ⟨mm / 2, hide (by omega), by omega⟩
      obtain ⟨R, hR⟩ : ∃ R : Nat, mm = H + R := ⟨mm - H, by omega⟩
      rw [Int.toNat_natCast] at he
      obtain ⟨b0, b1⟩ := ris_bound (s := s) (z := z) (m := mm) s1 z1 (by omega)
      obtain ⟨c0, c1⟩ := ris_bound (s := s) (z := z) (m := H) s1 z1 (by omega)
      have hHs : -6 ≤ (H : Int) * s ∧ (H : Int) * s ≤ 24 := by
        have a := mul_bound (a := (H : Int)) (M := 6) (by omega) (by omega) (b := s + 1) (N := 4) (by omega) (by omega)
        rw [Int.mul_add] at a
        omega
      have hadd := hide (show ris s z mm = ris s z H * ris s (z + (H : Int) * s) R by rw [hR, ris_add])
      have hhalf := hide (show risingOf z (H : Int) s = ris s z H by
        unfold risingOf
        rw [hz, hs, decide_eq_true (show 0 ≤ (H : Int) ∧ (H : Int) ≤ 6 by omega)]; rfl)
      have hzero := hide (show risingOf z (mm : Int) 0 = z ^ mm by
        unfold risingOf
        rw [hz, hm, stepB_mk (show -1 ≤ (0 : Int) ∧ (0 : Int) ≤ 3 by omega), ← ris_pow z0]; rfl)
      have hrest := hide (show risingOf (z + (H : Int) * s) ((mm : Int) - (H : Int)) s = -1 ∨ risingOf (z + (H : Int) * s) ((mm : Int) - (H : Int)) s = ris s (z + (H : Int) * s) R by
        have e : ((mm : Int) - (H : Int)) = (R : Int) := by omega
        rw [e]
        unfold risingOf
        by_cases h : (decide (0 ≤ z + (H : Int) * s ∧ z + (H : Int) * s ≤ 40) && decide (0 ≤ (R : Int) ∧ (R : Int) ≤ 6) && stepB s) = true
        · rw [if_pos h]; exact .inr rfl
        · rw [if_neg h]; exact .inl rfl)
      have hr0 := ris_nonneg s (z + (H : Int) * s) R
      have hPW := hide (fun w => lawPowI_c z mm w z0 z1 (by omega))
      have hwl := wf_i64 (z := z + (H : Int) * s) (by omega)
      have hwr := wf_i64 (z := (mm : Int) - (H : Int)) (by omega)
      have hwh := wf_i64 (z := (H : Int)) (by omega)
      have hw0 := wf_i64 (z := 0) (by omega)
      rw [he]
      obtain ⟨V, hV⟩ : ∃ V, Hid (ris s z mm = V) := ⟨_, hide rfl⟩
      obtain ⟨Q, hQ⟩ : ∃ Q, Hid (ris s z H = Q) := ⟨_, hide rfl⟩
      obtain ⟨K, hK⟩ : ∃ K, Hid (z ^ mm = K) := ⟨_, hide rfl⟩
      obtain ⟨S, hS⟩ : ∃ S, Hid (ris s (z + (H : Int) * s) R = S) := ⟨_, hide rfl⟩
      obtain ⟨U, hU⟩ : ∃ U, Hid (risingOf (z + (H : Int) * s) ((mm : Int) - (H : Int)) s = U) := ⟨_, hide rfl⟩
      rw [hV.out] at b0 b1 hadd ⊢
      rw [hQ.out] at c0 c1 hadd hhalf
      rw [hK.out] at hzero hPW
      rw [hS.out] at hadd hrest hr0
      rw [hU.out] at hrest
      clear he hok hok2 hz hm hs hR
      have hv1 := hide (IntWalk.wrap64_in ((H : Int) * s) (by omega))
      have hv2 := hide (IntWalk.wrap64_in (z + (H : Int) * s) (by omega))
      go_wp2_with fail
      rw [hH.out, hv1.out, hv2.out]
      refine (risingOf_impl (z + (H : Int) * s) ((mm : Int) - (H : Int)) s _ hwl hwr hws).mono ?_
      rw [hU.out]
      rintro e w3 ⟨rfl, hq⟩
      replace hb := hide (upB hb.out (hq))
      clear hq
      rcases hrest.out with hr | hr
      · rw [hr]
        clear hrest hadd hr
        go_wp2_with fail
        refine (risingOf_impl z (mm : Int) 0 _ hwz hwm hw0).mono ?_
        rw [hzero.out]
        rintro e w4 ⟨rfl, hq⟩
        replace hb := hide (upB hb.out (hq))
        clear hq
        go_wp2_with (go_at_call 15; refine (hPW.out _).mono ?_; rintro e w' ⟨rfl, rfl⟩)
        go_ret
        exact ⟨by simp, hb.out⟩
      · rw [hr]
        have hadd := hadd.out
        have hd : decide (S < 0) = false := decide_eq_false (by omega)
        clear hrest hr
        go_wp2_with fail
        refine (risingOf_impl z (H : Int) s _ hwz hwh hws).mono ?_
        rw [hhalf.out]
        rintro e w5 ⟨rfl, hq⟩
        replace hb := hide (upB hb.out (hq))
        clear hq
        have hQS : 0 ≤ Q * S ∧ Q * S ≤ 38068692544 := by rw [← hadd]; exact ⟨b0, b1⟩
        obtain ⟨qs0, qs1⟩ := hQS
        have hd2 : (Q * S == V) = true := by rw [hadd]; simp
        replace hadd := hide hadd
        go_wp2_with fail
        refine (risingOf_impl z (mm : Int) 0 _ hwz hwm hw0).mono ?_
        rw [hzero.out]
        rintro e w6 ⟨rfl, hq⟩
        replace hb := hide (upB hb.out (hq))
        clear hq
        go_wp2_with (go_at_call 15; refine (hPW.out _).mono ?_; rintro e w' ⟨rfl, rfl⟩)
        go_ret
        exact ⟨by simp, hb.out⟩
    · have he : risingOf z m s = -1 := by unfold risingOf; rw [if_neg hok]
      rw [he]
      clear he hok
      go_wp2_with fail
      refine (alive_c _).mono ?_
      rintro e wz ⟨rfl, hq⟩
      go_wp2_with fail
      go_ret
      exact ⟨by simp, upB hb.out hq⟩
end Go.Proofs.Ytdnnobkkilffbaa
