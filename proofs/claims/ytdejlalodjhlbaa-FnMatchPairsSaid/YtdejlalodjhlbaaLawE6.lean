/-
  Laws of chapter 13 walked: FnMatchPairs (written by wip/gen_b6.py).
-/
import Derived.Test.YtdejlalodjhlbaaPowI
import Derived.Test.YtdejlalodjhlbaaHatI
import Derived.Test.YtdejlalodjhlbaaPlainAG
import Derived.Test.YtdejlalodjhlbaaDrawHat
import Derived.Test.YtdejlalodjhlbaaLawX1
import Derived.Test.YtdejlalodjhlbaaZdraw
namespace Go.Proofs.Ytdejlalodjhlbaa
open Go.RowKit
set_option linter.unusedVariables false

set_option maxRecDepth 100000 in
set_option maxHeartbeats 6400000 in
theorem lawMatchPairs {A : Option Addr} {n c : Nat} {bs : List Int} {w : World} (h : Bts w w.heap.size A n c bs) :
    Calls Try.prog 8 #[.slice A n c] w fun e w' => e = .returned (.bool true) ∧ Below w.heap.size w w' := by
  have hbig := h.big
  have hle := h.le
  unfold maxLen at hbig
  by_cases hn : 1048576 < n
  · go_enter Try.func8, Try.ntmps8
    go_wp2
    go_ret
    exact ⟨rfl, Below.refl _ _⟩
  · have hD := hide (DrawMatchOrders_c A n c bs w h)
    obtain ⟨i0, hi, hz0, hz1, hz2⟩ := info_parts infoInt
    go_enter Try.func8, Try.ntmps8
    go_wp2_with fail
    refine hD.out.mono ?_
    rintro e w0 ⟨h, m, rfl, hloh, hhih, hlom, hhim, hb⟩
    replace hb := hide hb
    clear hD
    have hwh := wf_i64 (z := h) (by omega)
    have hwm := wf_i64 (z := m) (by omega)
    go_wp2_with fail
    refine (sameB (matchOrders_spec h m _)).mono ?_
    rintro e w1 ⟨rfl, hq⟩
    replace hb := hide (upB hb.out (hq))
    clear hq
    have hbd : -1 ≤ matOrd h m := by
      unfold matOrd
      split
      · exact Int.le_trans (by decide) (Int.mul_nonneg (chooseI_bound (n := h) (k := m) (by omega)).1 (Int.natCast_nonneg _))
      · exact Int.le_refl _
    by_cases hok : 0 ≤ h ∧ h ≤ 6 ∧ 0 ≤ m ∧ m ≤ h ∧ 2 ≤ h
    ·
      obtain ⟨H, rfl⟩ : ∃ H : Nat, h = (H : Int) := ⟨h.toNat, by omega⟩
      have hH6 : H ≤ 6 := by omega
      obtain ⟨x1, x2, x3⟩ := fac_eq hH6
      obtain ⟨f1, f2, f3, f4, f5, f6⟩ := mo_facts hH6
      obtain ⟨FF, hFF⟩ : ∃ F, Hid (facH H = F) := ⟨_, hide rfl⟩
      rw [hFF.out] at x1 x2 x3 f1 f2 f3
      replace x1 := hide x1
      have hge : 0 ≤ matOrd (H : Int) m := by
        obtain ⟨M, rfl⟩ : ∃ M : Nat, m = (M : Int) := ⟨m.toNat, by omega⟩
        exact (f6 M (by omega)).1.1
      obtain ⟨V, hV⟩ : ∃ V, Hid (matOrd (H : Int) m = V) := ⟨_, hide rfl⟩
      rw [hV.out] at hge ⊢
      replace f3 := hide (f3 (by omega))
      have HB := hide f6
      have h2H : 2 ≤ H := by omega
      clear f1 f2 f4 f5 f6 hok hbd
      go_wp2_with fail
      go_loopw [5, 6] (fun s i wr => ∃ k : Nat, ∃ S : Int, k ≤ H + 1 ∧ i = .int .i64 (k : Int) ∧ s = .int .i64 S ∧ Hid (S = moP H k) ∧ Hid (Below w.heap.size w wr)) (fun _ i _ => H + 1 - (intOf i).toNat)
      case atStart => exact ⟨0, 0, Nat.zero_le _, rfl, rfl, hide rfl, hb⟩
      case round =>
        clear hb
        obtain ⟨k, S, hk, rfl, rfl, hS, hb⟩ := hrel
        by_cases hlt : k ≤ H
        ·
          obtain ⟨⟨m0, m1⟩, _, _, _, _, b0, b1⟩ := HB.out k hlt
          rw [← hS.out] at b0 b1
          have hwk := wf_i64 (z := (k : Int)) (by omega)
          have hwH := wf_i64 (z := (H : Int)) (by omega)
          have hS2 := hide (show S + (k : Int) * ((k : Int) - 1) * matOrd (H : Int) (k : Int) = moP H (k + 1) by rw [hS.out]; rfl)
          obtain ⟨W, hW⟩ : ∃ W, Hid (matOrd (H : Int) (k : Int) = W) := ⟨_, hide rfl⟩
          rw [hW.out] at m0 m1 hS2
          have hkk : -6 ≤ (k : Int) * ((k : Int) - 1) ∧ (k : Int) * ((k : Int) - 1) ≤ 36 := by
            rcases (show k = 0 ∨ k = 1 ∨ k = 2 ∨ k = 3 ∨ k = 4 ∨ k = 5 ∨ k = 6 by omega) with rfl | rfl | rfl | rfl | rfl | rfl | rfl <;> decide
          obtain ⟨k0, k1⟩ := hkk
          obtain ⟨q0, q1⟩ := mul_abs (a := (k : Int) * ((k : Int) - 1)) (M := 36) (by omega) k1 (b := W) (N := 1000) (by omega) m1
          go_wp2_with fail
          refine (matchOrders_impl (H : Int) (k : Int) _ hwH hwk).mono ?_
          rw [hW.out]
          rintro e w2 ⟨rfl, hq⟩
          replace hb := hide (upB hb.out (hq))
          clear hq
          go_wp2_with fail
          go_roundw
          case rel => exact ⟨k + 1, _, by omega, by go_num, rfl, hS2, hb⟩
          case measure => simp [intOf] <;> omega
        · have hkH : k = H + 1 := by omega
          have hSf : S = (FF : Int) := by rw [hS.out, hkH]; exact f3.out
          clear hkH hS
          subst hSf
          go_wp2_with fail
          refine (alive_c _).mono ?_
          rintro e wz ⟨rfl, hq⟩
          replace hb := hide (upB hb.out hq)
          clear hq
          go_wp2_with fail
          refine (sameB (lawFact_c H _ hH6)).mono ?_
          rw [x1.out]
          rintro e w3 ⟨rfl, hq⟩
          replace hb := hide (upB hb.out (hq))
          clear hq
          go_wp2_with fail
          go_ret
          exact ⟨by simp, hb.out⟩
    ·
      have hcond : matOrd h m < 0 ∨ h < 2 := by
        by_cases h2 : h < 2
        · exact .inr h2
        · refine .inl ?_
          unfold matOrd
          rw [if_neg (by omega)]
          decide
      obtain ⟨V, hV⟩ : ∃ V, Hid (matOrd h m = V) := ⟨_, hide rfl⟩
      rw [hV.out] at hbd hcond ⊢
      clear hok
      by_cases hv : V < 0
      ·
        go_wp2_with fail
        refine (matchOrders_impl h m _ hwh hwm).mono ?_
        rw [hV.out]
        rintro e w4 ⟨rfl, hq⟩
        replace hb := hide (upB hb.out (hq))
        clear hq
        go_wp2_with fail
        refine (alive_c _).mono ?_
        rintro e wz ⟨rfl, hq⟩
        go_wp2_with fail
        go_ret
        exact ⟨by simp <;> omega, upB hb.out hq⟩
      · have h2 : h < 2 := by omega
        go_wp2_with fail
        refine (matchOrders_impl h m _ hwh hwm).mono ?_
        rw [hV.out]
        rintro e w5 ⟨rfl, hq⟩
        replace hb := hide (upB hb.out (hq))
        clear hq
        go_wp2_with fail
        refine (alive_c _).mono ?_
        rintro e wz ⟨rfl, hq⟩
        go_wp2_with fail
        go_ret
        exact ⟨by simp <;> omega, upB hb.out hq⟩
end Go.Proofs.Ytdejlalodjhlbaa
