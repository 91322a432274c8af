/-
  Laws of chapter 13 walked: FnMatchOrders (written by wip/gen_b6.py).
-/
import Derived.Test.YtdejlalodjhlbaaHatI
import Derived.Test.YtdejlalodjhlbaaPlainAG
import Derived.Test.YtdejlalodjhlbaaDrawHat
import Derived.Test.YtdejlalodjhlbaaLawX1
import Derived.Test.YtdejlalodjhlbaaZdraw
namespace Go.Proofs.Ytdejlalodjhlbaa
open Go.RowKit
set_option linter.unusedVariables false

set_option maxRecDepth 100000 in
set_option maxHeartbeats 6400000 in
theorem lawMatchOrders {A : Option Addr} {n c : Nat} {bs : List Int} {w : World} (h : Bts w w.heap.size A n c bs) :
    Calls Try.prog 6 #[.slice A n c] w fun e w' => e = .returned (.bool true) ∧ Below w.heap.size w w' := by
  have hbig := h.big
  have hle := h.le
  unfold maxLen at hbig
  by_cases hn : 1048576 < n
  · go_enter Try.func6, Try.ntmps6
    go_wp2
    go_ret
    exact ⟨rfl, Below.refl _ _⟩
  · have hD := hide (DrawMatchOrders_c A n c bs w h)
    obtain ⟨i0, hi, hz0, hz1, hz2⟩ := info_parts infoInt
    go_enter Try.func6, Try.ntmps6
    go_wp2_with fail
    refine hD.out.mono ?_
    rintro e w0 ⟨h, m, rfl, hloh, hhih, hlom, hhim, hb⟩
    replace hb := hide hb
    clear hD
    have hwh := wf_i64 (z := h) (by omega)
    have hwm := wf_i64 (z := m) (by omega)
    go_wp2_with fail
    refine (matchOrders_impl h m _ hwh hwm).mono ?_
    rintro e w1 ⟨rfl, hq⟩
    replace hb := hide (upB hb.out (hq))
    clear hq
    go_wp2_with fail
    refine (sameB (matchOrders_spec h m _)).mono ?_
    rintro e w2 ⟨rfl, hq⟩
    replace hb := hide (upB hb.out (hq))
    clear hq
    by_cases hok : 0 ≤ h ∧ h ≤ 6 ∧ 0 ≤ m ∧ m ≤ h
    ·
      obtain ⟨H, rfl⟩ : ∃ H : Nat, h = (H : Int) := ⟨h.toNat, by omega⟩
      have hH6 : H ≤ 6 := by omega
      obtain ⟨x1, x2, x3⟩ := fac_eq hH6
      obtain ⟨f1, f2, f3, f4, f5, f6⟩ := mo_facts hH6
      obtain ⟨FF, hFF⟩ : ∃ F, Hid (facH H = F) := ⟨_, hide rfl⟩
      rw [hFF.out] at x1 x2 x3 f1 f2 f3
      replace x1 := hide x1
      have hge : 0 ≤ matOrd (H : Int) m := by
        obtain ⟨M, rfl⟩ : ∃ M : Nat, m = (M : Int) := ⟨m.toNat, by omega⟩
        exact (f6 M (by omega)).1.1
      obtain ⟨V, hV⟩ : ∃ V, Hid (matOrd (H : Int) m = V) := ⟨_, hide rfl⟩
      rw [hV.out] at hge ⊢
      replace f1 := hide f1
      replace f2 := hide f2
      replace f4 := hide f4
      have HB := hide f6
      clear f3 f5 f6 hok
      go_wp2_with fail
      go_loopw [6, 7, 8, 9] (fun s t i u wr => ∃ k : Nat, ∃ S T : Int, k ≤ H + 1 ∧ i = .int .i64 (k : Int) ∧ s = .int .i64 S ∧ t = .int .i64 T ∧ Hid (S = moTo H k) ∧ Hid (T = moK H k) ∧ Hid (Below w.heap.size w wr)) (fun _ _ i _ _ => H + 1 - (intOf i).toNat)
      case atStart => exact ⟨0, 0, 0, Nat.zero_le _, rfl, rfl, rfl, hide rfl, hide rfl, hb⟩
      case round =>
        clear hb
        obtain ⟨k, S, T, hk, rfl, rfl, rfl, hS, hT, hb⟩ := hrel
        by_cases hlt : k ≤ H
        ·
          obtain ⟨⟨m0, m1⟩, b0, b1, b2, b3, _, _⟩ := HB.out k hlt
          rw [← hS.out] at b0 b1
          rw [← hT.out] at b2 b3
          have hwk := wf_i64 (z := (k : Int)) (by omega)
          have hwH := wf_i64 (z := (H : Int)) (by omega)
          have hS2 := hide (show S + matOrd (H : Int) (k : Int) = moTo H (k + 1) by rw [hS.out]; rfl)
          have hT2 := hide (show T + (k : Int) * matOrd (H : Int) (k : Int) = moK H (k + 1) by rw [hT.out]; rfl)
          obtain ⟨W, hW⟩ : ∃ W, Hid (matOrd (H : Int) (k : Int) = W) := ⟨_, hide rfl⟩
          rw [hW.out] at m0 m1 hS2 hT2
          obtain ⟨q0, q1⟩ := mul_bound (a := (k : Int)) (M := 6) (by omega) (by omega) m0 m1
          go_wp2_with fail
          refine (matchOrders_impl (H : Int) (k : Int) _ hwH hwk).mono ?_
          rw [hW.out]
          rintro e w3 ⟨rfl, hq⟩
          replace hb := hide (upB hb.out (hq))
          clear hq
          go_wp2_with fail
          go_roundw
          case rel => exact ⟨k + 1, _, _, by omega, by go_num, rfl, rfl, hS2, hT2, hb⟩
          case measure => simp [intOf] <;> omega
        · have hkH : k = H + 1 := by omega
          have hSf : S = (FF : Int) := by rw [hS.out, hkH]; exact f1.out
          have hTf := hide (fun (h1 : 1 ≤ H) => show T = (FF : Int) by rw [hT.out, hkH]; exact f2.out h1)
          have hTb := hide (fun (h1 : ¬ 1 ≤ H) => show T = 0 by rw [hT.out, hkH, show H = 0 by omega]; rfl)
          clear hkH hS hT
          subst hSf
          go_wp2_with fail
          refine (sameB (lawFact_c H _ hH6)).mono ?_
          rw [x1.out]
          rintro e w4 ⟨rfl, hq⟩
          replace hb := hide (upB hb.out (hq))
          clear hq
          have hwH := wf_i64 (z := (H : Int)) (by omega)
          have hw0 := wf_i64 (z := 0) (by omega)
          obtain ⟨U, hU⟩ : ∃ U, Hid (unmW (H : Int) = U) := ⟨_, hide rfl⟩
          have hM0 := hide (f4.out.trans hU.out)
          by_cases h1 : 1 ≤ H
          ·
            obtain rfl : T = (FF : Int) := hTf.out h1
            have hHn : ((H : Int) == 0) = false := by simp; omega
            go_wp2_with fail
            refine (matchOrders_impl (H : Int) 0 _ hwH hw0).mono ?_
            rw [hM0.out]
            rintro e w5 ⟨rfl, hq⟩
            replace hb := hide (upB hb.out (hq))
            clear hq
            go_wp2_with fail
            refine (unmatched_impl (H : Int) _ hwH).mono ?_
            rw [hU.out]
            rintro e w6 ⟨rfl, hq⟩
            replace hb := hide (upB hb.out (hq))
            clear hq
            go_wp2_with fail
            go_ret
            exact ⟨by simp, hb.out⟩
          · obtain rfl : T = 0 := hTb.out h1
            have hH0 : H = 0 := by omega
            subst hH0
            go_wp2_with fail
            refine (matchOrders_impl 0 0 _ hw0 hw0).mono ?_
            rw [show matOrd 0 0 = U from hM0.out]
            rintro e w7 ⟨rfl, hq⟩
            replace hb := hide (upB hb.out (hq))
            clear hq
            go_wp2_with fail
            refine (unmatched_impl 0 _ hw0).mono ?_
            rw [show unmW 0 = U from hU.out]
            rintro e w8 ⟨rfl, hq⟩
            replace hb := hide (upB hb.out (hq))
            clear hq
            go_wp2_with fail
            go_ret
            exact ⟨by simp, hb.out⟩
    · rw [show matOrd h m = -1 by unfold matOrd; rw [if_neg hok]]
      clear hok
      go_wp2_with fail
      refine (alive_c _).mono ?_
      rintro e wz ⟨rfl, hq⟩
      go_wp2_with fail
      go_ret
      exact ⟨by simp, upB hb.out hq⟩
end Go.Proofs.Ytdejlalodjhlbaa
