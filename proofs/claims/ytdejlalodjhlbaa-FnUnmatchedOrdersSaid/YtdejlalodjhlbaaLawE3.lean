/-
  Laws of chapter 13 walked: FnUnmatchedOrders (written by wip/gen_b6.py).
-/
import Derived.Test.YtdejlalodjhlbaaHatI
import Derived.Test.YtdejlalodjhlbaaPlainAG
import Derived.Test.YtdejlalodjhlbaaDrawHat
import Derived.Test.YtdejlalodjhlbaaLawX1
import Derived.Test.YtdejlalodjhlbaaZdraw
namespace Go.Proofs.Ytdejlalodjhlbaa
open Go.RowKit
set_option linter.unusedVariables false

theorem orderOf_e (H J : Nat) (w : World) (hH : H ≤ 6) (hJ : J ≤ 1000) :
    Calls Try.prog 25 #[.int .i64 (H : Int), .int .i64 (J : Int)] w fun e w' => ∃ A' n' c', e = .returned (.slice A' n' c') ∧ Own w' w.heap.size (.slice A' n' c') (ordTo J H).1 ∧ Below w.heap.size w w' := by
  refine (orderOf_c H J w hH hJ).mono ?_
  rintro e w' ⟨A', c', rfl, ho, hb⟩
  exact ⟨A', H, c', rfl, ho, hb⟩

set_option maxRecDepth 100000 in
set_option maxHeartbeats 6400000 in
theorem lawUnmatchedOrders {A : Option Addr} {n c : Nat} {bs : List Int} {w : World} (h : Bts w w.heap.size A n c bs) :
    Calls Try.prog 5 #[.slice A n c] w fun e w' => e = .returned (.bool true) ∧ Below w.heap.size w w' := by
  have hbig := h.big
  have hle := h.le
  unfold maxLen at hbig
  by_cases hn : 1048576 < n
  · go_enter Try.func5, Try.ntmps5
    go_wp2
    go_ret
    exact ⟨rfl, Below.refl _ _⟩
  · have hD := hide (DrawUnmatchedOrders_c A n c bs w h)
    obtain ⟨i0, hi, hz0, hz1, hz2⟩ := info_parts infoInt
    go_enter Try.func5, Try.ntmps5
    go_wp2_with fail
    refine hD.out.mono ?_
    rintro e w0 ⟨h, rfl, hloh, hhih, hb⟩
    replace hb := hide hb
    clear hD
    have hwh := wf_i64 (z := h) (by omega)
    go_wp2_with fail
    refine (unmatched_impl h _ hwh).mono ?_
    rintro e w1 ⟨rfl, hq⟩
    replace hb := hide (upB hb.out (hq))
    clear hq
    go_wp2_with fail
    refine (sameB (unmatched_spec h _)).mono ?_
    rintro e w2 ⟨rfl, hq⟩
    replace hb := hide (upB hb.out (hq))
    clear hq
    by_cases hok : 0 ≤ h ∧ h ≤ 6
    ·
      obtain ⟨H, rfl⟩ : ∃ H : Nat, h = (H : Int) := ⟨h.toNat, by omega⟩
      have hH6 : H ≤ 6 := by omega
      obtain ⟨x1, x2, x3⟩ := fac_eq hH6
      obtain ⟨g1, g2, g3⟩ := ord_facts hH6
      obtain ⟨f1, f2, f3, f4, f5, f6⟩ := mo_facts hH6
      obtain ⟨FF, hFF⟩ : ∃ F, Hid (facH H = F) := ⟨_, hide rfl⟩
      rw [hFF.out] at x1 x2 x3 g1 g2 g3
      replace x1 := hide x1
      have HO := hide g3
      clear f1 f2 f3 f4 f6 g3
      have hN := noneF_lt hH6
      have hU : unmW (H : Int) = (noneF H : Int) := by unfold unmW; rw [if_pos hok, Int.toNat_natCast]
      have hU1 := hide (fun (h1 : 1 ≤ H) => show 0 ≤ unmW ((H : Int) - 1) ∧ unmW ((H : Int) - 1) ≤ 265 by
        unfold unmW
        rw [if_pos (by omega)]
        have := noneF_lt (h := ((H : Int) - 1).toNat) (by omega)
        omega)
      rw [hU] at f5 ⊢
      obtain ⟨NN, hNN⟩ : ∃ N, Hid (noneF H = N) := ⟨_, hide rfl⟩
      rw [hNN.out] at f5 g1 hN ⊢
      replace f5 := hide f5
      replace g1 := hide g1
      clear hU hok g2
      go_wp2_with fail
      go_loopw [5, 6] (fun t i wr => ∃ j T : Nat, j ≤ FF ∧ T ≤ j ∧ i = .int .i64 (j : Int) ∧ t = .int .i64 (T : Int) ∧ Hid (T = cntNone H j) ∧ Hid (Below w.heap.size w wr)) (fun _ i _ => FF - (intOf i).toNat)
      case atStart => exact ⟨0, 0, Nat.zero_le _, Nat.le_refl _, rfl, rfl, hide rfl, hb⟩
      case round =>
        clear hb
        obtain ⟨j, T, hj, hT, rfl, rfl, hTe, hb⟩ := hrel
        go_wp2_with fail
        refine (sameB (lawFact_c H _ hH6)).mono ?_
        rw [x1.out]
        rintro e w3 ⟨rfl, hq⟩
        replace hb := hide (upB hb.out (hq))
        clear hq
        by_cases hlt : j < FF
        ·
          have hok := hide (HO.out j hlt)
          have hJ := hide (show j ≤ 1000 by omega)
          go_wp2_with fail
          refine (orderOf_e H j _ hH6 hJ.out).mono ?_
          rintro e w4 ⟨Aod, nod, cod, rfl, ho, hq⟩
          replace hb := hide (upB hb.out (hq))
          have hood := hide (ho.down (Nat.zero_le _))
          clear hq ho
          have hm := hide (show matW (ordTo j H).1 = matTo (ordTo j H).1 H by unfold matW; rw [if_pos hok.out.1, hok.out.2])
          have hmb := mat_bound (ordTo j H).1 H
          by_cases hz : matTo (ordTo j H).1 H = 0
          ·
            have hTn := hide (show T + 1 = cntNone H (j + 1) by
              show _ = cntNone H j + _
              rw [if_pos hz, ← hTe.out])
            go_wp2_with fail
            refine (matchesOf_impl _ _ _ _ (ordTo j H).1 _ hood.out.ints (Nat.le_refl _)).mono ?_
            rw [hm.out, hz]
            rintro e w5 ⟨rfl, hq⟩
            replace hood := hide (hood.out.up hq)
            replace hb := hide (upB hb.out (hq))
            clear hq
            go_wp2_with fail
            go_roundw
            case rel => exact ⟨j + 1, T + 1, by omega, by omega, by go_num, by go_num, hTn, hb⟩
            case measure => simp [intOf] <;> omega
          ·
            have hTn := hide (show T = cntNone H (j + 1) by
              show _ = cntNone H j + _
              rw [if_neg hz, Nat.add_zero, ← hTe.out])
            go_wp2_with fail
            refine (matchesOf_impl _ _ _ _ (ordTo j H).1 _ hood.out.ints (Nat.le_refl _)).mono ?_
            rw [hm.out]
            rintro e w6 ⟨rfl, hq⟩
            replace hood := hide (hood.out.up hq)
            replace hb := hide (upB hb.out (hq))
            clear hq
            go_wp2_with fail
            go_roundw
            case rel => exact ⟨j + 1, T, by omega, by omega, by go_num, by go_num, hTn, hb⟩
            case measure => simp [intOf] <;> omega
        · obtain rfl : j = FF := by omega
          obtain rfl : T = NN := by rw [hTe.out]; exact g1.out
          by_cases h1 : 1 ≤ H
          ·
            obtain ⟨u0, u1⟩ := hU1.out h1
            have hF := f5.out h1
            have hHn : ((H : Int) == 0) = false := by simp; omega
            have hwp := wf_i64 (z := (H : Int) - 1) (by omega)
            obtain ⟨U, hU⟩ : ∃ U, Hid (unmW ((H : Int) - 1) = U) := ⟨_, hide rfl⟩
            rw [hU.out] at u0 u1 hF
            obtain ⟨q0, q1⟩ := mul_bound (a := (H : Int)) (M := 6) (by omega) (by omega) u0 u1
            have hfin := hide hF
            clear hF
            go_wp2_with fail
            refine (unmatched_impl ((H : Int) - 1) _ hwp).mono ?_
            rw [hU.out]
            rintro e w7 ⟨rfl, hq⟩
            replace hb := hide (upB hb.out (hq))
            clear hq
            go_wp2_with fail
            go_ret
            exact ⟨by have := hfin.out; simp <;> omega, hb.out⟩
          · have hH0 : H = 0 := by omega
            subst hH0
            go_wp2_with fail
            go_ret
            exact ⟨by simp, hb.out⟩
    · rw [show unmW h = -1 by unfold unmW; rw [if_neg hok]]
      clear hok
      go_wp2_with fail
      refine (alive_c _).mono ?_
      rintro e wz ⟨rfl, hq⟩
      go_wp2_with fail
      go_ret
      exact ⟨by simp, upB hb.out hq⟩
end Go.Proofs.Ytdejlalodjhlbaa
