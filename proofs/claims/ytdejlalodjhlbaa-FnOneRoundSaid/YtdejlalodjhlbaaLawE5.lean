/-
  Laws of chapter 13 walked: FnOneRound (written by wip/gen_b6.py).
-/
import Derived.Test.YtdejlalodjhlbaaLawE3
import Derived.Test.YtdejlalodjhlbaaHatI
import Derived.Test.YtdejlalodjhlbaaPlainAG
import Derived.Test.YtdejlalodjhlbaaDrawHat
import Derived.Test.YtdejlalodjhlbaaLawX1
import Derived.Test.YtdejlalodjhlbaaZdraw
namespace Go.Proofs.Ytdejlalodjhlbaa
open Go.RowKit
set_option linter.unusedVariables false

set_option maxRecDepth 100000 in
set_option maxHeartbeats 6400000 in
theorem lawOneRound {A : Option Addr} {n c : Nat} {bs : List Int} {w : World} (h : Bts w w.heap.size A n c bs) :
    Calls Try.prog 7 #[.slice A n c] w fun e w' => e = .returned (.bool true) ∧ Below w.heap.size w w' := by
  have hbig := h.big
  have hle := h.le
  unfold maxLen at hbig
  by_cases hn : 1048576 < n
  · go_enter Try.func7, Try.ntmps7
    go_wp2
    go_ret
    exact ⟨rfl, Below.refl _ _⟩
  · have hD := hide (DrawOneRound_c A n c bs w h)
    obtain ⟨i0, hi, hz0, hz1, hz2⟩ := info_parts infoInt
    go_enter Try.func7, Try.ntmps7
    go_wp2_with fail
    refine hD.out.mono ?_
    rintro e w0 ⟨Arow, nrow, crow, row, rfl, hzrow, hnrow, hb⟩
    have hlrow := hide hzrow.len
    replace hzrow := hide hzrow
    replace hb := hide hb
    clear hD
    go_wp2_with fail
    refine (oneRound_impl _ _ _ _ row _ hzrow.out (Nat.le_refl _)).mono ?_
    rintro e w1 ⟨rfl, hq⟩
    replace hzrow := hide (hzrow.out.up hq)
    replace hb := hide (upB hb.out (hq))
    clear hq
    go_wp2_with fail
    refine (sameB (oneRound_spec _ _ _ _ row _ hzrow.out)).mono ?_
    rintro e w2 ⟨rfl, hq⟩
    replace hzrow := hide (hzrow.out.up hq)
    replace hb := hide (upB hb.out (hq))
    clear hq
    go_wp2_with fail
    refine (sameB (hatsOk_spec _ _ _ _ row _ hzrow.out)).mono ?_
    rintro e w3 ⟨rfl, hq⟩
    replace hzrow := hide (hzrow.out.up hq)
    replace hb := hide (upB hb.out (hq))
    clear hq
    by_cases hok : hatsB row = true ∧ 1 ≤ row.length
    ·
      obtain ⟨hok, h1⟩ := hok
      have hH6 : nrow ≤ 6 := by have := (hats_yes hok).2.2; have := hlrow.out; omega
      rw [hlrow.out] at h1
      obtain ⟨H, hHn⟩ : ∃ m, m = nrow := ⟨_, rfl⟩
      subst hHn
      have hRM := hide (show roundB row = true → ¬ H < 2 → matW row = 0 from fun hr h2 => by
        have hp := hat_all hat_cnt hok
        unfold hatP at hp
        simp only [Bool.and_eq_true] at hp
        have hp := hp.1.2
        rw [hr, Bool.not_true, Bool.false_or, decide_eq_false (by rw [hlrow.out]; exact h2), Bool.false_or] at hp
        unfold matW
        rw [if_pos hok]
        exact of_decide_eq_true hp)
      rw [hok]
      obtain ⟨x1, x2, x3⟩ := fac_eq hH6
      obtain ⟨g1, g2, g3⟩ := ord_facts hH6
      obtain ⟨f1, f2, f3, f4, f5, f6⟩ := mo_facts hH6
      obtain ⟨FF, hFF⟩ : ∃ F, Hid (facH H = F) := ⟨_, hide rfl⟩
      rw [hFF.out] at x1 x2 x3 g1 g2 g3
      replace x1 := hide x1
      have HO := hide g3
      clear f1 f2 f3 f4 f6 g3
      have hfin := hide (g2 h1)
      have hcl := hide (cnt_le H FF).2
      obtain ⟨V, hV⟩ : ∃ V, Hid (roundB row = V) := ⟨_, hide rfl⟩
      rw [hV.out] at hRM ⊢
      clear g1 g2 f5 hok
      have hH0 : ((H : Int) == 0) = false := by simp; omega
      go_wp2_with fail
      go_loopw [5, 6] (fun t i wr => ∃ j T : Nat, j ≤ FF ∧ T ≤ j ∧ i = .int .i64 (j : Int) ∧ t = .int .i64 (T : Int) ∧ Hid (T = cntRound H j) ∧ Hid (Ints wr wr.heap.size Arow H crow row) ∧ Hid (Below w.heap.size w wr)) (fun _ i _ => FF - (intOf i).toNat)
      case atStart => exact ⟨0, 0, Nat.zero_le _, Nat.le_refl _, rfl, rfl, hide rfl, hzrow, hb⟩
      case round =>
        clear hzrow hb
        obtain ⟨j, T, hj, hT, rfl, rfl, hTe, hzrow, hb⟩ := hrel
        go_wp2_with fail
        refine (sameB (lawFact_c H _ hH6)).mono ?_
        rw [x1.out]
        rintro e w4 ⟨rfl, hq⟩
        replace hzrow := hide (hzrow.out.up hq)
        replace hb := hide (upB hb.out (hq))
        clear hq
        by_cases hlt : j < FF
        ·
          have hok := hide (HO.out j hlt)
          have hJ := hide (show j ≤ 1000 by omega)
          go_wp2_with fail
          refine (orderOf_e H j _ hH6 hJ.out).mono ?_
          rintro e w5 ⟨Aod, nod, cod, rfl, ho, hq⟩
          replace hzrow := hide (hzrow.out.up hq)
          replace hb := hide (upB hb.out (hq))
          have hood := hide (ho.down (Nat.zero_le _))
          clear hq ho
          skip
          by_cases hz : roundB (ordTo j H).1 = true
          ·
            have hTn := hide (show T + 1 = cntRound H (j + 1) by
              show _ = cntRound H j + _
              rw [if_pos hz, ← hTe.out])
            go_wp2_with fail
            refine (oneRound_impl _ _ _ _ (ordTo j H).1 _ hood.out.ints (Nat.le_refl _)).mono ?_
            rw [hz]
            rintro e w6 ⟨rfl, hq⟩
            replace hzrow := hide (hzrow.out.up hq)
            replace hood := hide (hood.out.up hq)
            replace hb := hide (upB hb.out (hq))
            clear hq
            go_wp2_with fail
            go_roundw
            case rel => exact ⟨j + 1, T + 1, by omega, by omega, by go_num, by go_num, hTn, hzrow, hb⟩
            case measure => simp [intOf] <;> omega
          ·
            have hTn := hide (show T = cntRound H (j + 1) by
              show _ = cntRound H j + _
              rw [if_neg hz, Nat.add_zero, ← hTe.out])
            go_wp2_with fail
            refine (oneRound_impl _ _ _ _ (ordTo j H).1 _ hood.out.ints (Nat.le_refl _)).mono ?_
            rw [Bool.eq_false_iff.2 hz]
            rintro e w7 ⟨rfl, hq⟩
            replace hzrow := hide (hzrow.out.up hq)
            replace hood := hide (hood.out.up hq)
            replace hb := hide (upB hb.out (hq))
            clear hq
            go_wp2_with fail
            go_roundw
            case rel => exact ⟨j + 1, T, by omega, by omega, by go_num, by go_num, hTn, hzrow, hb⟩
            case measure => simp [intOf] <;> omega
        · obtain rfl : j = FF := by omega
          have hTm : T * H = j := by rw [hTe.out]; exact hfin.out
          have hTi := hide (show (T : Int) * (H : Int) = (j : Int) by rw [← hTm, Int.natCast_mul])
          have q1 : (T : Int) * (H : Int) ≤ 720 := by rw [hTi.out]; omega
          have q0 : 0 ≤ (T : Int) * (H : Int) := by rw [hTi.out]; omega
          have hd : ((T : Int) * (H : Int) == (j : Int)) = true := by rw [hTi.out]; simp
          clear hTm
          go_wp2_with fail
          refine (sameB (lawFact_c H _ hH6)).mono ?_
          rw [x1.out]
          rintro e w8 ⟨rfl, hq⟩
          replace hzrow := hide (hzrow.out.up hq)
          replace hb := hide (upB hb.out (hq))
          clear hq
          cases V with
          | false =>
            go_wp2_with fail
            go_ret
            exact ⟨by simp, hb.out⟩
          | true =>
            by_cases h2 : H < 2
            ·
              go_wp2_with fail
              go_ret
              exact ⟨by simp, hb.out⟩
            · have hmw := hide (hRM.out rfl h2)
              go_wp2_with fail
              refine (matchesOf_impl _ _ _ _ row _ hzrow.out (Nat.le_refl _)).mono ?_
              rw [hmw.out]
              rintro e w9 ⟨rfl, hq⟩
              replace hzrow := hide (hzrow.out.up hq)
              replace hb := hide (upB hb.out (hq))
              clear hq
              go_wp2_with fail
              go_ret
              exact ⟨by simp, hb.out⟩
    ·
      have hr : roundB row = false := by
        unfold roundB
        cases hb : hatsB row with
        | false => rfl
        | true => rw [decide_eq_false (fun h1 => hok ⟨hb, h1⟩)]; rfl
      rw [hr]
      obtain ⟨V, hV⟩ : ∃ V, Hid (hatsB row = V) := ⟨_, hide rfl⟩
      rw [hV.out] at hok ⊢
      have hl := hlrow.out
      cases V with
      | false =>
        clear hok
        go_wp2_with fail
        refine (alive_c _).mono ?_
        rintro e wz ⟨rfl, hq⟩
        go_wp2_with fail
        go_ret
        exact ⟨by simp, upB hb.out hq⟩
      | true =>
        obtain rfl : nrow = 0 := by
          have : ¬ 1 ≤ row.length := fun h1 => hok ⟨rfl, h1⟩
          omega
        clear hok hl
        go_wp2_with fail
        refine (alive_c _).mono ?_
        rintro e wz ⟨rfl, hq⟩
        go_wp2_with fail
        go_ret
        exact ⟨by simp, upB hb.out hq⟩
end Go.Proofs.Ytdejlalodjhlbaa
