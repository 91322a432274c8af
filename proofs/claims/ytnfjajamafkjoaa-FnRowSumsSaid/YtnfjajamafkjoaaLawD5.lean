/-
  Laws of chapter 12 walked: FnRowSums (written by wip/gen_a8.py).
-/
import Derived.Test.YtnfjajamafkjoaaMixI
import Derived.Test.YtnfjajamafkjoaaPlainAD
import Derived.Test.YtnfjajamafkjoaaDrawMix
import Derived.Test.YtnfjajamafkjoaaZdraw
namespace Go.Proofs.Ytnfjajamafkjoaa
open Go.RowKit
set_option linter.unusedVariables false

set_option maxRecDepth 100000 in
set_option maxHeartbeats 3200000 in
theorem lawRowSums {A : Option Addr} {n c : Nat} {bs : List Int} {w : World} (h : Bts w w.heap.size A n c bs) :
    Calls Try.prog 10 #[.slice A n c] w fun e w' => e = .returned (.bool true) ∧ Below w.heap.size w w' := by
  have hbig := h.big
  have hle := h.le
  unfold maxLen at hbig
  by_cases hn : 1048576 < n
  · go_enter Try.func10, Try.ntmps10
    go_wp2
    go_ret
    exact ⟨rfl, Below.refl _ _⟩
  · have hD := hide (DrawRowSums_c A n c bs w h)
    obtain ⟨i0, hi, hz0, hz1, hz2⟩ := info_parts infoInt
    go_enter Try.func10, Try.ntmps10
    go_wp2_with fail
    refine hD.out.mono ?_
    rintro e w0 ⟨Arow, nrow, crow, row, rfl, hzrow, hnrow, hb⟩
    have hlrow := hide hzrow.len
    replace hzrow := hide hzrow
    replace hb := hide hb
    clear hD
    go_wp2_with fail
    refine (rowSums_impl _ _ _ _ row _ hzrow.out (Nat.le_refl _)).mono ?_
    rintro e w1 ⟨rfl, hq⟩
    replace hzrow := hide (hzrow.out.up hq)
    replace hb := hide (upB hb.out (hq))
    clear hq
    go_wp2_with fail
    refine (sameB (rowSums_spec _ _ _ _ row _ hzrow.out)).mono ?_
    rintro e w2 ⟨rfl, hq⟩
    replace hzrow := hide (hzrow.out.up hq)
    replace hb := hide (upB hb.out (hq))
    clear hq
    have ht := hide (mixOk_turn row)
    cases hok : mixOk row with
    | false =>
      rw [show sumR row = 0 by unfold sumR; rw [hok]; rfl, show cntsR row = 0 by unfold cntsR; rw [hok]; rfl]
      replace hok := hide hok
      go_wp2_with fail
      refine (mixOk_impl _ _ _ _ row _ hzrow.out (Nat.le_refl _)).mono ?_
      rw [hok.out]
      rintro e w3 ⟨rfl, hq⟩
      replace hzrow := hide (hzrow.out.up hq)
      replace hb := hide (upB hb.out (hq))
      clear hq
      go_wp2_with fail
      refine (alive_c _).mono ?_
      rintro e wz ⟨rfl, hq⟩
      go_wp2_with fail
      go_ret
      exact ⟨by simp, upB hb.out hq⟩
    | true =>
      obtain ⟨_, h1, h9⟩ := mixOk_yes hok
      obtain ⟨r1, r2⟩ := row_turn h1 h9
      have bS := sum_bound9 hok row.length
      have bC := cnts_bound9 hok (k := row.length) h9
      rw [List.take_length] at bS
      rw [hok] at ht
      have eS : sumR row = isum row := by unfold sumR; rw [hok]; rfl
      have eC : cntsR row = cntsTo row row.length := by unfold cntsR; rw [hok]; rfl
      have eS2 : sumR row.reverse = isum row := by unfold sumR; rw [ht.out]; exact r1
      have eC2 : cntsR row.reverse = cntsTo row.reverse row.length := by unfold cntsR; rw [ht.out, if_pos rfl, List.length_reverse]
      rw [eS, eC]
      obtain ⟨S, hS⟩ : ∃ S, Hid (isum row = S) := ⟨_, hide rfl⟩
      obtain ⟨C, hC⟩ : ∃ C, Hid (cntsTo row row.length = C) := ⟨_, hide rfl⟩
      obtain ⟨D, hD⟩ : ∃ D, Hid (cntsTo row.reverse row.length = D) := ⟨_, hide rfl⟩
      rw [hS.out] at r2 bS eS2 ⊢
      rw [hC.out] at r2 bC ⊢
      rw [hD.out] at r2 eC2
      rw [hlrow.out] at r2 bC h9 h1
      replace r2 := hide r2
      replace eS2 := hide eS2
      replace eC2 := hide eC2
      obtain ⟨s0, s1⟩ := bS
      obtain ⟨c0, c1⟩ := bC
      obtain ⟨d0, d1⟩ := mul_bound s0 s1 (b := (nrow : Int) - 1) (N := 8) (by omega) (by omega)
      clear eS eC r1 hok
      have hoback := hide (own_empty (w := w2) (base := 0) (Nat.zero_le _))
      replace hzrow := hide (hzrow.out.up (al _ (.cells #[] 3)))
      replace hb := hide (upB hb.out ((al _ (.cells #[] 3))))
      go_wp2_with fail
      go_loopw [10, 11] (fun v i wr => ∃ k : Nat, ∃ B d f, k ≤ nrow ∧ i = .int .i64 k ∧ v = .slice B d f ∧ Hid (Own wr 0 (.slice B d f) (row.take k).reverse) ∧ Hid (Ints wr wr.heap.size Arow nrow crow row) ∧ Hid (Below w.heap.size w wr)) (fun _ i _ => nrow - (intOf i).toNat)
      case atStart => exact ⟨0, _, _, _, Nat.zero_le _, rfl, rfl, hoback, hzrow, hb⟩
      case round =>
        clear hoback hzrow hb
        obtain ⟨k, B, d, f, hk, rfl, rfl, hoback, hzrow, hb⟩ := hrel
        by_cases hlt : k < nrow
        · obtain ⟨b, off, x, rfl, hbB, hx, hcell⟩ := hzrow.out.look hlt
          have hwx := hide (hzrow.out.wf_at hx.out)
          have hld := hide hoback.out.len
          go_wp2_with (at_builtin; refine wpList_app _ rfl _ _ 22 rfl i0 Try.underlying22 hi hz0 hz1 hz2 _ [x] rfl (ints_lit [x] (by intro y hy; simp at hy; subst hy; exact hwx.out) (by simp) rfl) _ d f _ (row.take k).reverse rfl (hoback.out.alloc _).ints (by simp) (by have := hld.out; rw [List.length_reverse, List.length_take] at this; simp; omega) ?_; intro A₃ n₃ c₃ w3 ho3 hg3)
          have hq := al_grown hg3 (Nat.le_refl _)
          have ho3 := hide (show Own w3 0 (.slice A₃ n₃ c₃) (row.take (k + 1)).reverse by
            rw [take_succ hx.out, List.reverse_append]
            exact ho3.down (Nat.zero_le _))
          clear hg3 hcell
          replace hzrow := hide (hzrow.out.up hq)
          replace hb := hide (upB hb.out (hq))
          clear hq hoback
          go_wp2
          go_roundw
          case rel => exact ⟨k + 1, _, _, _, by omega, by go_num, rfl, ho3, hzrow, hb⟩
          case measure => simp [intOf]; omega
        · obtain rfl : k = nrow := by omega
          obtain ⟨nrow, hk0⟩ : ∃ m, m = k := ⟨_, rfl⟩
          subst hk0
          replace hoback := hide (show Own wr 0 (.slice B d f) row.reverse by
            have := hoback.out
            rwa [List.take_of_length_le (by have := hlrow.out; omega)] at this)
          go_wp2_with fail
          refine (rowSums_impl _ _ _ _ row.reverse _ hoback.out.ints (Nat.le_refl _)).mono ?_
          rw [eS2.out, eC2.out, ht.out]
          rintro e w4 ⟨rfl, hq⟩
          replace hzrow := hide (hzrow.out.up hq)
          replace hoback := hide (hoback.out.up hq)
          replace hb := hide (upB hb.out (hq))
          clear hq
          obtain ⟨Z, hZ⟩ : ∃ Z, Hid (S * ((nrow : Int) - 1) = Z) := ⟨_, hide rfl⟩
          have r3 := hide (show D + C = S * ((nrow : Int) - 1) from r2.out)
          have hD0 : -100000000 ≤ D ∧ D ≤ 100000000 := by have := r3.out; omega
          obtain ⟨dd0, dd1⟩ := hD0
          have hfin := hide (show (D + C == S * ((nrow : Int) - 1)) = true by rw [r3.out]; simp)
          go_wp2_with fail
          go_ret
          exact ⟨by first | rfl | exact hfin.out | (have := r3.out; simp <;> omega), hb.out⟩
end Go.Proofs.Ytnfjajamafkjoaa
