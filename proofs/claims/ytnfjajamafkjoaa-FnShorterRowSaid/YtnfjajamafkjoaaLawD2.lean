/-
  Laws of chapter 12 walked: FnShorterRow (written by wip/gen_a8.py).
-/
import Derived.Test.YtnfjajamafkjoaaMixI
import Derived.Test.YtnfjajamafkjoaaPlainAD
import Derived.Test.YtnfjajamafkjoaaDrawMix
import Derived.Test.YtnfjajamafkjoaaZdraw
namespace Go.Proofs.Ytnfjajamafkjoaa
open Go.RowKit
set_option linter.unusedVariables false

set_option maxRecDepth 100000 in
set_option maxHeartbeats 6400000 in
theorem lawShorterRow {A : Option Addr} {n c : Nat} {bs : List Int} {w : World} (h : Bts w w.heap.size A n c bs) :
    Calls Try.prog 13 #[.slice A n c] w fun e w' => e = .returned (.bool true) ∧ Below w.heap.size w w' := by
  have hbig := h.big
  have hle := h.le
  unfold maxLen at hbig
  by_cases hn : 1048576 < n
  · go_enter Try.func13, Try.ntmps13
    go_wp2
    go_ret
    exact ⟨rfl, Below.refl _ _⟩
  · have hD := hide (DrawShorterRow_c A n c bs w h)
    obtain ⟨i0, hi, hz0, hz1, hz2⟩ := info_parts infoInt
    go_enter Try.func13, Try.ntmps13
    go_wp2_with fail
    refine hD.out.mono ?_
    rintro e w0 ⟨Arow, nrow, crow, row, rfl, hzrow, hnrow, hb⟩
    have hlrow := hide hzrow.len
    replace hzrow := hide hzrow
    replace hb := hide hb
    clear hD
    go_wp2_with fail
    refine (shorterRow_impl _ _ _ _ row _ hzrow.out (Nat.le_refl _)).mono ?_
    rintro e w1 ⟨Als, nls, cls, rfl, ho, hq⟩
    replace hzrow := hide (hzrow.out.up hq)
    replace hb := hide (upB hb.out (hq))
    have hols := hide (ho.down (Nat.zero_le _))
    clear hq ho
    go_wp2_with fail
    refine (shorterRow_spec _ _ _ _ row _ hzrow.out (Nat.le_refl _)).mono ?_
    rintro e w2 ⟨Asp, nsp, csp, rfl, ho, hq⟩
    replace hzrow := hide (hzrow.out.up hq)
    replace hols := hide (hols.out.up hq)
    replace hb := hide (upB hb.out (hq))
    have hosp := hide (ho.down (Nat.zero_le _))
    clear hq ho
    have hsame := hide (sameL_refl (shortR row))
    go_wp2_with fail
    refine (quietB (sameInts_c _ _ _ _ _ _ _ _ (shortR row) (shortR row) _ hols.out.ints hosp.out.ints)).mono ?_
    rw [hsame.out]
    rintro e w3 ⟨rfl, hq⟩
    replace hzrow := hide (hzrow.out.up hq)
    replace hols := hide (hols.out.up hq)
    replace hosp := hide (hosp.out.up hq)
    replace hb := hide (upB hb.out (hq))
    clear hq
    clear hosp
    clear hsame
    cases hok : shortOk row with
    | false =>
      have e0 : shortR row = [] := by unfold shortR; rw [hok]; rfl
      rw [e0] at hols
      have hlen : nls = 0 := hols.out.len
      subst hlen
      clear e0
      go_wp2_with fail
      refine (alive_c _).mono ?_
      rintro e wz ⟨rfl, hq⟩
      go_wp2_with fail
      go_ret
      exact ⟨by simp, upB hb.out hq⟩
    | true =>
      obtain ⟨hab, g2⟩ := Bool.and_eq_true_iff.1 hok
      obtain ⟨g1, hl2⟩ := Bool.and_eq_true_iff.1 hab
      replace hl2 := of_decide_eq_true hl2
      obtain ⟨_, h1, h9⟩ := mixOk_yes g1
      obtain ⟨r1, r2⟩ := row_short h1 h9
      have e0 : shortR row = shortL row := by unfold shortR; rw [hok]; rfl
      rw [e0] at hols
      have hlen := hols.out.len
      rw [shortL_len] at hlen
      have bS := sum_bound9 g1 row.length
      have bC := cnts_bound9 g1 (k := row.length) h9
      rw [List.take_length] at bS
      have eS := hide (show sumR row = isum row by unfold sumR; rw [g1]; rfl)
      have eC := hide (show cntsR row = cntsTo row row.length by unfold cntsR; rw [g1]; rfl)
      have eS2 : sumR (shortL row) = isum (shortL row) := by unfold sumR; rw [g2]; rfl
      have eC2 : cntsR (shortL row) = cntsTo (shortL row) (row.length - 1) := by unfold cntsR; rw [g2, if_pos rfl, shortL_len]
      rw [r1] at eS2
      rw [r2] at eC2
      obtain ⟨S, hS⟩ : ∃ S, Hid (isum row = S) := ⟨_, hide rfl⟩
      obtain ⟨C, hC⟩ : ∃ C, Hid (cntsTo row row.length = C) := ⟨_, hide rfl⟩
      rw [hS.out] at eS bS eS2
      rw [hC.out] at eC bC eC2
      have hlr := hlrow.out
      rw [hlr] at bC h9 h1 hl2 eS2 eC2 hlen
      replace eS2 := hide eS2
      replace eC2 := hide (show cntsR (shortL row) = C * ((nrow : Int) - 1 - 1) by rw [eC2, show (nrow : Int) - 2 = (nrow : Int) - 1 - 1 by omega])
      obtain ⟨s0, s1⟩ := bS
      obtain ⟨c0, c1⟩ := bC
      obtain ⟨d0, d1⟩ := mul_bound s0 s1 (b := (nrow : Int) - 1) (N := 8) (by omega) (by omega)
      obtain ⟨f0, f1⟩ := mul_bound c0 (show C ≤ 8100000 by omega) (b := (nrow : Int) - 1 - 1) (N := 8) (by omega) (by omega)
      have hdr : ((nls : Int) == (nrow : Int) - 1) = true := by simp; omega
      replace g1 := hide g1
      replace g2 := hide g2
      clear r1 r2 hok hab e0 hlen hlr
      go_wp2_with fail
      refine (rowSums_impl _ _ _ _ row _ hzrow.out (Nat.le_refl _)).mono ?_
      rw [eS.out, eC.out, g1.out]
      rintro e w4 ⟨rfl, hq⟩
      replace hzrow := hide (hzrow.out.up hq)
      replace hols := hide (hols.out.up hq)
      replace hb := hide (upB hb.out (hq))
      clear hq
      go_wp2_with fail
      refine (rowSums_impl _ _ _ _ (shortL row) _ hols.out.ints (Nat.le_refl _)).mono ?_
      rw [eS2.out, eC2.out, g2.out]
      rintro e w5 ⟨rfl, hq⟩
      replace hzrow := hide (hzrow.out.up hq)
      replace hols := hide (hols.out.up hq)
      replace hb := hide (upB hb.out (hq))
      clear hq
      go_wp2_with fail
      go_ret
      exact ⟨by first | rfl | (simp <;> omega), hb.out⟩
end Go.Proofs.Ytnfjajamafkjoaa
