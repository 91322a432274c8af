/-
  Laws of chapter 5 walked: FnSameRule (written by wip/gen_s1.py).
-/
import Derived.Test.YtdnnobkkilffbaaZdraw
import Derived.Test.YtdnnobkkilffbaaZruled
import Derived.Test.YtdnnobkkilffbaaSameI
import Derived.Test.YtdnnobkkilffbaaZsame
import Derived.Test.YtdnnobkkilffbaaZrows
import Derived.Test.YtdnnobkkilffbaaRuleI
namespace Go.Proofs.Ytdnnobkkilffbaa
open Go.RowKit
set_option linter.unusedVariables false

theorem sameR_evenOk {C : Nat} {s : Int} (h1 : 1 ≤ C) (h3 : C ≤ 3) (hs : -1 ≤ s ∧ s ≤ 3) : evenOk (C : Int) (sameR C s) = true := by
  unfold evenOk
  rw [ruleOk_mk (sameR_rule h1 h3 hs), evenB_mk (fun k l hk hl => by
    rw [sameR_len] at hk
    have h := sameR_even C s k hk
    unfold rowOf at h
    rw [hl, Option.getD_some] at h
    rw [h, sameR_even C s 0 (by omega)])]; rfl
theorem sameR_evenN {C : Nat} {s : Int} (h1 : 1 ≤ C) (h3 : C ≤ 3) (hs : -1 ≤ s ∧ s ≤ 3) : evenN (C : Int) (sameR C s) = s := by
  unfold evenN
  rw [if_pos (sameR_evenOk h1 h3 hs)]
  exact sameR_even C s 0 (by omega)

set_option maxHeartbeats 400000 in
theorem lawPowI_c (z : Int) (m : Nat) (w : World) (h0 : 0 ≤ z) (h1 : z ≤ 40) (hm : m ≤ 6) :
    Calls Try.prog 15 #[.int .i64 z, .int .i64 m] w fun e w' => e = .returned (.int .i64 (z ^ m)) ∧ w = w' := by
  have HB := hide (fun k (hk : k ≤ 6) => show 0 ≤ z ^ k ∧ z ^ k ≤ 2985984000000 from ⟨(pow_bounds h0 (show z ≤ 120 by omega) k).1, Int.le_trans (pow_bounds h0 (show z ≤ 120 by omega) k).2 (pow120 k hk)⟩)
  have HS := hide (fun k => Int.pow_succ (m := z) (n := k))
  obtain ⟨T, hT⟩ : ∃ T, Hid (z ^ m = T) := ⟨_, hide rfl⟩
  rw [hT.out]
  go_enter Try.func15, Try.ntmps15
  go_wp2
  go_loop [5, 6] (fun t i => ∃ k : Nat, ∃ P : Int, k ≤ m ∧ i = .int .i64 k ∧ t = .int .i64 P ∧ Hid (P = z ^ k)) (fun _ i => m - (intOf i).toNat)
  case atStart => exact ⟨0, 1, Nat.zero_le _, rfl, rfl, hide (Int.pow_zero z).symm⟩
  case round =>
    obtain ⟨k, P, hk, rfl, rfl, hP⟩ := hrel
    by_cases hlt : k < m
    · obtain ⟨b0, b1⟩ := HB.out (k + 1) (by omega)
      have hst := hide (HS.out k)
      rw [hst.out, ← hP.out] at b0 b1
      go_wp2
      go_round
      case rel => exact ⟨k + 1, P * z, by omega, by go_num, rfl, by rw [hP.out]; exact hide hst.out.symm⟩
      case measure => simp [intOf]; omega
    · obtain rfl : k = m := by omega
      go_wp2
      go_ret
      exact ⟨ret_int (by rw [hP.out, hT.out]), rfl⟩

set_option maxHeartbeats 3200000 in
theorem lawSameRule {A : Option Addr} {n c : Nat} {bs : List Int} {w : World} (h : Bts w w.heap.size A n c bs) :
    Calls Try.prog 7 #[.slice A n c] w fun e w' => e = .returned (.bool true) ∧ Below w.heap.size w w' := by
  have hbig := h.big
  have hle := h.le
  unfold maxLen at hbig
  by_cases hn : 1048576 < n
  · go_enter Try.func7, Try.ntmps7
    go_wp2
    go_ret
    exact ⟨rfl, Below.refl _ _⟩
  · have hD := hide (DrawSameRule_c A n c bs w h)
    obtain ⟨i0, hi, hz0, hz1, hz2⟩ := info_parts infoInt
    go_enter Try.func7, Try.ntmps7
    go_wp2_with fail
    refine hD.out.mono ?_
    rintro e w0 ⟨cl, s, rfl, hlocl, hhicl, hlos, hhis, hb⟩
    replace hb := hide hb
    clear hD
    have hws := wf_i64 (z := s) (by omega)
    go_wp2_with fail
    refine (sameRule_impl cl s _ hws).mono ?_
    rintro e w1 ⟨Ars, nrs, crs, rfl, ho, hq⟩
    replace hb := hide (upB hb.out (hq))
    have hzrs := hide ho.mat
    have hlrs := hide hzrs.out.len
    clear hq ho
    go_wp2_with fail
    refine (sameRule_spec cl s _ hws).mono ?_
    rintro e w2 ⟨Ass, nss, css, rfl, ho, hq⟩
    replace hzrs := hide (hzrs.out.up hq)
    replace hb := hide (upB hb.out (hq))
    have hzss := hide ho.mat
    have hlss := hide hzss.out.len
    clear hq ho
    have hsame := hide (sameM_refl (sameRule cl s))
    go_wp2_with fail
    refine (quietB (sameRows_c _ _ _ _ _ _ _ _ (sameRule cl s) (sameRule cl s) _ hzrs.out hzss.out)).mono ?_
    rw [hsame.out]
    rintro e w3 ⟨rfl, hq⟩
    replace hzrs := hide (hzrs.out.up hq)
    replace hzss := hide (hzss.out.up hq)
    replace hb := hide (upB hb.out (hq))
    clear hq
    clear hzss
    clear hsame
    by_cases hok : (decide (1 ≤ cl ∧ cl ≤ 3) && stepB s) = true
    · obtain ⟨hc, hs⟩ := Bool.and_eq_true_iff.1 hok
      obtain ⟨hc1, hc3⟩ := of_decide_eq_true hc
      have hs := stepB_yes hs
      obtain ⟨C, rfl⟩ : ∃ C : Nat, cl = (C : Int) := ⟨cl.toNat, by omega⟩
      have he := sameRule_yes (C := C) (s := s) (by omega) hs
      have hE := hide (sameR_evenOk (C := C) (s := s) (by omega) (by omega) hs)
      have hN := hide (sameR_evenN (C := C) (s := s) (by omega) (by omega) hs)
      have hR := hide (ruleOk_mk (sameR_rule (C := C) (s := s) (by omega) (by omega) hs))
      rw [he] at hzrs hlrs
      have hnC : nrs = C := by rw [← hlrs.out, sameR_len]
      subst hnC
      have hne : ((nrs : Int) == 0) = false := by simp; omega
      clear he hok hc hs
      go_wp2_with fail
      refine (evenRule_impl (nrs : Int) _ _ _ _ (sameR nrs s) _ hzrs.out (Nat.le_refl _)).mono ?_
      rw [hE.out, hN.out]
      rintro e w4 ⟨rfl, hq⟩
      replace hzrs := hide (hzrs.out.up hq)
      replace hb := hide (upB hb.out (hq))
      clear hq
      go_wp2_with fail
      refine (ruleOk_impl (nrs : Int) _ _ _ _ (sameR nrs s) _ hzrs.out (Nat.le_refl _)).mono ?_
      rw [hR.out]
      rintro e w5 ⟨rfl, hq⟩
      replace hzrs := hide (hzrs.out.up hq)
      replace hb := hide (upB hb.out (hq))
      clear hq
      go_wp2_with fail
      go_ret
      exact ⟨by simp, hb.out⟩
    · have he : sameRule cl s = [] := by unfold sameRule; rw [if_neg hok]
      rw [he] at hzrs hlrs
      obtain rfl : nrs = 0 := hlrs.out.symm
      clear he hok
      go_wp2_with fail
      refine (alive_c _).mono ?_
      rintro e wz ⟨rfl, hq⟩
      go_wp2_with fail
      go_ret
      exact ⟨by simp, upB hb.out hq⟩
end Go.Proofs.Ytdnnobkkilffbaa
