/-
  The walk of the exact law of SameRule.
-/
import Derived.Test.YtdnnobkkilffbabSameI
import Derived.Test.YtdnnobkkilffbabZrows
namespace Go.Proofs.Ytdnnobkkilffbab
open Go.RowKit

theorem sameRule_small (c s : Int) : (sameRule c s).length ≤ 3 ∧ totLen (sameRule c s) ≤ 9 := by
  unfold sameRule
  by_cases h : (decide (1 ≤ c ∧ c ≤ 3) && stepB s) = true
  · rw [if_pos h]
    simp only [Bool.and_eq_true, decide_eq_true_eq] at h
    obtain ⟨C, rfl⟩ : ∃ C : Nat, c = (C : Int) := ⟨c.toNat, by omega⟩
    rw [Int.toNat_natCast, sameR_len]
    refine ⟨by omega, ?_⟩
    have h3 : C = 1 ∨ C = 2 ∨ C = 3 := by omega
    rcases h3 with rfl | rfl | rfl <;> simp [sameR, totLen, List.range, List.range.loop]
  · rw [if_neg h]
    exact ⟨by simp, by simp [totLen]⟩

set_option maxHeartbeats 1600000 in
theorem exSameRule {a0 : Int} {a1 : Int} {w : World} (_wf0 : (Lit.int .i64 a0).wf = true) (wf1 : (Lit.int .i64 a1).wf = true) :
    Calls Try.prog 8 #[.int .i64 a0, .int .i64 a1] w fun e w' => e = .returned (.bool true) ∧ Below w.heap.size w w' := by
  have hsame := sameM_refl (sameRule a0 a1)
  have hsm := hide (sameRule_small a0 a1)
  have HS := hide (fun w => sameRule_spec a0 a1 w wf1)
  have HI := hide (fun w => sameRule_impl a0 a1 w wf1)
  obtain ⟨R, hR⟩ : ∃ R, Hid (sameRule a0 a1 = R) := ⟨_, hide rfl⟩
  rw [hR.out] at hsame hsm HS HI
  obtain ⟨T, hT⟩ : ∃ T : Nat, Hid (totLen R = T) := ⟨_, hide rfl⟩
  have hT9 : T ≤ 9 := by have := hsm.out.2; have := hT.out; omega
  go_enter Try.func8, Try.ntmps8
  go_wp2_with fail
  refine (HS.out w).mono ?_
  rintro e w1 ⟨A0, n0, c0, rfl, ho0, hb1⟩
  have hM0 := hide ho0.mat
  have hb1 := hide hb1
  have hs1 := hb1.out.size
  clear ho0
  go_wp2_with fail
  refine (HI.out w1).mono ?_
  rintro e w2 ⟨A1, n1, c1, rfl, ho1, hq2⟩
  have hn1 : n1 ≤ 3 := by have := ho1.len; have := hsm.out.1; omega
  have hs2 := hq2.size
  have ho1 := hide ho1
  have hq2 := hide hq2
  go_wp2_with fail
  refine (quietB (eqIntSS_c _ _ _ _ _ _ _ _ _ _ w2 ho1.out.mat (hM0.out.below hq2.out))).mono ?_
  rintro e w3 ⟨rfl, hq3⟩
  have hs3 := hq3.size
  have ho3 := hide (ho1.out.up hq3)
  have hq13 := hide (hq2.out.trans (hq3.mono hs2))
  clear hq3 ho1 hq2
  go_wp2_with fail
  refine (markIntSS2_c _ _ _ _ _ 1 R w3 ho3.out (by omega) (by omega) (by omega) (by have := hsm.out.2; omega)).mono ?_
  rw [hT.out]
  rintro e w4 ⟨rfl, ho4, hk⟩
  have hq14 := hide (hk.2.1 w1.heap.size w1 (Nat.le_refl _) (by omega) hq13.out)
  have hs4 := hk.2.2
  have ho4 := hide ho4
  clear hk ho3 hq13
  go_wp2_with fail
  refine (sameB (heldIntSS_c _ _ _ _ 1 R w4 ho4.out.mat (by omega) (by omega) (by have := hsm.out.2; omega))).mono ?_
  rw [hT.out]
  rintro e w5 ⟨rfl, hq5⟩
  have ho5 := hide (ho4.out.up hq5)
  have hs5 := hq5.size
  have hq15 := hide (hq14.out.trans (hq5.mono (by omega)))
  have hne1 : ((1 : Int) + (T : Int) != 1 + (T : Int)) = false := by simp
  clear hq5 ho4 hq14
  go_wp2_with fail
  refine (HI.out w5).mono ?_
  rintro e w6 ⟨A2, n2, c2, rfl, ho6, hq6⟩
  have hs6 := hq6.size
  have hq16 := hide (hq15.out.trans (hq6.mono (by omega)))
  have ho5 := hide (ho5.out.up hq6)
  have ho6 := hide ho6
  clear hq6 hq15
  go_wp2_with fail
  refine (quietB (eqIntSS_c _ _ _ _ _ _ _ _ _ _ w6 ho6.out.mat (hM0.out.below hq16.out))).mono ?_
  rintro e w7 ⟨rfl, hq7⟩
  have ho7 := hide (ho5.out.up hq7)
  have hs7 := hq7.size
  have hq17 := hide (hq16.out.trans (hq7.mono (by omega)))
  clear hq7 ho5 hq16 ho6
  go_wp2_with fail
  refine (sameB (heldIntSS_c _ _ _ _ 1 R w7 ho7.out.mat (by omega) (by omega) (by have := hsm.out.2; omega))).mono ?_
  rw [hT.out]
  rintro e w8 ⟨rfl, hq8⟩
  have hq18 := hide (hq17.out.trans (hq8.mono (by omega)))
  clear hq8 ho7 hq17
  go_wp2_with fail
  go_ret
  exact ⟨rfl, hb1.out.trans (hq18.out.mono hs1)⟩
end Go.Proofs.Ytdnnobkkilffbab
