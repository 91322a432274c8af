/-
  The walks of exact laws (chapter 4): written by wip/exgen.py.
-/
import Derived.Test.YthdelfhfglnhfabRuleI
import Derived.Test.YthdelfhfglnhfabRuleX
import Derived.Test.YthdelfhfglnhfabZrows
namespace Go.Proofs.Ythdelfhfglnhfab
open Go.RowKit
set_option linter.unusedVariables false

set_option maxHeartbeats 1600000 in
theorem exRuleOk {a0 : Int} {A1 : Option Addr} {n1 c1 : Nat} {rs1 : List (List Int)} {w : World} (wf0 : (Lit.int .i64 a0).wf = true) (h1 : Mat w w.heap.size A1 n1 c1 rs1) :
    Calls Try.prog 3 #[.int .i64 a0, .slice A1 n1 c1] w fun e w' => e = .returned (.bool true) ∧ Below w.heap.size w w' := by
  have hn1 := h1.nb
  have hz1 := hide h1.len
  have hsamez1 := sameM_refl rs1
  have hb0 := Below.refl w.heap.size w
  go_enter Try.func3, Try.ntmps3
  go_wp2_with fail
  refine (szIntSS_c A1 n1 c1 _ rs1 _ (h1.below hb0)).mono ?_
  rintro e w1 ⟨⟨x, rfl, hx1, hx2, hx3⟩, hq1⟩
  have hx3 := hide hx3
  by_cases hx0 : x < 0
  · go_wp2_with fail
    go_ret
    exact ⟨rfl, hb0.trans (hq1.mono hb0.size)⟩
  have hsm1 := (hx3.out (by omega)).1
  have ht1 := hide (hx3.out (by omega)).2
  have hrl1 := hide (fun l (hl : l ∈ rs1) => Nat.le_trans (totLen_mem hl) ht1.out)
  clear hx3
  have hb1 := hb0.trans (hq1.mono hb0.size)
  have hs1 := hq1.size
  clear hq1
  go_wp2_with fail
  refine (toIntSS_c A1 n1 c1 _ rs1 _ (h1.below hb1) hb1.size hsm1 hrl1.out).mono ?_
  rintro e w2 ⟨g1, rfl, ho1, hq2⟩
  have hb2 := hb1.trans (hq2.mono hb1.size)
  have hs2 := hq2.size
  clear hq2
  go_wp2_with fail
  refine (sameB (ruleOk_spec a0 _ _ _ _ _ _ ho1.mat)).mono ?_
  rintro e w3 ⟨rfl, hq3⟩
  have hb3 := hb2.trans (hq3.mono hb2.size)
  have hs3 := hq3.size
  replace ho1 := ho1.up hq3
  clear hq3
  clear ho1
  go_wp2_with fail
  refine (toIntSS_c A1 n1 c1 _ rs1 _ (h1.below hb3) hb3.size hsm1 hrl1.out).mono ?_
  rintro e w4 ⟨g2, rfl, ho2, hq4⟩
  have hb4 := hb3.trans (hq4.mono hb3.size)
  have hs4 := hq4.size
  clear hq4
  go_wp2_with fail
  refine (ruleOk_impl a0 _ _ _ _ _ _ ho2.mat (Nat.le_refl _)).mono ?_
  rintro e w5 ⟨rfl, hq5⟩
  have hb5 := hb4.trans (hq5.mono hb4.size)
  have hs5 := hq5.size
  replace ho2 := ho2.up hq5
  clear hq5
  go_wp2_with fail
  refine (toIntSS_c A1 n1 c1 _ rs1 _ (h1.below hb5) hb5.size hsm1 hrl1.out).mono ?_
  rintro e w6 ⟨g3, rfl, ho3, hq6⟩
  have hb6 := hb5.trans (hq6.mono hb5.size)
  have hs6 := hq6.size
  replace ho2 := ho2.up hq6
  clear hq6
  go_wp2_with fail
  refine (quietB (eqIntSS_c _ _ _ _ _ _ _ _ _ _ _ ho2.mat ho3.mat)).mono ?_
  rintro e w7 ⟨rfl, hq7⟩
  have hb7 := hb6.trans (hq7.mono hb6.size)
  have hs7 := hq7.size
  replace ho2 := ho2.up hq7
  replace ho3 := ho3.up hq7
  clear hq7
  clear ho3
  go_wp2_with fail
  go_ret
  exact ⟨rfl, hb7⟩

set_option maxHeartbeats 1600000 in
theorem exStartOk {A0 : Option Addr} {n0 c0 : Nat} {zs0 : List Int} {w : World} (h0 : Ints w w.heap.size A0 n0 c0 zs0) :
    Calls Try.prog 4 #[.slice A0 n0 c0] w fun e w' => e = .returned (.bool true) ∧ Below w.heap.size w w' := by
  have hn0 := h0.nb
  by_cases hbig0 : 1048576 < n0
  · go_enter Try.func4, Try.ntmps4
    go_wp2
    go_ret
    exact ⟨rfl, Below.refl _ _⟩
  have hz0 := hide h0.len
  have hsm0 : n0 ≤ 1048576 := by omega
  clear hbig0
  have hsamez0 := sameL_refl zs0
  have hb0 := Below.refl w.heap.size w
  go_enter Try.func4, Try.ntmps4
  go_wp2_with fail
  refine (toIntS_c A0 n0 c0 _ zs0 _ (h0.below hb0) hb0.size hsm0).mono ?_
  rintro e w1 ⟨g1, rfl, ho1, hq1⟩
  have hlo1 := ho1.row.lt
  have hb1 := hb0.trans (hq1.mono hb0.size)
  have hs1 := hq1.size
  clear hq1
  go_wp2_with fail
  refine (sameB (startOk_spec _ _ _ _ _ _ ho1.ints)).mono ?_
  rintro e w2 ⟨rfl, hq2⟩
  have hb2 := hb1.trans (hq2.mono hb1.size)
  have hs2 := hq2.size
  replace ho1 := ho1.below hq2 (Nat.le_refl _)
  clear hq2
  clear ho1 hlo1
  go_wp2_with fail
  refine (toIntS_c A0 n0 c0 _ zs0 _ (h0.below hb2) hb2.size hsm0).mono ?_
  rintro e w3 ⟨g2, rfl, ho2, hq3⟩
  have hlo2 := ho2.row.lt
  have hb3 := hb2.trans (hq3.mono hb2.size)
  have hs3 := hq3.size
  clear hq3
  go_wp2_with fail
  refine (startOk_impl _ _ _ _ _ _ ho2.ints (Nat.le_refl _)).mono ?_
  rintro e w4 ⟨rfl, hq4⟩
  have hb4 := hb3.trans (hq4.mono hb3.size)
  have hs4 := hq4.size
  replace ho2 := ho2.below hq4 (Nat.le_refl _)
  clear hq4
  go_wp2_with fail
  refine (toIntS_c A0 n0 c0 _ zs0 _ (h0.below hb4) hb4.size hsm0).mono ?_
  rintro e w5 ⟨g3, rfl, ho3, hq5⟩
  have hlo3 := ho3.row.lt
  have hb5 := hb4.trans (hq5.mono hb4.size)
  have hs5 := hq5.size
  replace ho2 := ho2.below hq5 (Nat.le_refl _)
  clear hq5
  go_wp2_with fail
  refine (quietB (eqIntS_c _ _ _ _ _ _ _ _ _ _ _ ho2.ints ho3.ints)).mono ?_
  rintro e w6 ⟨rfl, hq6⟩
  have hb6 := hb5.trans (hq6.mono hb5.size)
  have hs6 := hq6.size
  replace ho2 := ho2.below hq6 (Nat.le_refl _)
  replace ho3 := ho3.below hq6 (Nat.le_refl _)
  clear hq6
  clear ho3 hlo3
  go_wp2_with fail
  go_ret
  exact ⟨rfl, hb6⟩

set_option maxHeartbeats 1600000 in
theorem exAfterWord {A0 : Option Addr} {n0 c0 : Nat} {zs0 : List Int} {A1 : Option Addr} {n1 c1 : Nat} {rs1 : List (List Int)} {A2 : Option Addr} {n2 c2 : Nat} {zs2 : List Int} {w : World} (h0 : Ints w w.heap.size A0 n0 c0 zs0) (h1 : Mat w w.heap.size A1 n1 c1 rs1) (h2 : Ints w w.heap.size A2 n2 c2 zs2) :
    Calls Try.prog 5 #[.slice A0 n0 c0, .slice A1 n1 c1, .slice A2 n2 c2] w fun e w' => e = .returned (.bool true) ∧ Below w.heap.size w w' := by
  have hn0 := h0.nb
  have hn1 := h1.nb
  have hn2 := h2.nb
  by_cases hbig0 : 1048576 < n0
  · go_enter Try.func5, Try.ntmps5
    go_wp2
    go_ret
    exact ⟨rfl, Below.refl _ _⟩
  by_cases hbig2 : 1048576 < n2
  · go_enter Try.func5, Try.ntmps5
    go_wp2
    go_ret
    exact ⟨rfl, Below.refl _ _⟩
  have hz0 := hide h0.len
  have hz1 := hide h1.len
  have hz2 := hide h2.len
  have hsm0 : n0 ≤ 1048576 := by omega
  clear hbig0
  have hsm2 : n2 ≤ 1048576 := by omega
  clear hbig2
  have hsame0 := sameL_refl (afterL zs0 rs1 zs2)
  have hsamez0 := sameL_refl zs0
  have hsamez2 := sameL_refl zs2
  have hsamez1 := sameM_refl rs1
  have hb0 := Below.refl w.heap.size w
  go_enter Try.func5, Try.ntmps5
  go_wp2_with fail
  refine (szIntSS_c A1 n1 c1 _ rs1 _ (h1.below hb0)).mono ?_
  rintro e w1 ⟨⟨x, rfl, hx1, hx2, hx3⟩, hq1⟩
  have hx3 := hide hx3
  by_cases hx0 : x < 0
  · go_wp2_with fail
    go_ret
    exact ⟨rfl, hb0.trans (hq1.mono hb0.size)⟩
  have hsm1 := (hx3.out (by omega)).1
  have ht1 := hide (hx3.out (by omega)).2
  have hrl1 := hide (fun l (hl : l ∈ rs1) => Nat.le_trans (totLen_mem hl) ht1.out)
  clear hx3
  have hb1 := hb0.trans (hq1.mono hb0.size)
  have hs1 := hq1.size
  clear hq1
  go_wp2_with fail
  refine (toIntS_c A0 n0 c0 _ zs0 _ (h0.below hb1) hb1.size hsm0).mono ?_
  rintro e w2 ⟨g1, rfl, ho1, hq2⟩
  have hlo1 := ho1.row.lt
  have hb2 := hb1.trans (hq2.mono hb1.size)
  have hs2 := hq2.size
  clear hq2
  go_wp2_with fail
  refine (toIntSS_c A1 n1 c1 _ rs1 _ (h1.below hb2) hb2.size hsm1 hrl1.out).mono ?_
  rintro e w3 ⟨g2, rfl, ho2, hq3⟩
  have hb3 := hb2.trans (hq3.mono hb2.size)
  have hs3 := hq3.size
  replace ho1 := ho1.below hq3 (Nat.le_refl _)
  clear hq3
  go_wp2_with fail
  refine (toIntS_c A2 n2 c2 _ zs2 _ (h2.below hb3) hb3.size hsm2).mono ?_
  rintro e w4 ⟨g3, rfl, ho3, hq4⟩
  have hlo3 := ho3.row.lt
  have hb4 := hb3.trans (hq4.mono hb3.size)
  have hs4 := hq4.size
  replace ho1 := ho1.below hq4 (Nat.le_refl _)
  replace ho2 := ho2.up hq4
  clear hq4
  go_wp2_with fail
  refine (afterWord_spec _ _ _ _ _ _ _ _ _ _ _ _ _ _ _ _ ho1.ints ho2.mat ho3.ints (Nat.le_refl _) (Nat.le_refl _) (Nat.le_refl _)).mono ?_
  rintro e w5 ⟨B4, m4, d4, rfl, ho4, hq5⟩
  have hlo4 := ho4.row.lt
  have hm4 := hide ho4.len
  have hb5 := hb4.trans (hq5.mono hb4.size)
  have hs5 := hq5.size
  replace ho1 := ho1.below hq5 (Nat.le_refl _)
  replace ho2 := ho2.up hq5
  replace ho3 := ho3.below hq5 (Nat.le_refl _)
  clear hq5
  clear ho1 hlo1
  clear ho2
  clear ho3 hlo3
  go_wp2_with fail
  refine (toIntS_c A0 n0 c0 _ zs0 _ (h0.below hb5) hb5.size hsm0).mono ?_
  rintro e w6 ⟨g5, rfl, ho5, hq6⟩
  have hlo5 := ho5.row.lt
  have hb6 := hb5.trans (hq6.mono hb5.size)
  have hs6 := hq6.size
  replace ho4 := ho4.below hq6 (Nat.le_refl _)
  clear hq6
  go_wp2_with fail
  refine (toIntSS_c A1 n1 c1 _ rs1 _ (h1.below hb6) hb6.size hsm1 hrl1.out).mono ?_
  rintro e w7 ⟨g6, rfl, ho6, hq7⟩
  have hb7 := hb6.trans (hq7.mono hb6.size)
  have hs7 := hq7.size
  replace ho4 := ho4.below hq7 (Nat.le_refl _)
  replace ho5 := ho5.below hq7 (Nat.le_refl _)
  clear hq7
  go_wp2_with fail
  refine (toIntS_c A2 n2 c2 _ zs2 _ (h2.below hb7) hb7.size hsm2).mono ?_
  rintro e w8 ⟨g7, rfl, ho7, hq8⟩
  have hlo7 := ho7.row.lt
  have hb8 := hb7.trans (hq8.mono hb7.size)
  have hs8 := hq8.size
  replace ho4 := ho4.below hq8 (Nat.le_refl _)
  replace ho5 := ho5.below hq8 (Nat.le_refl _)
  replace ho6 := ho6.up hq8
  clear hq8
  go_wp2_with fail
  refine (afterWord_impl _ _ _ _ _ _ _ _ _ _ _ _ _ _ _ _ ho5.ints ho6.mat ho7.ints (Nat.le_refl _) (Nat.le_refl _) (Nat.le_refl _)).mono ?_
  rintro e w9 ⟨B8, m8, d8, rfl, ho8, hq9⟩
  have hlo8 := ho8.row.lt
  have hm8 := hide ho8.len
  have hb9 := hb8.trans (hq9.mono hb8.size)
  have hs9 := hq9.size
  replace ho4 := ho4.below hq9 (Nat.le_refl _)
  replace ho5 := ho5.below hq9 (Nat.le_refl _)
  replace ho6 := ho6.up hq9
  replace ho7 := ho7.below hq9 (Nat.le_refl _)
  clear hq9
  go_wp2_with fail
  refine (quietB (eqIntS_c _ _ _ _ _ _ _ _ _ _ _ ho8.ints ho4.ints)).mono ?_
  rintro e w10 ⟨rfl, hq10⟩
  have hb10 := hb9.trans (hq10.mono hb9.size)
  have hs10 := hq10.size
  replace ho4 := ho4.below hq10 (Nat.le_refl _)
  replace ho5 := ho5.below hq10 (Nat.le_refl _)
  replace ho6 := ho6.up hq10
  replace ho7 := ho7.below hq10 (Nat.le_refl _)
  replace ho8 := ho8.below hq10 (Nat.le_refl _)
  clear hq10
  go_wp2_with fail
  refine (toIntS_c A0 n0 c0 _ zs0 _ (h0.below hb10) hb10.size hsm0).mono ?_
  rintro e w11 ⟨g9, rfl, ho9, hq11⟩
  have hlo9 := ho9.row.lt
  have hb11 := hb10.trans (hq11.mono hb10.size)
  have hs11 := hq11.size
  replace ho4 := ho4.below hq11 (Nat.le_refl _)
  replace ho5 := ho5.below hq11 (Nat.le_refl _)
  replace ho6 := ho6.up hq11
  replace ho7 := ho7.below hq11 (Nat.le_refl _)
  replace ho8 := ho8.below hq11 (Nat.le_refl _)
  clear hq11
  go_wp2_with fail
  refine (quietB (eqIntS_c _ _ _ _ _ _ _ _ _ _ _ ho5.ints ho9.ints)).mono ?_
  rintro e w12 ⟨rfl, hq12⟩
  have hb12 := hb11.trans (hq12.mono hb11.size)
  have hs12 := hq12.size
  replace ho4 := ho4.below hq12 (Nat.le_refl _)
  replace ho5 := ho5.below hq12 (Nat.le_refl _)
  replace ho6 := ho6.up hq12
  replace ho7 := ho7.below hq12 (Nat.le_refl _)
  replace ho8 := ho8.below hq12 (Nat.le_refl _)
  replace ho9 := ho9.below hq12 (Nat.le_refl _)
  clear hq12
  clear ho9 hlo9
  go_wp2_with fail
  refine (toIntSS_c A1 n1 c1 _ rs1 _ (h1.below hb12) hb12.size hsm1 hrl1.out).mono ?_
  rintro e w13 ⟨g10, rfl, ho10, hq13⟩
  have hb13 := hb12.trans (hq13.mono hb12.size)
  have hs13 := hq13.size
  replace ho4 := ho4.below hq13 (Nat.le_refl _)
  replace ho5 := ho5.below hq13 (Nat.le_refl _)
  replace ho6 := ho6.up hq13
  replace ho7 := ho7.below hq13 (Nat.le_refl _)
  replace ho8 := ho8.below hq13 (Nat.le_refl _)
  clear hq13
  go_wp2_with fail
  refine (quietB (eqIntSS_c _ _ _ _ _ _ _ _ _ _ _ ho6.mat ho10.mat)).mono ?_
  rintro e w14 ⟨rfl, hq14⟩
  have hb14 := hb13.trans (hq14.mono hb13.size)
  have hs14 := hq14.size
  replace ho4 := ho4.below hq14 (Nat.le_refl _)
  replace ho5 := ho5.below hq14 (Nat.le_refl _)
  replace ho6 := ho6.up hq14
  replace ho7 := ho7.below hq14 (Nat.le_refl _)
  replace ho8 := ho8.below hq14 (Nat.le_refl _)
  replace ho10 := ho10.up hq14
  clear hq14
  clear ho10
  go_wp2_with fail
  refine (toIntS_c A2 n2 c2 _ zs2 _ (h2.below hb14) hb14.size hsm2).mono ?_
  rintro e w15 ⟨g11, rfl, ho11, hq15⟩
  have hlo11 := ho11.row.lt
  have hb15 := hb14.trans (hq15.mono hb14.size)
  have hs15 := hq15.size
  replace ho4 := ho4.below hq15 (Nat.le_refl _)
  replace ho5 := ho5.below hq15 (Nat.le_refl _)
  replace ho6 := ho6.up hq15
  replace ho7 := ho7.below hq15 (Nat.le_refl _)
  replace ho8 := ho8.below hq15 (Nat.le_refl _)
  clear hq15
  go_wp2_with fail
  refine (quietB (eqIntS_c _ _ _ _ _ _ _ _ _ _ _ ho7.ints ho11.ints)).mono ?_
  rintro e w16 ⟨rfl, hq16⟩
  have hb16 := hb15.trans (hq16.mono hb15.size)
  have hs16 := hq16.size
  replace ho4 := ho4.below hq16 (Nat.le_refl _)
  replace ho5 := ho5.below hq16 (Nat.le_refl _)
  replace ho6 := ho6.up hq16
  replace ho7 := ho7.below hq16 (Nat.le_refl _)
  replace ho8 := ho8.below hq16 (Nat.le_refl _)
  replace ho11 := ho11.below hq16 (Nat.le_refl _)
  clear hq16
  clear ho11 hlo11
  have hT1 := ht1.out
  go_wp2_with fail
  refine (mark_c _ _ _ _ _ _ _ ho5 (by omega) (by omega) hsm0).mono ?_
  rintro e w17 ⟨rfl, ho, hg⟩
  have hb17 := hb16.grown hg hb16.size (fun k hk => by have := (hlo5 k hk).1; omega)
  have hs17 := hg.size
  replace ho4 := ho4.kept hg (apart hlo4 hlo5 (by omega))
  replace ho6 := ho6.kept hg (fun k hk => by have := hlo5 k hk; omega)
  replace ho7 := ho7.kept hg (apart hlo7 hlo5 (by omega))
  replace ho8 := ho8.kept hg (apart hlo8 hlo5 (by omega))
  clear ho5 hg
  have ho5 := ho
  clear ho
  go_wp2_with fail
  refine (markIntSS_c _ _ _ _ _ _ _ _ ho6 (by omega) (by omega) hsm1 ht1.out).mono ?_
  rintro e w18 ⟨rfl, hk⟩
  have hb18 := hk.2.1 _ _ (by omega) (by omega) hb17
  have hs18 := hk.2.2
  replace ho4 := hk.1 _ _ _ ho4 (fun k hk => by have := hlo4 k hk; omega)
  replace ho5 := hk.1 _ _ _ ho5 (fun k hk => by have := hlo5 k hk; omega)
  replace ho7 := hk.1 _ _ _ ho7 (fun k hk => by have := hlo7 k hk; omega)
  replace ho8 := hk.1 _ _ _ ho8 (fun k hk => by have := hlo8 k hk; omega)
  clear ho6 hk
  go_wp2_with fail
  refine (mark_c _ _ _ _ _ _ _ ho7 (by omega) (by omega) hsm2).mono ?_
  rintro e w19 ⟨rfl, ho, hg⟩
  have hb19 := hb18.grown hg hb18.size (fun k hk => by have := (hlo7 k hk).1; omega)
  have hs19 := hg.size
  replace ho4 := ho4.kept hg (apart hlo4 hlo7 (by omega))
  replace ho5 := ho5.kept hg (apart hlo5 hlo7 (by omega))
  replace ho8 := ho8.kept hg (apart hlo8 hlo7 (by omega))
  clear ho7 hg
  have ho7 := ho
  clear ho
  clear ho5 hlo5
  clear ho7 hlo7
  go_wp2_with fail
  refine (quietB (eqIntS_c _ _ _ _ _ _ _ _ _ _ _ ho8.ints ho4.ints)).mono ?_
  rintro e w20 ⟨rfl, hq20⟩
  have hb20 := hb19.trans (hq20.mono hb19.size)
  have hs20 := hq20.size
  replace ho4 := ho4.below hq20 (Nat.le_refl _)
  replace ho8 := ho8.below hq20 (Nat.le_refl _)
  clear hq20
  have hmb8 := hide (show m8 ≤ 1048576 from by have := hm8.out; exact Nat.le_trans (Nat.le_of_eq this) (Nat.le_trans (afterL_len zs0 rs1 zs2) (by have := hz0.out; omega)))
  go_wp2_with fail
  refine (mark_c _ _ _ _ _ _ _ ho8 (by omega) (by omega) hmb8.out).mono ?_
  rintro e w21 ⟨rfl, ho, hg⟩
  have hb21 := hb20.grown hg hb20.size (fun k hk => by have := (hlo8 k hk).1; omega)
  have hs21 := hg.size
  replace ho4 := ho4.kept hg (apart hlo4 hlo8 (by omega))
  clear ho8 hg
  have ho8 := ho
  clear ho
  go_wp2_with fail
  refine (sameB (heldIntS_c _ _ _ _ _ _ _ ho8.ints hm8.out (by omega) (by omega) hmb8.out)).mono ?_
  rintro e w22 ⟨rfl, hq22⟩
  have hb22 := hb21.trans (hq22.mono hb21.size)
  have hs22 := hq22.size
  replace ho4 := ho4.below hq22 (Nat.le_refl _)
  replace ho8 := ho8.below hq22 (Nat.le_refl _)
  clear hq22
  go_wp2_with fail
  refine (toIntS_c A0 n0 c0 _ zs0 _ (h0.below hb22) hb22.size hsm0).mono ?_
  rintro e w23 ⟨g12, rfl, ho12, hq23⟩
  have hlo12 := ho12.row.lt
  have hb23 := hb22.trans (hq23.mono hb22.size)
  have hs23 := hq23.size
  replace ho4 := ho4.below hq23 (Nat.le_refl _)
  replace ho8 := ho8.below hq23 (Nat.le_refl _)
  clear hq23
  go_wp2_with fail
  refine (toIntSS_c A1 n1 c1 _ rs1 _ (h1.below hb23) hb23.size hsm1 hrl1.out).mono ?_
  rintro e w24 ⟨g13, rfl, ho13, hq24⟩
  have hb24 := hb23.trans (hq24.mono hb23.size)
  have hs24 := hq24.size
  replace ho4 := ho4.below hq24 (Nat.le_refl _)
  replace ho8 := ho8.below hq24 (Nat.le_refl _)
  replace ho12 := ho12.below hq24 (Nat.le_refl _)
  clear hq24
  go_wp2_with fail
  refine (toIntS_c A2 n2 c2 _ zs2 _ (h2.below hb24) hb24.size hsm2).mono ?_
  rintro e w25 ⟨g14, rfl, ho14, hq25⟩
  have hlo14 := ho14.row.lt
  have hb25 := hb24.trans (hq25.mono hb24.size)
  have hs25 := hq25.size
  replace ho4 := ho4.below hq25 (Nat.le_refl _)
  replace ho8 := ho8.below hq25 (Nat.le_refl _)
  replace ho12 := ho12.below hq25 (Nat.le_refl _)
  replace ho13 := ho13.up hq25
  clear hq25
  go_wp2_with fail
  refine (afterWord_impl _ _ _ _ _ _ _ _ _ _ _ _ _ _ _ _ ho12.ints ho13.mat ho14.ints (Nat.le_refl _) (Nat.le_refl _) (Nat.le_refl _)).mono ?_
  rintro e w26 ⟨B15, m15, d15, rfl, ho15, hq26⟩
  have hlo15 := ho15.row.lt
  have hm15 := hide ho15.len
  have hb26 := hb25.trans (hq26.mono hb25.size)
  have hs26 := hq26.size
  replace ho4 := ho4.below hq26 (Nat.le_refl _)
  replace ho8 := ho8.below hq26 (Nat.le_refl _)
  replace ho12 := ho12.below hq26 (Nat.le_refl _)
  replace ho13 := ho13.up hq26
  replace ho14 := ho14.below hq26 (Nat.le_refl _)
  clear hq26
  go_wp2_with fail
  refine (quietB (eqIntS_c _ _ _ _ _ _ _ _ _ _ _ ho15.ints ho4.ints)).mono ?_
  rintro e w27 ⟨rfl, hq27⟩
  have hb27 := hb26.trans (hq27.mono hb26.size)
  have hs27 := hq27.size
  replace ho4 := ho4.below hq27 (Nat.le_refl _)
  replace ho8 := ho8.below hq27 (Nat.le_refl _)
  replace ho12 := ho12.below hq27 (Nat.le_refl _)
  replace ho13 := ho13.up hq27
  replace ho14 := ho14.below hq27 (Nat.le_refl _)
  replace ho15 := ho15.below hq27 (Nat.le_refl _)
  clear hq27
  go_wp2_with fail
  refine (sameB (heldIntS_c _ _ _ _ _ _ _ ho8.ints hm8.out (by omega) (by omega) hmb8.out)).mono ?_
  rintro e w28 ⟨rfl, hq28⟩
  have hb28 := hb27.trans (hq28.mono hb27.size)
  have hs28 := hq28.size
  replace ho4 := ho4.below hq28 (Nat.le_refl _)
  replace ho8 := ho8.below hq28 (Nat.le_refl _)
  replace ho12 := ho12.below hq28 (Nat.le_refl _)
  replace ho13 := ho13.up hq28
  replace ho14 := ho14.below hq28 (Nat.le_refl _)
  replace ho15 := ho15.below hq28 (Nat.le_refl _)
  clear hq28
  go_wp2_with fail
  go_ret
  exact ⟨rfl, hb28⟩

set_option maxHeartbeats 1600000 in
theorem exRuleWays {A0 : Option Addr} {n0 c0 : Nat} {zs0 : List Int} {A1 : Option Addr} {n1 c1 : Nat} {rs1 : List (List Int)} {A2 : Option Addr} {n2 c2 : Nat} {zs2 : List Int} {w : World} (h0 : Ints w w.heap.size A0 n0 c0 zs0) (h1 : Mat w w.heap.size A1 n1 c1 rs1) (h2 : Ints w w.heap.size A2 n2 c2 zs2) :
    Calls Try.prog 6 #[.slice A0 n0 c0, .slice A1 n1 c1, .slice A2 n2 c2] w fun e w' => e = .returned (.bool true) ∧ Below w.heap.size w w' := by
  have hn0 := h0.nb
  have hn1 := h1.nb
  have hn2 := h2.nb
  by_cases hbig0 : 1048576 < n0
  · go_enter Try.func6, Try.ntmps6
    go_wp2
    go_ret
    exact ⟨rfl, Below.refl _ _⟩
  by_cases hbig2 : 1048576 < n2
  · go_enter Try.func6, Try.ntmps6
    go_wp2
    go_ret
    exact ⟨rfl, Below.refl _ _⟩
  have hz0 := hide h0.len
  have hz1 := hide h1.len
  have hz2 := hide h2.len
  have hsm0 : n0 ≤ 1048576 := by omega
  clear hbig0
  have hsm2 : n2 ≤ 1048576 := by omega
  clear hbig2
  have hsamez0 := sameL_refl zs0
  have hsamez2 := sameL_refl zs2
  have hsamez1 := sameM_refl rs1
  have hb0 := Below.refl w.heap.size w
  go_enter Try.func6, Try.ntmps6
  go_wp2_with fail
  refine (szIntSS_c A1 n1 c1 _ rs1 _ (h1.below hb0)).mono ?_
  rintro e w1 ⟨⟨x, rfl, hx1, hx2, hx3⟩, hq1⟩
  have hx3 := hide hx3
  by_cases hx0 : x < 0
  · go_wp2_with fail
    go_ret
    exact ⟨rfl, hb0.trans (hq1.mono hb0.size)⟩
  have hsm1 := (hx3.out (by omega)).1
  have ht1 := hide (hx3.out (by omega)).2
  have hrl1 := hide (fun l (hl : l ∈ rs1) => Nat.le_trans (totLen_mem hl) ht1.out)
  clear hx3
  have hb1 := hb0.trans (hq1.mono hb0.size)
  have hs1 := hq1.size
  clear hq1
  go_wp2_with fail
  refine (toIntS_c A0 n0 c0 _ zs0 _ (h0.below hb1) hb1.size hsm0).mono ?_
  rintro e w2 ⟨g1, rfl, ho1, hq2⟩
  have hlo1 := ho1.row.lt
  have hb2 := hb1.trans (hq2.mono hb1.size)
  have hs2 := hq2.size
  clear hq2
  go_wp2_with fail
  refine (toIntSS_c A1 n1 c1 _ rs1 _ (h1.below hb2) hb2.size hsm1 hrl1.out).mono ?_
  rintro e w3 ⟨g2, rfl, ho2, hq3⟩
  have hb3 := hb2.trans (hq3.mono hb2.size)
  have hs3 := hq3.size
  replace ho1 := ho1.below hq3 (Nat.le_refl _)
  clear hq3
  go_wp2_with fail
  refine (toIntS_c A2 n2 c2 _ zs2 _ (h2.below hb3) hb3.size hsm2).mono ?_
  rintro e w4 ⟨g3, rfl, ho3, hq4⟩
  have hlo3 := ho3.row.lt
  have hb4 := hb3.trans (hq4.mono hb3.size)
  have hs4 := hq4.size
  replace ho1 := ho1.below hq4 (Nat.le_refl _)
  replace ho2 := ho2.up hq4
  clear hq4
  go_wp2_with fail
  refine (ruleWays_spec _ _ _ _ _ _ _ _ _ _ _ _ _ _ _ _ ho1.ints ho2.mat ho3.ints (Nat.le_refl _) (Nat.le_refl _) (Nat.le_refl _)).mono ?_
  rintro e w5 ⟨rfl, hq5⟩
  have hb5 := hb4.trans (hq5.mono hb4.size)
  have hs5 := hq5.size
  replace ho1 := ho1.below hq5 (Nat.le_refl _)
  replace ho2 := ho2.up hq5
  replace ho3 := ho3.below hq5 (Nat.le_refl _)
  clear hq5
  clear ho1 hlo1
  clear ho2
  clear ho3 hlo3
  go_wp2_with fail
  refine (toIntS_c A0 n0 c0 _ zs0 _ (h0.below hb5) hb5.size hsm0).mono ?_
  rintro e w6 ⟨g4, rfl, ho4, hq6⟩
  have hlo4 := ho4.row.lt
  have hb6 := hb5.trans (hq6.mono hb5.size)
  have hs6 := hq6.size
  clear hq6
  go_wp2_with fail
  refine (toIntSS_c A1 n1 c1 _ rs1 _ (h1.below hb6) hb6.size hsm1 hrl1.out).mono ?_
  rintro e w7 ⟨g5, rfl, ho5, hq7⟩
  have hb7 := hb6.trans (hq7.mono hb6.size)
  have hs7 := hq7.size
  replace ho4 := ho4.below hq7 (Nat.le_refl _)
  clear hq7
  go_wp2_with fail
  refine (toIntS_c A2 n2 c2 _ zs2 _ (h2.below hb7) hb7.size hsm2).mono ?_
  rintro e w8 ⟨g6, rfl, ho6, hq8⟩
  have hlo6 := ho6.row.lt
  have hb8 := hb7.trans (hq8.mono hb7.size)
  have hs8 := hq8.size
  replace ho4 := ho4.below hq8 (Nat.le_refl _)
  replace ho5 := ho5.up hq8
  clear hq8
  go_wp2_with fail
  refine (ruleWays_impl _ _ _ _ _ _ _ _ _ _ _ _ _ _ _ _ ho4.ints ho5.mat ho6.ints (Nat.le_refl _) (Nat.le_refl _) (Nat.le_refl _)).mono ?_
  rintro e w9 ⟨rfl, hq9⟩
  have hb9 := hb8.trans (hq9.mono hb8.size)
  have hs9 := hq9.size
  replace ho4 := ho4.below hq9 (Nat.le_refl _)
  replace ho5 := ho5.up hq9
  replace ho6 := ho6.below hq9 (Nat.le_refl _)
  clear hq9
  go_wp2_with fail
  refine (toIntS_c A0 n0 c0 _ zs0 _ (h0.below hb9) hb9.size hsm0).mono ?_
  rintro e w10 ⟨g7, rfl, ho7, hq10⟩
  have hlo7 := ho7.row.lt
  have hb10 := hb9.trans (hq10.mono hb9.size)
  have hs10 := hq10.size
  replace ho4 := ho4.below hq10 (Nat.le_refl _)
  replace ho5 := ho5.up hq10
  replace ho6 := ho6.below hq10 (Nat.le_refl _)
  clear hq10
  go_wp2_with fail
  refine (quietB (eqIntS_c _ _ _ _ _ _ _ _ _ _ _ ho4.ints ho7.ints)).mono ?_
  rintro e w11 ⟨rfl, hq11⟩
  have hb11 := hb10.trans (hq11.mono hb10.size)
  have hs11 := hq11.size
  replace ho4 := ho4.below hq11 (Nat.le_refl _)
  replace ho5 := ho5.up hq11
  replace ho6 := ho6.below hq11 (Nat.le_refl _)
  replace ho7 := ho7.below hq11 (Nat.le_refl _)
  clear hq11
  clear ho7 hlo7
  go_wp2_with fail
  refine (toIntSS_c A1 n1 c1 _ rs1 _ (h1.below hb11) hb11.size hsm1 hrl1.out).mono ?_
  rintro e w12 ⟨g8, rfl, ho8, hq12⟩
  have hb12 := hb11.trans (hq12.mono hb11.size)
  have hs12 := hq12.size
  replace ho4 := ho4.below hq12 (Nat.le_refl _)
  replace ho5 := ho5.up hq12
  replace ho6 := ho6.below hq12 (Nat.le_refl _)
  clear hq12
  go_wp2_with fail
  refine (quietB (eqIntSS_c _ _ _ _ _ _ _ _ _ _ _ ho5.mat ho8.mat)).mono ?_
  rintro e w13 ⟨rfl, hq13⟩
  have hb13 := hb12.trans (hq13.mono hb12.size)
  have hs13 := hq13.size
  replace ho4 := ho4.below hq13 (Nat.le_refl _)
  replace ho5 := ho5.up hq13
  replace ho6 := ho6.below hq13 (Nat.le_refl _)
  replace ho8 := ho8.up hq13
  clear hq13
  clear ho8
  go_wp2_with fail
  refine (toIntS_c A2 n2 c2 _ zs2 _ (h2.below hb13) hb13.size hsm2).mono ?_
  rintro e w14 ⟨g9, rfl, ho9, hq14⟩
  have hlo9 := ho9.row.lt
  have hb14 := hb13.trans (hq14.mono hb13.size)
  have hs14 := hq14.size
  replace ho4 := ho4.below hq14 (Nat.le_refl _)
  replace ho5 := ho5.up hq14
  replace ho6 := ho6.below hq14 (Nat.le_refl _)
  clear hq14
  go_wp2_with fail
  refine (quietB (eqIntS_c _ _ _ _ _ _ _ _ _ _ _ ho6.ints ho9.ints)).mono ?_
  rintro e w15 ⟨rfl, hq15⟩
  have hb15 := hb14.trans (hq15.mono hb14.size)
  have hs15 := hq15.size
  replace ho4 := ho4.below hq15 (Nat.le_refl _)
  replace ho5 := ho5.up hq15
  replace ho6 := ho6.below hq15 (Nat.le_refl _)
  replace ho9 := ho9.below hq15 (Nat.le_refl _)
  clear hq15
  clear ho9 hlo9
  go_wp2_with fail
  go_ret
  exact ⟨rfl, hb15⟩

set_option maxHeartbeats 1600000 in
theorem exRuleAll {A0 : Option Addr} {n0 c0 : Nat} {zs0 : List Int} {A1 : Option Addr} {n1 c1 : Nat} {rs1 : List (List Int)} {a2 : Int} {w : World} (h0 : Ints w w.heap.size A0 n0 c0 zs0) (h1 : Mat w w.heap.size A1 n1 c1 rs1) (wf2 : (Lit.int .i64 a2).wf = true) :
    Calls Try.prog 7 #[.slice A0 n0 c0, .slice A1 n1 c1, .int .i64 a2] w fun e w' => e = .returned (.bool true) ∧ Below w.heap.size w w' := by
  have hn0 := h0.nb
  have hn1 := h1.nb
  by_cases hbig0 : 1048576 < n0
  · go_enter Try.func7, Try.ntmps7
    go_wp2
    go_ret
    exact ⟨rfl, Below.refl _ _⟩
  have hz0 := hide h0.len
  have hz1 := hide h1.len
  have hsm0 : n0 ≤ 1048576 := by omega
  clear hbig0
  have hsamez0 := sameL_refl zs0
  have hsamez1 := sameM_refl rs1
  have hb0 := Below.refl w.heap.size w
  go_enter Try.func7, Try.ntmps7
  go_wp2_with fail
  refine (szIntSS_c A1 n1 c1 _ rs1 _ (h1.below hb0)).mono ?_
  rintro e w1 ⟨⟨x, rfl, hx1, hx2, hx3⟩, hq1⟩
  have hx3 := hide hx3
  by_cases hx0 : x < 0
  · go_wp2_with fail
    go_ret
    exact ⟨rfl, hb0.trans (hq1.mono hb0.size)⟩
  have hsm1 := (hx3.out (by omega)).1
  have ht1 := hide (hx3.out (by omega)).2
  have hrl1 := hide (fun l (hl : l ∈ rs1) => Nat.le_trans (totLen_mem hl) ht1.out)
  clear hx3
  have hb1 := hb0.trans (hq1.mono hb0.size)
  have hs1 := hq1.size
  clear hq1
  go_wp2_with fail
  refine (toIntS_c A0 n0 c0 _ zs0 _ (h0.below hb1) hb1.size hsm0).mono ?_
  rintro e w2 ⟨g1, rfl, ho1, hq2⟩
  have hlo1 := ho1.row.lt
  have hb2 := hb1.trans (hq2.mono hb1.size)
  have hs2 := hq2.size
  clear hq2
  go_wp2_with fail
  refine (toIntSS_c A1 n1 c1 _ rs1 _ (h1.below hb2) hb2.size hsm1 hrl1.out).mono ?_
  rintro e w3 ⟨g2, rfl, ho2, hq3⟩
  have hb3 := hb2.trans (hq3.mono hb2.size)
  have hs3 := hq3.size
  replace ho1 := ho1.below hq3 (Nat.le_refl _)
  clear hq3
  go_wp2_with fail
  refine (ruleAll_spec _ _ _ _ _ _ _ _ _ _ a2 _ ho1.ints ho2.mat (Nat.le_refl _) (Nat.le_refl _)).mono ?_
  rintro e w4 ⟨rfl, hq4⟩
  have hb4 := hb3.trans (hq4.mono hb3.size)
  have hs4 := hq4.size
  replace ho1 := ho1.below hq4 (Nat.le_refl _)
  replace ho2 := ho2.up hq4
  clear hq4
  clear ho1 hlo1
  clear ho2
  go_wp2_with fail
  refine (toIntS_c A0 n0 c0 _ zs0 _ (h0.below hb4) hb4.size hsm0).mono ?_
  rintro e w5 ⟨g3, rfl, ho3, hq5⟩
  have hlo3 := ho3.row.lt
  have hb5 := hb4.trans (hq5.mono hb4.size)
  have hs5 := hq5.size
  clear hq5
  go_wp2_with fail
  refine (toIntSS_c A1 n1 c1 _ rs1 _ (h1.below hb5) hb5.size hsm1 hrl1.out).mono ?_
  rintro e w6 ⟨g4, rfl, ho4, hq6⟩
  have hb6 := hb5.trans (hq6.mono hb5.size)
  have hs6 := hq6.size
  replace ho3 := ho3.below hq6 (Nat.le_refl _)
  clear hq6
  go_wp2_with fail
  refine (ruleAll_impl _ _ _ _ _ _ _ _ _ _ a2 _ ho3.ints ho4.mat (Nat.le_refl _) (Nat.le_refl _)).mono ?_
  rintro e w7 ⟨rfl, hq7⟩
  have hb7 := hb6.trans (hq7.mono hb6.size)
  have hs7 := hq7.size
  replace ho3 := ho3.below hq7 (Nat.le_refl _)
  replace ho4 := ho4.up hq7
  clear hq7
  go_wp2_with fail
  refine (toIntS_c A0 n0 c0 _ zs0 _ (h0.below hb7) hb7.size hsm0).mono ?_
  rintro e w8 ⟨g5, rfl, ho5, hq8⟩
  have hlo5 := ho5.row.lt
  have hb8 := hb7.trans (hq8.mono hb7.size)
  have hs8 := hq8.size
  replace ho3 := ho3.below hq8 (Nat.le_refl _)
  replace ho4 := ho4.up hq8
  clear hq8
  go_wp2_with fail
  refine (quietB (eqIntS_c _ _ _ _ _ _ _ _ _ _ _ ho3.ints ho5.ints)).mono ?_
  rintro e w9 ⟨rfl, hq9⟩
  have hb9 := hb8.trans (hq9.mono hb8.size)
  have hs9 := hq9.size
  replace ho3 := ho3.below hq9 (Nat.le_refl _)
  replace ho4 := ho4.up hq9
  replace ho5 := ho5.below hq9 (Nat.le_refl _)
  clear hq9
  clear ho5 hlo5
  go_wp2_with fail
  refine (toIntSS_c A1 n1 c1 _ rs1 _ (h1.below hb9) hb9.size hsm1 hrl1.out).mono ?_
  rintro e w10 ⟨g6, rfl, ho6, hq10⟩
  have hb10 := hb9.trans (hq10.mono hb9.size)
  have hs10 := hq10.size
  replace ho3 := ho3.below hq10 (Nat.le_refl _)
  replace ho4 := ho4.up hq10
  clear hq10
  go_wp2_with fail
  refine (quietB (eqIntSS_c _ _ _ _ _ _ _ _ _ _ _ ho4.mat ho6.mat)).mono ?_
  rintro e w11 ⟨rfl, hq11⟩
  have hb11 := hb10.trans (hq11.mono hb10.size)
  have hs11 := hq11.size
  replace ho3 := ho3.below hq11 (Nat.le_refl _)
  replace ho4 := ho4.up hq11
  replace ho6 := ho6.up hq11
  clear hq11
  clear ho6
  go_wp2_with fail
  go_ret
  exact ⟨rfl, hb11⟩

set_option maxHeartbeats 1600000 in
theorem exEvenRule {a0 : Int} {A1 : Option Addr} {n1 c1 : Nat} {rs1 : List (List Int)} {w : World} (wf0 : (Lit.int .i64 a0).wf = true) (h1 : Mat w w.heap.size A1 n1 c1 rs1) :
    Calls Try.prog 8 #[.int .i64 a0, .slice A1 n1 c1] w fun e w' => e = .returned (.bool true) ∧ Below w.heap.size w w' := by
  have hn1 := h1.nb
  have hz1 := hide h1.len
  have hsamez1 := sameM_refl rs1
  have hb0 := Below.refl w.heap.size w
  go_enter Try.func8, Try.ntmps8
  go_wp2_with fail
  refine (szIntSS_c A1 n1 c1 _ rs1 _ (h1.below hb0)).mono ?_
  rintro e w1 ⟨⟨x, rfl, hx1, hx2, hx3⟩, hq1⟩
  have hx3 := hide hx3
  by_cases hx0 : x < 0
  · go_wp2_with fail
    go_ret
    exact ⟨rfl, hb0.trans (hq1.mono hb0.size)⟩
  have hsm1 := (hx3.out (by omega)).1
  have ht1 := hide (hx3.out (by omega)).2
  have hrl1 := hide (fun l (hl : l ∈ rs1) => Nat.le_trans (totLen_mem hl) ht1.out)
  clear hx3
  have hb1 := hb0.trans (hq1.mono hb0.size)
  have hs1 := hq1.size
  clear hq1
  go_wp2_with fail
  refine (toIntSS_c A1 n1 c1 _ rs1 _ (h1.below hb1) hb1.size hsm1 hrl1.out).mono ?_
  rintro e w2 ⟨g1, rfl, ho1, hq2⟩
  have hb2 := hb1.trans (hq2.mono hb1.size)
  have hs2 := hq2.size
  clear hq2
  go_wp2_with fail
  refine (quietB (evenRule_spec a0 _ _ _ _ _ _ ho1.mat)).mono ?_
  rintro e w3 ⟨rfl, hq3⟩
  have hb3 := hb2.trans (hq3.mono hb2.size)
  have hs3 := hq3.size
  replace ho1 := ho1.up hq3
  clear hq3
  clear ho1
  go_wp2_with fail
  refine (toIntSS_c A1 n1 c1 _ rs1 _ (h1.below hb3) hb3.size hsm1 hrl1.out).mono ?_
  rintro e w4 ⟨g2, rfl, ho2, hq4⟩
  have hb4 := hb3.trans (hq4.mono hb3.size)
  have hs4 := hq4.size
  clear hq4
  go_wp2_with fail
  refine (evenRule_impl a0 _ _ _ _ _ _ ho2.mat (Nat.le_refl _)).mono ?_
  rintro e w5 ⟨rfl, hq5⟩
  have hb5 := hb4.trans (hq5.mono hb4.size)
  have hs5 := hq5.size
  replace ho2 := ho2.up hq5
  clear hq5
  go_wp2_with fail
  refine (toIntSS_c A1 n1 c1 _ rs1 _ (h1.below hb5) hb5.size hsm1 hrl1.out).mono ?_
  rintro e w6 ⟨g3, rfl, ho3, hq6⟩
  have hb6 := hb5.trans (hq6.mono hb5.size)
  have hs6 := hq6.size
  replace ho2 := ho2.up hq6
  clear hq6
  go_wp2_with fail
  refine (quietB (eqIntSS_c _ _ _ _ _ _ _ _ _ _ _ ho2.mat ho3.mat)).mono ?_
  rintro e w7 ⟨rfl, hq7⟩
  have hb7 := hb6.trans (hq7.mono hb6.size)
  have hs7 := hq7.size
  replace ho2 := ho2.up hq7
  replace ho3 := ho3.up hq7
  clear hq7
  clear ho3
  go_wp2_with fail
  go_ret
  exact ⟨rfl, hb7⟩

set_option maxHeartbeats 1600000 in
theorem exBallSum {A0 : Option Addr} {n0 c0 : Nat} {zs0 : List Int} {A1 : Option Addr} {n1 c1 : Nat} {rs1 : List (List Int)} {a2 : Int} {a3 : Int} {w : World} (h0 : Ints w w.heap.size A0 n0 c0 zs0) (h1 : Mat w w.heap.size A1 n1 c1 rs1) (wf2 : (Lit.int .i64 a2).wf = true) (wf3 : (Lit.int .i64 a3).wf = true) :
    Calls Try.prog 9 #[.slice A0 n0 c0, .slice A1 n1 c1, .int .i64 a2, .int .i64 a3] w fun e w' => e = .returned (.bool true) ∧ Below w.heap.size w w' := by
  have hn0 := h0.nb
  have hn1 := h1.nb
  by_cases hbig0 : 1048576 < n0
  · go_enter Try.func9, Try.ntmps9
    go_wp2
    go_ret
    exact ⟨rfl, Below.refl _ _⟩
  have hz0 := hide h0.len
  have hz1 := hide h1.len
  have hsm0 : n0 ≤ 1048576 := by omega
  clear hbig0
  have hsamez0 := sameL_refl zs0
  have hsamez1 := sameM_refl rs1
  have hb0 := Below.refl w.heap.size w
  go_enter Try.func9, Try.ntmps9
  go_wp2_with fail
  refine (szIntSS_c A1 n1 c1 _ rs1 _ (h1.below hb0)).mono ?_
  rintro e w1 ⟨⟨x, rfl, hx1, hx2, hx3⟩, hq1⟩
  have hx3 := hide hx3
  by_cases hx0 : x < 0
  · go_wp2_with fail
    go_ret
    exact ⟨rfl, hb0.trans (hq1.mono hb0.size)⟩
  have hsm1 := (hx3.out (by omega)).1
  have ht1 := hide (hx3.out (by omega)).2
  have hrl1 := hide (fun l (hl : l ∈ rs1) => Nat.le_trans (totLen_mem hl) ht1.out)
  clear hx3
  have hb1 := hb0.trans (hq1.mono hb0.size)
  have hs1 := hq1.size
  clear hq1
  go_wp2_with fail
  refine (toIntS_c A0 n0 c0 _ zs0 _ (h0.below hb1) hb1.size hsm0).mono ?_
  rintro e w2 ⟨g1, rfl, ho1, hq2⟩
  have hlo1 := ho1.row.lt
  have hb2 := hb1.trans (hq2.mono hb1.size)
  have hs2 := hq2.size
  clear hq2
  go_wp2_with fail
  refine (toIntSS_c A1 n1 c1 _ rs1 _ (h1.below hb2) hb2.size hsm1 hrl1.out).mono ?_
  rintro e w3 ⟨g2, rfl, ho2, hq3⟩
  have hb3 := hb2.trans (hq3.mono hb2.size)
  have hs3 := hq3.size
  replace ho1 := ho1.below hq3 (Nat.le_refl _)
  clear hq3
  go_wp2_with fail
  refine (ballSum_spec _ _ _ _ _ _ _ _ _ _ a2 a3 _ ho1.ints ho2.mat (Nat.le_refl _) (Nat.le_refl _)).mono ?_
  rintro e w4 ⟨rfl, hq4⟩
  have hb4 := hb3.trans (hq4.mono hb3.size)
  have hs4 := hq4.size
  replace ho1 := ho1.below hq4 (Nat.le_refl _)
  replace ho2 := ho2.up hq4
  clear hq4
  clear ho1 hlo1
  clear ho2
  go_wp2_with fail
  refine (toIntS_c A0 n0 c0 _ zs0 _ (h0.below hb4) hb4.size hsm0).mono ?_
  rintro e w5 ⟨g3, rfl, ho3, hq5⟩
  have hlo3 := ho3.row.lt
  have hb5 := hb4.trans (hq5.mono hb4.size)
  have hs5 := hq5.size
  clear hq5
  go_wp2_with fail
  refine (toIntSS_c A1 n1 c1 _ rs1 _ (h1.below hb5) hb5.size hsm1 hrl1.out).mono ?_
  rintro e w6 ⟨g4, rfl, ho4, hq6⟩
  have hb6 := hb5.trans (hq6.mono hb5.size)
  have hs6 := hq6.size
  replace ho3 := ho3.below hq6 (Nat.le_refl _)
  clear hq6
  go_wp2_with fail
  refine (ballSum_impl _ _ _ _ _ _ _ _ _ _ a2 a3 _ ho3.ints ho4.mat (Nat.le_refl _) (Nat.le_refl _)).mono ?_
  rintro e w7 ⟨rfl, hq7⟩
  have hb7 := hb6.trans (hq7.mono hb6.size)
  have hs7 := hq7.size
  replace ho3 := ho3.below hq7 (Nat.le_refl _)
  replace ho4 := ho4.up hq7
  clear hq7
  go_wp2_with fail
  refine (toIntS_c A0 n0 c0 _ zs0 _ (h0.below hb7) hb7.size hsm0).mono ?_
  rintro e w8 ⟨g5, rfl, ho5, hq8⟩
  have hlo5 := ho5.row.lt
  have hb8 := hb7.trans (hq8.mono hb7.size)
  have hs8 := hq8.size
  replace ho3 := ho3.below hq8 (Nat.le_refl _)
  replace ho4 := ho4.up hq8
  clear hq8
  go_wp2_with fail
  refine (quietB (eqIntS_c _ _ _ _ _ _ _ _ _ _ _ ho3.ints ho5.ints)).mono ?_
  rintro e w9 ⟨rfl, hq9⟩
  have hb9 := hb8.trans (hq9.mono hb8.size)
  have hs9 := hq9.size
  replace ho3 := ho3.below hq9 (Nat.le_refl _)
  replace ho4 := ho4.up hq9
  replace ho5 := ho5.below hq9 (Nat.le_refl _)
  clear hq9
  clear ho5 hlo5
  go_wp2_with fail
  refine (toIntSS_c A1 n1 c1 _ rs1 _ (h1.below hb9) hb9.size hsm1 hrl1.out).mono ?_
  rintro e w10 ⟨g6, rfl, ho6, hq10⟩
  have hb10 := hb9.trans (hq10.mono hb9.size)
  have hs10 := hq10.size
  replace ho3 := ho3.below hq10 (Nat.le_refl _)
  replace ho4 := ho4.up hq10
  clear hq10
  go_wp2_with fail
  refine (quietB (eqIntSS_c _ _ _ _ _ _ _ _ _ _ _ ho4.mat ho6.mat)).mono ?_
  rintro e w11 ⟨rfl, hq11⟩
  have hb11 := hb10.trans (hq11.mono hb10.size)
  have hs11 := hq11.size
  replace ho3 := ho3.below hq11 (Nat.le_refl _)
  replace ho4 := ho4.up hq11
  replace ho6 := ho6.up hq11
  clear hq11
  clear ho6
  go_wp2_with fail
  go_ret
  exact ⟨rfl, hb11⟩

end Go.Proofs.Ythdelfhfglnhfab
