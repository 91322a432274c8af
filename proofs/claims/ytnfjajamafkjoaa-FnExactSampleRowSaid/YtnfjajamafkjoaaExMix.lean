/-
  The walks of exact laws (chapter 12): written by wip/exgen.py.
-/
import Derived.Test.YtnfjajamafkjoaaMixI
import Derived.Test.YtnfjajamafkjoaaZdraw
namespace Go.Proofs.Ytnfjajamafkjoaa
open Go.RowKit
set_option linter.unusedVariables false

set_option maxHeartbeats 1600000 in
theorem exMixOk {A0 : Option Addr} {n0 c0 : Nat} {zs0 : List Int} {w : World} (h0 : Ints w w.heap.size A0 n0 c0 zs0) :
    Calls Try.prog 3 #[.slice A0 n0 c0] w fun e w' => e = .returned (.bool true) ∧ Below w.heap.size w w' := by
  have hn0 := h0.nb
  by_cases hbig0 : 1048576 < n0
  · go_enter Try.func3, Try.ntmps3
    go_wp2
    go_ret
    exact ⟨rfl, Below.refl _ _⟩
  have hz0 := hide h0.len
  have hsm0 : n0 ≤ 1048576 := by omega
  clear hbig0
  have hsamez0 := sameL_refl zs0
  have hb0 := Below.refl w.heap.size w
  go_enter Try.func3, Try.ntmps3
  go_wp2_with fail
  refine (toIntS_c A0 n0 c0 _ zs0 _ (h0.below hb0) hb0.size hsm0).mono ?_
  rintro e w1 ⟨g1, rfl, ho1, hq1⟩
  have hlo1 := ho1.row.lt
  have hb1 := hb0.trans (hq1.mono hb0.size)
  have hs1 := hq1.size
  clear hq1
  go_wp2_with fail
  refine (sameB (mixOk_spec _ _ _ _ zs0 _ ho1.ints)).mono ?_
  rintro e w2 ⟨rfl, hq2⟩
  have hb2 := hb1.trans (hq2.mono hb1.size)
  have hs2 := hq2.size
  replace ho1 := ho1.below hq2 (Nat.le_refl _)
  clear hq2
  clear ho1 hlo1
  go_wp2_with fail
  refine (toIntS_c A0 n0 c0 _ zs0 _ (h0.below hb2) hb2.size hsm0).mono ?_
  rintro e w3 ⟨g2, rfl, ho2, hq3⟩
  have hlo2 := ho2.row.lt
  have hb3 := hb2.trans (hq3.mono hb2.size)
  have hs3 := hq3.size
  clear hq3
  go_wp2_with fail
  refine (mixOk_impl _ _ _ _ zs0 _ ho2.ints (Nat.le_refl _)).mono ?_
  rintro e w4 ⟨rfl, hq4⟩
  have hb4 := hb3.trans (hq4.mono hb3.size)
  have hs4 := hq4.size
  replace ho2 := ho2.below hq4 (Nat.le_refl _)
  clear hq4
  go_wp2_with fail
  refine (toIntS_c A0 n0 c0 _ zs0 _ (h0.below hb4) hb4.size hsm0).mono ?_
  rintro e w5 ⟨g3, rfl, ho3, hq5⟩
  have hlo3 := ho3.row.lt
  have hb5 := hb4.trans (hq5.mono hb4.size)
  have hs5 := hq5.size
  replace ho2 := ho2.below hq5 (Nat.le_refl _)
  clear hq5
  go_wp2_with fail
  refine (quietB (eqIntS_c _ _ _ _ _ _ _ _ _ _ _ ho2.ints ho3.ints)).mono ?_
  rintro e w6 ⟨rfl, hq6⟩
  have hb6 := hb5.trans (hq6.mono hb5.size)
  have hs6 := hq6.size
  replace ho2 := ho2.below hq6 (Nat.le_refl _)
  replace ho3 := ho3.below hq6 (Nat.le_refl _)
  clear hq6
  clear ho3 hlo3
  go_wp2_with fail
  go_ret
  exact ⟨rfl, hb6⟩

set_option maxHeartbeats 1600000 in
theorem exShorterRow {A0 : Option Addr} {n0 c0 : Nat} {zs0 : List Int} {w : World} (h0 : Ints w w.heap.size A0 n0 c0 zs0) :
    Calls Try.prog 7 #[.slice A0 n0 c0] w fun e w' => e = .returned (.bool true) ∧ Below w.heap.size w w' := by
  have hn0 := h0.nb
  by_cases hbig0 : 1048576 < n0
  · go_enter Try.func7, Try.ntmps7
    go_wp2
    go_ret
    exact ⟨rfl, Below.refl _ _⟩
  have hz0 := hide h0.len
  have hsm0 : n0 ≤ 1048576 := by omega
  clear hbig0
  have hsame0 := sameL_refl (shortR zs0)
  have hsamez0 := sameL_refl zs0
  have hb0 := Below.refl w.heap.size w
  go_enter Try.func7, Try.ntmps7
  go_wp2_with fail
  refine (toIntS_c A0 n0 c0 _ zs0 _ (h0.below hb0) hb0.size hsm0).mono ?_
  rintro e w1 ⟨g1, rfl, ho1, hq1⟩
  have hlo1 := ho1.row.lt
  have hb1 := hb0.trans (hq1.mono hb0.size)
  have hs1 := hq1.size
  clear hq1
  go_wp2_with fail
  refine (shorterRow_spec _ _ _ _ zs0 _ ho1.ints (Nat.le_refl _)).mono ?_
  rintro e w2 ⟨B2, m2, d2, rfl, ho2, hq2⟩
  have hlo2 := ho2.row.lt
  have hm2 := hide ho2.len
  have hb2 := hb1.trans (hq2.mono hb1.size)
  have hs2 := hq2.size
  replace ho1 := ho1.below hq2 (Nat.le_refl _)
  clear hq2
  clear ho1 hlo1
  go_wp2_with fail
  refine (toIntS_c A0 n0 c0 _ zs0 _ (h0.below hb2) hb2.size hsm0).mono ?_
  rintro e w3 ⟨g3, rfl, ho3, hq3⟩
  have hlo3 := ho3.row.lt
  have hb3 := hb2.trans (hq3.mono hb2.size)
  have hs3 := hq3.size
  replace ho2 := ho2.below hq3 (Nat.le_refl _)
  clear hq3
  go_wp2_with fail
  refine (shorterRow_impl _ _ _ _ zs0 _ ho3.ints (Nat.le_refl _)).mono ?_
  rintro e w4 ⟨B4, m4, d4, rfl, ho4, hq4⟩
  have hlo4 := ho4.row.lt
  have hm4 := hide ho4.len
  have hb4 := hb3.trans (hq4.mono hb3.size)
  have hs4 := hq4.size
  replace ho2 := ho2.below hq4 (Nat.le_refl _)
  replace ho3 := ho3.below hq4 (Nat.le_refl _)
  clear hq4
  go_wp2_with fail
  refine (quietB (eqIntS_c _ _ _ _ _ _ _ _ _ _ _ ho4.ints ho2.ints)).mono ?_
  rintro e w5 ⟨rfl, hq5⟩
  have hb5 := hb4.trans (hq5.mono hb4.size)
  have hs5 := hq5.size
  replace ho2 := ho2.below hq5 (Nat.le_refl _)
  replace ho3 := ho3.below hq5 (Nat.le_refl _)
  replace ho4 := ho4.below hq5 (Nat.le_refl _)
  clear hq5
  go_wp2_with fail
  refine (toIntS_c A0 n0 c0 _ zs0 _ (h0.below hb5) hb5.size hsm0).mono ?_
  rintro e w6 ⟨g5, rfl, ho5, hq6⟩
  have hlo5 := ho5.row.lt
  have hb6 := hb5.trans (hq6.mono hb5.size)
  have hs6 := hq6.size
  replace ho2 := ho2.below hq6 (Nat.le_refl _)
  replace ho3 := ho3.below hq6 (Nat.le_refl _)
  replace ho4 := ho4.below hq6 (Nat.le_refl _)
  clear hq6
  go_wp2_with fail
  refine (quietB (eqIntS_c _ _ _ _ _ _ _ _ _ _ _ ho3.ints ho5.ints)).mono ?_
  rintro e w7 ⟨rfl, hq7⟩
  have hb7 := hb6.trans (hq7.mono hb6.size)
  have hs7 := hq7.size
  replace ho2 := ho2.below hq7 (Nat.le_refl _)
  replace ho3 := ho3.below hq7 (Nat.le_refl _)
  replace ho4 := ho4.below hq7 (Nat.le_refl _)
  replace ho5 := ho5.below hq7 (Nat.le_refl _)
  clear hq7
  clear ho5 hlo5
  go_wp2_with fail
  refine (mark_c _ _ _ _ _ _ _ ho3 (by omega) (by omega) hsm0).mono ?_
  rintro e w8 ⟨rfl, ho, hg⟩
  have hb8 := hb7.grown hg hb7.size (fun k hk => by have := (hlo3 k hk).1; omega)
  have hs8 := hg.size
  replace ho2 := ho2.kept hg (apart hlo2 hlo3 (by omega))
  replace ho4 := ho4.kept hg (apart hlo4 hlo3 (by omega))
  clear ho3 hg
  have ho3 := ho
  clear ho
  clear ho3 hlo3
  go_wp2_with fail
  refine (quietB (eqIntS_c _ _ _ _ _ _ _ _ _ _ _ ho4.ints ho2.ints)).mono ?_
  rintro e w9 ⟨rfl, hq9⟩
  have hb9 := hb8.trans (hq9.mono hb8.size)
  have hs9 := hq9.size
  replace ho2 := ho2.below hq9 (Nat.le_refl _)
  replace ho4 := ho4.below hq9 (Nat.le_refl _)
  clear hq9
  have hmb4 := hide (show m4 ≤ 1048576 from by have := hm4.out; exact Nat.le_trans (Nat.le_of_eq this) (Nat.le_trans (shortR_len zs0) (by decide)))
  go_wp2_with fail
  refine (mark_c _ _ _ _ _ _ _ ho4 (by omega) (by omega) hmb4.out).mono ?_
  rintro e w10 ⟨rfl, ho, hg⟩
  have hb10 := hb9.grown hg hb9.size (fun k hk => by have := (hlo4 k hk).1; omega)
  have hs10 := hg.size
  replace ho2 := ho2.kept hg (apart hlo2 hlo4 (by omega))
  clear ho4 hg
  have ho4 := ho
  clear ho
  go_wp2_with fail
  refine (sameB (heldIntS_c _ _ _ _ _ _ _ ho4.ints hm4.out (by omega) (by omega) hmb4.out)).mono ?_
  rintro e w11 ⟨rfl, hq11⟩
  have hb11 := hb10.trans (hq11.mono hb10.size)
  have hs11 := hq11.size
  replace ho2 := ho2.below hq11 (Nat.le_refl _)
  replace ho4 := ho4.below hq11 (Nat.le_refl _)
  clear hq11
  go_wp2_with fail
  refine (toIntS_c A0 n0 c0 _ zs0 _ (h0.below hb11) hb11.size hsm0).mono ?_
  rintro e w12 ⟨g6, rfl, ho6, hq12⟩
  have hlo6 := ho6.row.lt
  have hb12 := hb11.trans (hq12.mono hb11.size)
  have hs12 := hq12.size
  replace ho2 := ho2.below hq12 (Nat.le_refl _)
  replace ho4 := ho4.below hq12 (Nat.le_refl _)
  clear hq12
  go_wp2_with fail
  refine (shorterRow_impl _ _ _ _ zs0 _ ho6.ints (Nat.le_refl _)).mono ?_
  rintro e w13 ⟨B7, m7, d7, rfl, ho7, hq13⟩
  have hlo7 := ho7.row.lt
  have hm7 := hide ho7.len
  have hb13 := hb12.trans (hq13.mono hb12.size)
  have hs13 := hq13.size
  replace ho2 := ho2.below hq13 (Nat.le_refl _)
  replace ho4 := ho4.below hq13 (Nat.le_refl _)
  replace ho6 := ho6.below hq13 (Nat.le_refl _)
  clear hq13
  go_wp2_with fail
  refine (quietB (eqIntS_c _ _ _ _ _ _ _ _ _ _ _ ho7.ints ho2.ints)).mono ?_
  rintro e w14 ⟨rfl, hq14⟩
  have hb14 := hb13.trans (hq14.mono hb13.size)
  have hs14 := hq14.size
  replace ho2 := ho2.below hq14 (Nat.le_refl _)
  replace ho4 := ho4.below hq14 (Nat.le_refl _)
  replace ho6 := ho6.below hq14 (Nat.le_refl _)
  replace ho7 := ho7.below hq14 (Nat.le_refl _)
  clear hq14
  go_wp2_with fail
  refine (sameB (heldIntS_c _ _ _ _ _ _ _ ho4.ints hm4.out (by omega) (by omega) hmb4.out)).mono ?_
  rintro e w15 ⟨rfl, hq15⟩
  have hb15 := hb14.trans (hq15.mono hb14.size)
  have hs15 := hq15.size
  replace ho2 := ho2.below hq15 (Nat.le_refl _)
  replace ho4 := ho4.below hq15 (Nat.le_refl _)
  replace ho6 := ho6.below hq15 (Nat.le_refl _)
  replace ho7 := ho7.below hq15 (Nat.le_refl _)
  clear hq15
  go_wp2_with fail
  go_ret
  exact ⟨rfl, hb15⟩

set_option maxHeartbeats 1600000 in
theorem exSampleRow {a0 : Int} {a1 : Int} {a2 : Int} {w : World} (wf0 : (Lit.int .i64 a0).wf = true) (wf1 : (Lit.int .i64 a1).wf = true) (wf2 : (Lit.int .i64 a2).wf = true) :
    Calls Try.prog 6 #[.int .i64 a0, .int .i64 a1, .int .i64 a2] w fun e w' => e = .returned (.bool true) ∧ Below w.heap.size w w' := by
  have hsame0 := sameL_refl (sampR a0 a1 a2)
  have hb0 := Below.refl w.heap.size w
  go_enter Try.func6, Try.ntmps6
  go_wp2_with fail
  refine (sampleRow_spec a0 a1 a2 _).mono ?_
  rintro e w1 ⟨B1, m1, d1, rfl, ho1, hq1⟩
  have hlo1 := ho1.row.lt
  have hm1 := hide ho1.len
  have hb1 := hb0.trans (hq1.mono hb0.size)
  have hs1 := hq1.size
  clear hq1
  go_wp2_with fail
  refine (sampleRow_impl a0 a1 a2 _ wf0 wf1 wf2).mono ?_
  rintro e w2 ⟨B2, m2, d2, rfl, ho2, hq2⟩
  have hlo2 := ho2.row.lt
  have hm2 := hide ho2.len
  have hb2 := hb1.trans (hq2.mono hb1.size)
  have hs2 := hq2.size
  replace ho1 := ho1.below hq2 (Nat.le_refl _)
  clear hq2
  go_wp2_with fail
  refine (quietB (eqIntS_c _ _ _ _ _ _ _ _ _ _ _ ho2.ints ho1.ints)).mono ?_
  rintro e w3 ⟨rfl, hq3⟩
  have hb3 := hb2.trans (hq3.mono hb2.size)
  have hs3 := hq3.size
  replace ho1 := ho1.below hq3 (Nat.le_refl _)
  replace ho2 := ho2.below hq3 (Nat.le_refl _)
  clear hq3
  have hmb2 := hide (show m2 ≤ 1048576 from by have := hm2.out; exact Nat.le_trans (Nat.le_of_eq this) (Nat.le_trans (sampR_len a0 a1 a2) (by decide)))
  go_wp2_with fail
  refine (mark_c _ _ _ _ _ _ _ ho2 (by omega) (by omega) hmb2.out).mono ?_
  rintro e w4 ⟨rfl, ho, hg⟩
  have hb4 := hb3.grown hg hb3.size (fun k hk => by have := (hlo2 k hk).1; omega)
  have hs4 := hg.size
  replace ho1 := ho1.kept hg (apart hlo1 hlo2 (by omega))
  clear ho2 hg
  have ho2 := ho
  clear ho
  go_wp2_with fail
  refine (sameB (heldIntS_c _ _ _ _ _ _ _ ho2.ints hm2.out (by omega) (by omega) hmb2.out)).mono ?_
  rintro e w5 ⟨rfl, hq5⟩
  have hb5 := hb4.trans (hq5.mono hb4.size)
  have hs5 := hq5.size
  replace ho1 := ho1.below hq5 (Nat.le_refl _)
  replace ho2 := ho2.below hq5 (Nat.le_refl _)
  clear hq5
  go_wp2_with fail
  refine (sampleRow_impl a0 a1 a2 _ wf0 wf1 wf2).mono ?_
  rintro e w6 ⟨B3, m3, d3, rfl, ho3, hq6⟩
  have hlo3 := ho3.row.lt
  have hm3 := hide ho3.len
  have hb6 := hb5.trans (hq6.mono hb5.size)
  have hs6 := hq6.size
  replace ho1 := ho1.below hq6 (Nat.le_refl _)
  replace ho2 := ho2.below hq6 (Nat.le_refl _)
  clear hq6
  go_wp2_with fail
  refine (quietB (eqIntS_c _ _ _ _ _ _ _ _ _ _ _ ho3.ints ho1.ints)).mono ?_
  rintro e w7 ⟨rfl, hq7⟩
  have hb7 := hb6.trans (hq7.mono hb6.size)
  have hs7 := hq7.size
  replace ho1 := ho1.below hq7 (Nat.le_refl _)
  replace ho2 := ho2.below hq7 (Nat.le_refl _)
  replace ho3 := ho3.below hq7 (Nat.le_refl _)
  clear hq7
  go_wp2_with fail
  refine (sameB (heldIntS_c _ _ _ _ _ _ _ ho2.ints hm2.out (by omega) (by omega) hmb2.out)).mono ?_
  rintro e w8 ⟨rfl, hq8⟩
  have hb8 := hb7.trans (hq8.mono hb7.size)
  have hs8 := hq8.size
  replace ho1 := ho1.below hq8 (Nat.le_refl _)
  replace ho2 := ho2.below hq8 (Nat.le_refl _)
  replace ho3 := ho3.below hq8 (Nat.le_refl _)
  clear hq8
  go_wp2_with fail
  go_ret
  exact ⟨rfl, hb8⟩

set_option maxHeartbeats 1600000 in
theorem exMixedRow {A0 : Option Addr} {n0 c0 : Nat} {zs0 : List Int} {a1 : Int} {A2 : Option Addr} {n2 c2 : Nat} {zs2 : List Int} {a3 : Int} {w : World} (h0 : Ints w w.heap.size A0 n0 c0 zs0) (wf1 : (Lit.int .i64 a1).wf = true) (h2 : Ints w w.heap.size A2 n2 c2 zs2) (wf3 : (Lit.int .i64 a3).wf = true) :
    Calls Try.prog 4 #[.slice A0 n0 c0, .int .i64 a1, .slice A2 n2 c2, .int .i64 a3] w fun e w' => e = .returned (.bool true) ∧ Below w.heap.size w w' := by
  have hn0 := h0.nb
  have hn2 := h2.nb
  by_cases hbig0 : 1048576 < n0
  · go_enter Try.func4, Try.ntmps4
    go_wp2
    go_ret
    exact ⟨rfl, Below.refl _ _⟩
  by_cases hbig2 : 1048576 < n2
  · go_enter Try.func4, Try.ntmps4
    go_wp2
    go_ret
    exact ⟨rfl, Below.refl _ _⟩
  have hz0 := hide h0.len
  have hz2 := hide h2.len
  have hsm0 : n0 ≤ 1048576 := by omega
  clear hbig0
  have hsm2 : n2 ≤ 1048576 := by omega
  clear hbig2
  have hsame0 := sameL_refl (mixedR zs0 a1 zs2 a3)
  have hsamez0 := sameL_refl zs0
  have hsamez2 := sameL_refl zs2
  have hb0 := Below.refl w.heap.size w
  go_enter Try.func4, Try.ntmps4
  go_wp2_with fail
  refine (toIntS_c A0 n0 c0 _ zs0 _ (h0.below hb0) hb0.size hsm0).mono ?_
  rintro e w1 ⟨g1, rfl, ho1, hq1⟩
  have hlo1 := ho1.row.lt
  have hb1 := hb0.trans (hq1.mono hb0.size)
  have hs1 := hq1.size
  clear hq1
  go_wp2_with fail
  refine (toIntS_c A2 n2 c2 _ zs2 _ (h2.below hb1) hb1.size hsm2).mono ?_
  rintro e w2 ⟨g2, rfl, ho2, hq2⟩
  have hlo2 := ho2.row.lt
  have hb2 := hb1.trans (hq2.mono hb1.size)
  have hs2 := hq2.size
  replace ho1 := ho1.below hq2 (Nat.le_refl _)
  clear hq2
  go_wp2_with fail
  refine (mixedRow_spec _ _ _ _ _ _ _ _ zs0 zs2 a1 a3 _ ho1.ints ho2.ints (Nat.le_refl _) (Nat.le_refl _)).mono ?_
  rintro e w3 ⟨B3, m3, d3, rfl, ho3, hq3⟩
  have hlo3 := ho3.row.lt
  have hm3 := hide ho3.len
  have hb3 := hb2.trans (hq3.mono hb2.size)
  have hs3 := hq3.size
  replace ho1 := ho1.below hq3 (Nat.le_refl _)
  replace ho2 := ho2.below hq3 (Nat.le_refl _)
  clear hq3
  clear ho1 hlo1
  clear ho2 hlo2
  go_wp2_with fail
  refine (toIntS_c A0 n0 c0 _ zs0 _ (h0.below hb3) hb3.size hsm0).mono ?_
  rintro e w4 ⟨g4, rfl, ho4, hq4⟩
  have hlo4 := ho4.row.lt
  have hb4 := hb3.trans (hq4.mono hb3.size)
  have hs4 := hq4.size
  replace ho3 := ho3.below hq4 (Nat.le_refl _)
  clear hq4
  go_wp2_with fail
  refine (toIntS_c A2 n2 c2 _ zs2 _ (h2.below hb4) hb4.size hsm2).mono ?_
  rintro e w5 ⟨g5, rfl, ho5, hq5⟩
  have hlo5 := ho5.row.lt
  have hb5 := hb4.trans (hq5.mono hb4.size)
  have hs5 := hq5.size
  replace ho3 := ho3.below hq5 (Nat.le_refl _)
  replace ho4 := ho4.below hq5 (Nat.le_refl _)
  clear hq5
  go_wp2_with fail
  refine (mixedRow_impl _ _ _ _ _ _ _ _ zs0 zs2 a1 a3 _ ho4.ints ho5.ints (Nat.le_refl _) (Nat.le_refl _) wf1 wf3).mono ?_
  rintro e w6 ⟨B6, m6, d6, rfl, ho6, hq6⟩
  have hlo6 := ho6.row.lt
  have hm6 := hide ho6.len
  have hb6 := hb5.trans (hq6.mono hb5.size)
  have hs6 := hq6.size
  replace ho3 := ho3.below hq6 (Nat.le_refl _)
  replace ho4 := ho4.below hq6 (Nat.le_refl _)
  replace ho5 := ho5.below hq6 (Nat.le_refl _)
  clear hq6
  go_wp2_with fail
  refine (quietB (eqIntS_c _ _ _ _ _ _ _ _ _ _ _ ho6.ints ho3.ints)).mono ?_
  rintro e w7 ⟨rfl, hq7⟩
  have hb7 := hb6.trans (hq7.mono hb6.size)
  have hs7 := hq7.size
  replace ho3 := ho3.below hq7 (Nat.le_refl _)
  replace ho4 := ho4.below hq7 (Nat.le_refl _)
  replace ho5 := ho5.below hq7 (Nat.le_refl _)
  replace ho6 := ho6.below hq7 (Nat.le_refl _)
  clear hq7
  go_wp2_with fail
  refine (toIntS_c A0 n0 c0 _ zs0 _ (h0.below hb7) hb7.size hsm0).mono ?_
  rintro e w8 ⟨g7, rfl, ho7, hq8⟩
  have hlo7 := ho7.row.lt
  have hb8 := hb7.trans (hq8.mono hb7.size)
  have hs8 := hq8.size
  replace ho3 := ho3.below hq8 (Nat.le_refl _)
  replace ho4 := ho4.below hq8 (Nat.le_refl _)
  replace ho5 := ho5.below hq8 (Nat.le_refl _)
  replace ho6 := ho6.below hq8 (Nat.le_refl _)
  clear hq8
  go_wp2_with fail
  refine (quietB (eqIntS_c _ _ _ _ _ _ _ _ _ _ _ ho4.ints ho7.ints)).mono ?_
  rintro e w9 ⟨rfl, hq9⟩
  have hb9 := hb8.trans (hq9.mono hb8.size)
  have hs9 := hq9.size
  replace ho3 := ho3.below hq9 (Nat.le_refl _)
  replace ho4 := ho4.below hq9 (Nat.le_refl _)
  replace ho5 := ho5.below hq9 (Nat.le_refl _)
  replace ho6 := ho6.below hq9 (Nat.le_refl _)
  replace ho7 := ho7.below hq9 (Nat.le_refl _)
  clear hq9
  clear ho7 hlo7
  go_wp2_with fail
  refine (toIntS_c A2 n2 c2 _ zs2 _ (h2.below hb9) hb9.size hsm2).mono ?_
  rintro e w10 ⟨g8, rfl, ho8, hq10⟩
  have hlo8 := ho8.row.lt
  have hb10 := hb9.trans (hq10.mono hb9.size)
  have hs10 := hq10.size
  replace ho3 := ho3.below hq10 (Nat.le_refl _)
  replace ho4 := ho4.below hq10 (Nat.le_refl _)
  replace ho5 := ho5.below hq10 (Nat.le_refl _)
  replace ho6 := ho6.below hq10 (Nat.le_refl _)
  clear hq10
  go_wp2_with fail
  refine (quietB (eqIntS_c _ _ _ _ _ _ _ _ _ _ _ ho5.ints ho8.ints)).mono ?_
  rintro e w11 ⟨rfl, hq11⟩
  have hb11 := hb10.trans (hq11.mono hb10.size)
  have hs11 := hq11.size
  replace ho3 := ho3.below hq11 (Nat.le_refl _)
  replace ho4 := ho4.below hq11 (Nat.le_refl _)
  replace ho5 := ho5.below hq11 (Nat.le_refl _)
  replace ho6 := ho6.below hq11 (Nat.le_refl _)
  replace ho8 := ho8.below hq11 (Nat.le_refl _)
  clear hq11
  clear ho8 hlo8
  go_wp2_with fail
  refine (mark_c _ _ _ _ _ _ _ ho4 (by omega) (by omega) hsm0).mono ?_
  rintro e w12 ⟨rfl, ho, hg⟩
  have hb12 := hb11.grown hg hb11.size (fun k hk => by have := (hlo4 k hk).1; omega)
  have hs12 := hg.size
  replace ho3 := ho3.kept hg (apart hlo3 hlo4 (by omega))
  replace ho5 := ho5.kept hg (apart hlo5 hlo4 (by omega))
  replace ho6 := ho6.kept hg (apart hlo6 hlo4 (by omega))
  clear ho4 hg
  have ho4 := ho
  clear ho
  go_wp2_with fail
  refine (mark_c _ _ _ _ _ _ _ ho5 (by omega) (by omega) hsm2).mono ?_
  rintro e w13 ⟨rfl, ho, hg⟩
  have hb13 := hb12.grown hg hb12.size (fun k hk => by have := (hlo5 k hk).1; omega)
  have hs13 := hg.size
  replace ho3 := ho3.kept hg (apart hlo3 hlo5 (by omega))
  replace ho4 := ho4.kept hg (apart hlo4 hlo5 (by omega))
  replace ho6 := ho6.kept hg (apart hlo6 hlo5 (by omega))
  clear ho5 hg
  have ho5 := ho
  clear ho
  clear ho4 hlo4
  clear ho5 hlo5
  go_wp2_with fail
  refine (quietB (eqIntS_c _ _ _ _ _ _ _ _ _ _ _ ho6.ints ho3.ints)).mono ?_
  rintro e w14 ⟨rfl, hq14⟩
  have hb14 := hb13.trans (hq14.mono hb13.size)
  have hs14 := hq14.size
  replace ho3 := ho3.below hq14 (Nat.le_refl _)
  replace ho6 := ho6.below hq14 (Nat.le_refl _)
  clear hq14
  have hmb6 := hide (show m6 ≤ 1048576 from by have := hm6.out; exact Nat.le_trans (Nat.le_of_eq this) (Nat.le_trans (mixedR_len zs0 a1 zs2 a3) (by decide)))
  go_wp2_with fail
  refine (mark_c _ _ _ _ _ _ _ ho6 (by omega) (by omega) hmb6.out).mono ?_
  rintro e w15 ⟨rfl, ho, hg⟩
  have hb15 := hb14.grown hg hb14.size (fun k hk => by have := (hlo6 k hk).1; omega)
  have hs15 := hg.size
  replace ho3 := ho3.kept hg (apart hlo3 hlo6 (by omega))
  clear ho6 hg
  have ho6 := ho
  clear ho
  go_wp2_with fail
  refine (sameB (heldIntS_c _ _ _ _ _ _ _ ho6.ints hm6.out (by omega) (by omega) hmb6.out)).mono ?_
  rintro e w16 ⟨rfl, hq16⟩
  have hb16 := hb15.trans (hq16.mono hb15.size)
  have hs16 := hq16.size
  replace ho3 := ho3.below hq16 (Nat.le_refl _)
  replace ho6 := ho6.below hq16 (Nat.le_refl _)
  clear hq16
  go_wp2_with fail
  refine (toIntS_c A0 n0 c0 _ zs0 _ (h0.below hb16) hb16.size hsm0).mono ?_
  rintro e w17 ⟨g9, rfl, ho9, hq17⟩
  have hlo9 := ho9.row.lt
  have hb17 := hb16.trans (hq17.mono hb16.size)
  have hs17 := hq17.size
  replace ho3 := ho3.below hq17 (Nat.le_refl _)
  replace ho6 := ho6.below hq17 (Nat.le_refl _)
  clear hq17
  go_wp2_with fail
  refine (toIntS_c A2 n2 c2 _ zs2 _ (h2.below hb17) hb17.size hsm2).mono ?_
  rintro e w18 ⟨g10, rfl, ho10, hq18⟩
  have hlo10 := ho10.row.lt
  have hb18 := hb17.trans (hq18.mono hb17.size)
  have hs18 := hq18.size
  replace ho3 := ho3.below hq18 (Nat.le_refl _)
  replace ho6 := ho6.below hq18 (Nat.le_refl _)
  replace ho9 := ho9.below hq18 (Nat.le_refl _)
  clear hq18
  go_wp2_with fail
  refine (mixedRow_impl _ _ _ _ _ _ _ _ zs0 zs2 a1 a3 _ ho9.ints ho10.ints (Nat.le_refl _) (Nat.le_refl _) wf1 wf3).mono ?_
  rintro e w19 ⟨B11, m11, d11, rfl, ho11, hq19⟩
  have hlo11 := ho11.row.lt
  have hm11 := hide ho11.len
  have hb19 := hb18.trans (hq19.mono hb18.size)
  have hs19 := hq19.size
  replace ho3 := ho3.below hq19 (Nat.le_refl _)
  replace ho6 := ho6.below hq19 (Nat.le_refl _)
  replace ho9 := ho9.below hq19 (Nat.le_refl _)
  replace ho10 := ho10.below hq19 (Nat.le_refl _)
  clear hq19
  go_wp2_with fail
  refine (quietB (eqIntS_c _ _ _ _ _ _ _ _ _ _ _ ho11.ints ho3.ints)).mono ?_
  rintro e w20 ⟨rfl, hq20⟩
  have hb20 := hb19.trans (hq20.mono hb19.size)
  have hs20 := hq20.size
  replace ho3 := ho3.below hq20 (Nat.le_refl _)
  replace ho6 := ho6.below hq20 (Nat.le_refl _)
  replace ho9 := ho9.below hq20 (Nat.le_refl _)
  replace ho10 := ho10.below hq20 (Nat.le_refl _)
  replace ho11 := ho11.below hq20 (Nat.le_refl _)
  clear hq20
  go_wp2_with fail
  refine (sameB (heldIntS_c _ _ _ _ _ _ _ ho6.ints hm6.out (by omega) (by omega) hmb6.out)).mono ?_
  rintro e w21 ⟨rfl, hq21⟩
  have hb21 := hb20.trans (hq21.mono hb20.size)
  have hs21 := hq21.size
  replace ho3 := ho3.below hq21 (Nat.le_refl _)
  replace ho6 := ho6.below hq21 (Nat.le_refl _)
  replace ho9 := ho9.below hq21 (Nat.le_refl _)
  replace ho10 := ho10.below hq21 (Nat.le_refl _)
  replace ho11 := ho11.below hq21 (Nat.le_refl _)
  clear hq21
  go_wp2_with fail
  go_ret
  exact ⟨rfl, hb21⟩

set_option maxHeartbeats 1600000 in
theorem exRowSums {A0 : Option Addr} {n0 c0 : Nat} {zs0 : List Int} {w : World} (h0 : Ints w w.heap.size A0 n0 c0 zs0) :
    Calls Try.prog 5 #[.slice A0 n0 c0] w fun e w' => e = .returned (.bool true) ∧ Below w.heap.size w w' := by
  have hn0 := h0.nb
  by_cases hbig0 : 1048576 < n0
  · go_enter Try.func5, Try.ntmps5
    go_wp2
    go_ret
    exact ⟨rfl, Below.refl _ _⟩
  have hz0 := hide h0.len
  have hsm0 : n0 ≤ 1048576 := by omega
  clear hbig0
  have hsamez0 := sameL_refl zs0
  have hb0 := Below.refl w.heap.size w
  go_enter Try.func5, Try.ntmps5
  go_wp2_with fail
  refine (toIntS_c A0 n0 c0 _ zs0 _ (h0.below hb0) hb0.size hsm0).mono ?_
  rintro e w1 ⟨g1, rfl, ho1, hq1⟩
  have hlo1 := ho1.row.lt
  have hb1 := hb0.trans (hq1.mono hb0.size)
  have hs1 := hq1.size
  clear hq1
  go_wp2_with fail
  refine (sameB (rowSums_spec _ _ _ _ zs0 _ ho1.ints)).mono ?_
  rintro e w2 ⟨rfl, hq2⟩
  have hb2 := hb1.trans (hq2.mono hb1.size)
  have hs2 := hq2.size
  replace ho1 := ho1.below hq2 (Nat.le_refl _)
  clear hq2
  clear ho1 hlo1
  go_wp2_with fail
  refine (toIntS_c A0 n0 c0 _ zs0 _ (h0.below hb2) hb2.size hsm0).mono ?_
  rintro e w3 ⟨g2, rfl, ho2, hq3⟩
  have hlo2 := ho2.row.lt
  have hb3 := hb2.trans (hq3.mono hb2.size)
  have hs3 := hq3.size
  clear hq3
  go_wp2_with fail
  refine (rowSums_impl _ _ _ _ zs0 _ ho2.ints (Nat.le_refl _)).mono ?_
  rintro e w4 ⟨rfl, hq4⟩
  have hb4 := hb3.trans (hq4.mono hb3.size)
  have hs4 := hq4.size
  replace ho2 := ho2.below hq4 (Nat.le_refl _)
  clear hq4
  go_wp2_with fail
  refine (toIntS_c A0 n0 c0 _ zs0 _ (h0.below hb4) hb4.size hsm0).mono ?_
  rintro e w5 ⟨g3, rfl, ho3, hq5⟩
  have hlo3 := ho3.row.lt
  have hb5 := hb4.trans (hq5.mono hb4.size)
  have hs5 := hq5.size
  replace ho2 := ho2.below hq5 (Nat.le_refl _)
  clear hq5
  go_wp2_with fail
  refine (quietB (eqIntS_c _ _ _ _ _ _ _ _ _ _ _ ho2.ints ho3.ints)).mono ?_
  rintro e w6 ⟨rfl, hq6⟩
  have hb6 := hb5.trans (hq6.mono hb5.size)
  have hs6 := hq6.size
  replace ho2 := ho2.below hq6 (Nat.le_refl _)
  replace ho3 := ho3.below hq6 (Nat.le_refl _)
  clear hq6
  clear ho3 hlo3
  go_wp2_with fail
  go_ret
  exact ⟨rfl, hb6⟩

end Go.Proofs.Ytnfjajamafkjoaa
