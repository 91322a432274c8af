/-
  The walks of exact laws (chapter 7): written by wip/exgen.py.
-/
import Derived.Test.YtpjbccdhfnhopabRoomI
import Derived.Test.YtpjbccdhfnhopabRoomT
import Derived.Test.YtpjbccdhfnhopabZdraw
namespace Go.Proofs.Ytpjbccdhfnhopab
open Go.RowKit
set_option linter.unusedVariables false

set_option maxHeartbeats 1600000 in
theorem exRoomStep {a0 : Int} {A1 : Option Addr} {n1 c1 : Nat} {zs1 : List Int} {w : World} (wf0 : (Lit.int .i64 a0).wf = true) (h1 : Ints w w.heap.size A1 n1 c1 zs1) :
    Calls Try.prog 3 #[.int .i64 a0, .slice A1 n1 c1] w fun e w' => e = .returned (.bool true) ∧ Below w.heap.size w w' := by
  have hn1 := h1.nb
  by_cases hbig1 : 1048576 < n1
  · go_enter Try.func3, Try.ntmps3
    go_wp2
    go_ret
    exact ⟨rfl, Below.refl _ _⟩
  have hz1 := hide h1.len
  have hsm1 : n1 ≤ 1048576 := by omega
  clear hbig1
  have hsame0 := sameL_refl (roomStep a0 zs1)
  have hsamez1 := sameL_refl zs1
  have hb0 := Below.refl w.heap.size w
  go_enter Try.func3, Try.ntmps3
  go_wp2_with fail
  refine (toIntS_c A1 n1 c1 _ zs1 _ (h1.below hb0) hb0.size hsm1).mono ?_
  rintro e w1 ⟨g1, rfl, ho1, hq1⟩
  have hlo1 := ho1.row.lt
  have hb1 := hb0.trans (hq1.mono hb0.size)
  have hs1 := hq1.size
  clear hq1
  go_wp2_with fail
  refine (roomStep_spec a0 _ _ _ _ _ _ ho1.ints (Nat.le_refl _)).mono ?_
  rintro e w2 ⟨B2, m2, d2, rfl, ho2, hq2⟩
  have hlo2 := ho2.row.lt
  have hm2 := hide ho2.len
  have hb2 := hb1.trans (hq2.mono hb1.size)
  have hs2 := hq2.size
  replace ho1 := ho1.below hq2 (Nat.le_refl _)
  clear hq2
  clear ho1 hlo1
  go_wp2_with fail
  refine (toIntS_c A1 n1 c1 _ zs1 _ (h1.below hb2) hb2.size hsm1).mono ?_
  rintro e w3 ⟨g3, rfl, ho3, hq3⟩
  have hlo3 := ho3.row.lt
  have hb3 := hb2.trans (hq3.mono hb2.size)
  have hs3 := hq3.size
  replace ho2 := ho2.below hq3 (Nat.le_refl _)
  clear hq3
  go_wp2_with fail
  refine (roomStep_impl a0 _ _ _ _ _ _ ho3.ints (Nat.le_refl _) wf0).mono ?_
  rintro e w4 ⟨B4, m4, d4, rfl, ho4, hq4⟩
  have hlo4 := ho4.row.lt
  have hm4 := hide ho4.len
  have hb4 := hb3.trans (hq4.mono hb3.size)
  have hs4 := hq4.size
  replace ho2 := ho2.below hq4 (Nat.le_refl _)
  replace ho3 := ho3.below hq4 (Nat.le_refl _)
  clear hq4
  go_wp2_with fail
  refine (quietB (eqIntS_c _ _ _ _ _ _ _ _ _ _ _ ho4.ints ho2.ints)).mono ?_
  rintro e w5 ⟨rfl, hq5⟩
  have hb5 := hb4.trans (hq5.mono hb4.size)
  have hs5 := hq5.size
  replace ho2 := ho2.below hq5 (Nat.le_refl _)
  replace ho3 := ho3.below hq5 (Nat.le_refl _)
  replace ho4 := ho4.below hq5 (Nat.le_refl _)
  clear hq5
  go_wp2_with fail
  refine (toIntS_c A1 n1 c1 _ zs1 _ (h1.below hb5) hb5.size hsm1).mono ?_
  rintro e w6 ⟨g5, rfl, ho5, hq6⟩
  have hlo5 := ho5.row.lt
  have hb6 := hb5.trans (hq6.mono hb5.size)
  have hs6 := hq6.size
  replace ho2 := ho2.below hq6 (Nat.le_refl _)
  replace ho3 := ho3.below hq6 (Nat.le_refl _)
  replace ho4 := ho4.below hq6 (Nat.le_refl _)
  clear hq6
  go_wp2_with fail
  refine (quietB (eqIntS_c _ _ _ _ _ _ _ _ _ _ _ ho3.ints ho5.ints)).mono ?_
  rintro e w7 ⟨rfl, hq7⟩
  have hb7 := hb6.trans (hq7.mono hb6.size)
  have hs7 := hq7.size
  replace ho2 := ho2.below hq7 (Nat.le_refl _)
  replace ho3 := ho3.below hq7 (Nat.le_refl _)
  replace ho4 := ho4.below hq7 (Nat.le_refl _)
  replace ho5 := ho5.below hq7 (Nat.le_refl _)
  clear hq7
  clear ho5 hlo5
  go_wp2_with fail
  refine (mark_c _ _ _ _ _ _ _ ho3 (by omega) (by omega) hsm1).mono ?_
  rintro e w8 ⟨rfl, ho, hg⟩
  have hb8 := hb7.grown hg hb7.size (fun k hk => by have := (hlo3 k hk).1; omega)
  have hs8 := hg.size
  replace ho2 := ho2.kept hg (apart hlo2 hlo3 (by omega))
  replace ho4 := ho4.kept hg (apart hlo4 hlo3 (by omega))
  clear ho3 hg
  have ho3 := ho
  clear ho
  clear ho3 hlo3
  go_wp2_with fail
  refine (quietB (eqIntS_c _ _ _ _ _ _ _ _ _ _ _ ho4.ints ho2.ints)).mono ?_
  rintro e w9 ⟨rfl, hq9⟩
  have hb9 := hb8.trans (hq9.mono hb8.size)
  have hs9 := hq9.size
  replace ho2 := ho2.below hq9 (Nat.le_refl _)
  replace ho4 := ho4.below hq9 (Nat.le_refl _)
  clear hq9
  have hmb4 := hide (show m4 ≤ 1048576 from by have := hm4.out; exact Nat.le_trans (Nat.le_of_eq this) (Nat.le_trans (roomStep_len a0 zs1) (by omega)))
  go_wp2_with fail
  refine (mark_c _ _ _ _ _ _ _ ho4 (by omega) (by omega) hmb4.out).mono ?_
  rintro e w10 ⟨rfl, ho, hg⟩
  have hb10 := hb9.grown hg hb9.size (fun k hk => by have := (hlo4 k hk).1; omega)
  have hs10 := hg.size
  replace ho2 := ho2.kept hg (apart hlo2 hlo4 (by omega))
  clear ho4 hg
  have ho4 := ho
  clear ho
  go_wp2_with fail
  refine (sameB (heldIntS_c _ _ _ _ _ _ _ ho4.ints hm4.out (by omega) (by omega) hmb4.out)).mono ?_
  rintro e w11 ⟨rfl, hq11⟩
  have hb11 := hb10.trans (hq11.mono hb10.size)
  have hs11 := hq11.size
  replace ho2 := ho2.below hq11 (Nat.le_refl _)
  replace ho4 := ho4.below hq11 (Nat.le_refl _)
  clear hq11
  go_wp2_with fail
  refine (toIntS_c A1 n1 c1 _ zs1 _ (h1.below hb11) hb11.size hsm1).mono ?_
  rintro e w12 ⟨g6, rfl, ho6, hq12⟩
  have hlo6 := ho6.row.lt
  have hb12 := hb11.trans (hq12.mono hb11.size)
  have hs12 := hq12.size
  replace ho2 := ho2.below hq12 (Nat.le_refl _)
  replace ho4 := ho4.below hq12 (Nat.le_refl _)
  clear hq12
  go_wp2_with fail
  refine (roomStep_impl a0 _ _ _ _ _ _ ho6.ints (Nat.le_refl _) wf0).mono ?_
  rintro e w13 ⟨B7, m7, d7, rfl, ho7, hq13⟩
  have hlo7 := ho7.row.lt
  have hm7 := hide ho7.len
  have hb13 := hb12.trans (hq13.mono hb12.size)
  have hs13 := hq13.size
  replace ho2 := ho2.below hq13 (Nat.le_refl _)
  replace ho4 := ho4.below hq13 (Nat.le_refl _)
  replace ho6 := ho6.below hq13 (Nat.le_refl _)
  clear hq13
  go_wp2_with fail
  refine (quietB (eqIntS_c _ _ _ _ _ _ _ _ _ _ _ ho7.ints ho2.ints)).mono ?_
  rintro e w14 ⟨rfl, hq14⟩
  have hb14 := hb13.trans (hq14.mono hb13.size)
  have hs14 := hq14.size
  replace ho2 := ho2.below hq14 (Nat.le_refl _)
  replace ho4 := ho4.below hq14 (Nat.le_refl _)
  replace ho6 := ho6.below hq14 (Nat.le_refl _)
  replace ho7 := ho7.below hq14 (Nat.le_refl _)
  clear hq14
  go_wp2_with fail
  refine (sameB (heldIntS_c _ _ _ _ _ _ _ ho4.ints hm4.out (by omega) (by omega) hmb4.out)).mono ?_
  rintro e w15 ⟨rfl, hq15⟩
  have hb15 := hb14.trans (hq15.mono hb14.size)
  have hs15 := hq15.size
  replace ho2 := ho2.below hq15 (Nat.le_refl _)
  replace ho4 := ho4.below hq15 (Nat.le_refl _)
  replace ho6 := ho6.below hq15 (Nat.le_refl _)
  replace ho7 := ho7.below hq15 (Nat.le_refl _)
  clear hq15
  go_wp2_with fail
  go_ret
  exact ⟨rfl, hb15⟩

set_option maxHeartbeats 1600000 in
theorem exRoomAfter {a0 : Int} {a1 : Int} {a2 : Int} {w : World} (wf0 : (Lit.int .i64 a0).wf = true) (wf1 : (Lit.int .i64 a1).wf = true) (wf2 : (Lit.int .i64 a2).wf = true) :
    Calls Try.prog 4 #[.int .i64 a0, .int .i64 a1, .int .i64 a2] w fun e w' => e = .returned (.bool true) ∧ Below w.heap.size w w' := by
  have hsame0 := sameL_refl (roomA a0 a1 a2)
  have hb0 := Below.refl w.heap.size w
  go_enter Try.func4, Try.ntmps4
  go_wp2_with fail
  refine (roomAfter_spec a0 a1 a2 _).mono ?_
  rintro e w1 ⟨B1, m1, d1, rfl, ho1, hq1⟩
  have hlo1 := ho1.row.lt
  have hm1 := hide ho1.len
  have hb1 := hb0.trans (hq1.mono hb0.size)
  have hs1 := hq1.size
  clear hq1
  go_wp2_with fail
  refine (roomAfter_impl a0 a1 a2 _ wf0 wf1 wf2).mono ?_
  rintro e w2 ⟨B2, m2, d2, rfl, ho2, hq2⟩
  have hlo2 := ho2.row.lt
  have hm2 := hide ho2.len
  have hb2 := hb1.trans (hq2.mono hb1.size)
  have hs2 := hq2.size
  replace ho1 := ho1.below hq2 (Nat.le_refl _)
  clear hq2
  go_wp2_with fail
  refine (quietB (eqIntS_c _ _ _ _ _ _ _ _ _ _ _ ho2.ints ho1.ints)).mono ?_
  rintro e w3 ⟨rfl, hq3⟩
  have hb3 := hb2.trans (hq3.mono hb2.size)
  have hs3 := hq3.size
  replace ho1 := ho1.below hq3 (Nat.le_refl _)
  replace ho2 := ho2.below hq3 (Nat.le_refl _)
  clear hq3
  have hmb2 := hide (show m2 ≤ 1048576 from by have := hm2.out; exact Nat.le_trans (Nat.le_of_eq this) (Nat.le_trans (roomA_len a0 a1 a2) (by decide)))
  go_wp2_with fail
  refine (mark_c _ _ _ _ _ _ _ ho2 (by omega) (by omega) hmb2.out).mono ?_
  rintro e w4 ⟨rfl, ho, hg⟩
  have hb4 := hb3.grown hg hb3.size (fun k hk => by have := (hlo2 k hk).1; omega)
  have hs4 := hg.size
  replace ho1 := ho1.kept hg (apart hlo1 hlo2 (by omega))
  clear ho2 hg
  have ho2 := ho
  clear ho
  go_wp2_with fail
  refine (sameB (heldIntS_c _ _ _ _ _ _ _ ho2.ints hm2.out (by omega) (by omega) hmb2.out)).mono ?_
  rintro e w5 ⟨rfl, hq5⟩
  have hb5 := hb4.trans (hq5.mono hb4.size)
  have hs5 := hq5.size
  replace ho1 := ho1.below hq5 (Nat.le_refl _)
  replace ho2 := ho2.below hq5 (Nat.le_refl _)
  clear hq5
  go_wp2_with fail
  refine (roomAfter_impl a0 a1 a2 _ wf0 wf1 wf2).mono ?_
  rintro e w6 ⟨B3, m3, d3, rfl, ho3, hq6⟩
  have hlo3 := ho3.row.lt
  have hm3 := hide ho3.len
  have hb6 := hb5.trans (hq6.mono hb5.size)
  have hs6 := hq6.size
  replace ho1 := ho1.below hq6 (Nat.le_refl _)
  replace ho2 := ho2.below hq6 (Nat.le_refl _)
  clear hq6
  go_wp2_with fail
  refine (quietB (eqIntS_c _ _ _ _ _ _ _ _ _ _ _ ho3.ints ho1.ints)).mono ?_
  rintro e w7 ⟨rfl, hq7⟩
  have hb7 := hb6.trans (hq7.mono hb6.size)
  have hs7 := hq7.size
  replace ho1 := ho1.below hq7 (Nat.le_refl _)
  replace ho2 := ho2.below hq7 (Nat.le_refl _)
  replace ho3 := ho3.below hq7 (Nat.le_refl _)
  clear hq7
  go_wp2_with fail
  refine (sameB (heldIntS_c _ _ _ _ _ _ _ ho2.ints hm2.out (by omega) (by omega) hmb2.out)).mono ?_
  rintro e w8 ⟨rfl, hq8⟩
  have hb8 := hb7.trans (hq8.mono hb7.size)
  have hs8 := hq8.size
  replace ho1 := ho1.below hq8 (Nat.le_refl _)
  replace ho2 := ho2.below hq8 (Nat.le_refl _)
  replace ho3 := ho3.below hq8 (Nat.le_refl _)
  clear hq8
  go_wp2_with fail
  go_ret
  exact ⟨rfl, hb8⟩

set_option maxHeartbeats 1600000 in
theorem exRestRow {a0 : Int} {w : World} (wf0 : (Lit.int .i64 a0).wf = true) :
    Calls Try.prog 5 #[.int .i64 a0] w fun e w' => e = .returned (.bool true) ∧ Below w.heap.size w w' := by
  have hsame0 := sameL_refl (restR a0)
  have hb0 := Below.refl w.heap.size w
  go_enter Try.func5, Try.ntmps5
  go_wp2_with fail
  refine (restRow_spec a0 _).mono ?_
  rintro e w1 ⟨B1, m1, d1, rfl, ho1, hq1⟩
  have hlo1 := ho1.row.lt
  have hm1 := hide ho1.len
  have hb1 := hb0.trans (hq1.mono hb0.size)
  have hs1 := hq1.size
  clear hq1
  go_wp2_with fail
  refine (restRow_impl a0 _ wf0).mono ?_
  rintro e w2 ⟨B2, m2, d2, rfl, ho2, hq2⟩
  have hlo2 := ho2.row.lt
  have hm2 := hide ho2.len
  have hb2 := hb1.trans (hq2.mono hb1.size)
  have hs2 := hq2.size
  replace ho1 := ho1.below hq2 (Nat.le_refl _)
  clear hq2
  go_wp2_with fail
  refine (quietB (eqIntS_c _ _ _ _ _ _ _ _ _ _ _ ho2.ints ho1.ints)).mono ?_
  rintro e w3 ⟨rfl, hq3⟩
  have hb3 := hb2.trans (hq3.mono hb2.size)
  have hs3 := hq3.size
  replace ho1 := ho1.below hq3 (Nat.le_refl _)
  replace ho2 := ho2.below hq3 (Nat.le_refl _)
  clear hq3
  have hmb2 := hide (show m2 ≤ 1048576 from by have := hm2.out; exact Nat.le_trans (Nat.le_of_eq this) (Nat.le_trans (restR_len a0) (by decide)))
  go_wp2_with fail
  refine (mark_c _ _ _ _ _ _ _ ho2 (by omega) (by omega) hmb2.out).mono ?_
  rintro e w4 ⟨rfl, ho, hg⟩
  have hb4 := hb3.grown hg hb3.size (fun k hk => by have := (hlo2 k hk).1; omega)
  have hs4 := hg.size
  replace ho1 := ho1.kept hg (apart hlo1 hlo2 (by omega))
  clear ho2 hg
  have ho2 := ho
  clear ho
  go_wp2_with fail
  refine (sameB (heldIntS_c _ _ _ _ _ _ _ ho2.ints hm2.out (by omega) (by omega) hmb2.out)).mono ?_
  rintro e w5 ⟨rfl, hq5⟩
  have hb5 := hb4.trans (hq5.mono hb4.size)
  have hs5 := hq5.size
  replace ho1 := ho1.below hq5 (Nat.le_refl _)
  replace ho2 := ho2.below hq5 (Nat.le_refl _)
  clear hq5
  go_wp2_with fail
  refine (restRow_impl a0 _ wf0).mono ?_
  rintro e w6 ⟨B3, m3, d3, rfl, ho3, hq6⟩
  have hlo3 := ho3.row.lt
  have hm3 := hide ho3.len
  have hb6 := hb5.trans (hq6.mono hb5.size)
  have hs6 := hq6.size
  replace ho1 := ho1.below hq6 (Nat.le_refl _)
  replace ho2 := ho2.below hq6 (Nat.le_refl _)
  clear hq6
  go_wp2_with fail
  refine (quietB (eqIntS_c _ _ _ _ _ _ _ _ _ _ _ ho3.ints ho1.ints)).mono ?_
  rintro e w7 ⟨rfl, hq7⟩
  have hb7 := hb6.trans (hq7.mono hb6.size)
  have hs7 := hq7.size
  replace ho1 := ho1.below hq7 (Nat.le_refl _)
  replace ho2 := ho2.below hq7 (Nat.le_refl _)
  replace ho3 := ho3.below hq7 (Nat.le_refl _)
  clear hq7
  go_wp2_with fail
  refine (sameB (heldIntS_c _ _ _ _ _ _ _ ho2.ints hm2.out (by omega) (by omega) hmb2.out)).mono ?_
  rintro e w8 ⟨rfl, hq8⟩
  have hb8 := hb7.trans (hq8.mono hb7.size)
  have hs8 := hq8.size
  replace ho1 := ho1.below hq8 (Nat.le_refl _)
  replace ho2 := ho2.below hq8 (Nat.le_refl _)
  replace ho3 := ho3.below hq8 (Nat.le_refl _)
  clear hq8
  go_wp2_with fail
  go_ret
  exact ⟨rfl, hb8⟩

set_option maxHeartbeats 1600000 in
theorem exLeanAfter {a0 : Int} {a1 : Int} {a2 : Int} {w : World} (wf0 : (Lit.int .i64 a0).wf = true) (wf1 : (Lit.int .i64 a1).wf = true) (wf2 : (Lit.int .i64 a2).wf = true) :
    Calls Try.prog 6 #[.int .i64 a0, .int .i64 a1, .int .i64 a2] w fun e w' => e = .returned (.bool true) ∧ Below w.heap.size w w' := by
  have hb0 := Below.refl w.heap.size w
  go_enter Try.func6, Try.ntmps6
  go_wp2_with fail
  refine (leanAfter_spec a0 a1 a2 _).mono ?_
  rintro e w1 ⟨rfl, hq1⟩
  have hb1 := hb0.trans (hq1.mono hb0.size)
  have hs1 := hq1.size
  clear hq1
  go_wp2_with fail
  refine (leanAfter_impl a0 a1 a2 _ wf0 wf1 wf2).mono ?_
  rintro e w2 ⟨rfl, hq2⟩
  have hb2 := hb1.trans (hq2.mono hb1.size)
  have hs2 := hq2.size
  clear hq2
  go_wp2_with fail
  go_ret
  exact ⟨rfl, hb2⟩

end Go.Proofs.Ytpjbccdhfnhopab
