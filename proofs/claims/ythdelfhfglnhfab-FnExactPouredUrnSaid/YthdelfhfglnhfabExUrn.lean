/-
  The walks of exact laws (chapter 1): written by wip/exgen.py.
-/
import Derived.Test.YthdelfhfglnhfabPour
namespace Go.Proofs.Ythdelfhfglnhfab
open Go.RowKit
set_option linter.unusedVariables false

set_option maxHeartbeats 1600000 in
theorem exPouredUrn {A0 : Option Addr} {n0 c0 : Nat} {zs0 : List Int} {A1 : Option Addr} {n1 c1 : Nat} {zs1 : List Int} {w : World} (h0 : Ints w w.heap.size A0 n0 c0 zs0) (h1 : Ints w w.heap.size A1 n1 c1 zs1) :
    Calls Try.prog 10 #[.slice A0 n0 c0, .slice A1 n1 c1] w fun e w' => e = .returned (.bool true) ∧ Below w.heap.size w w' := by
  have hn0 := h0.nb
  have hn1 := h1.nb
  by_cases hbig0 : 1048576 < n0
  · go_enter Try.func10, Try.ntmps10
    go_wp2
    go_ret
    exact ⟨rfl, Below.refl _ _⟩
  by_cases hbig1 : 1048576 < n1
  · go_enter Try.func10, Try.ntmps10
    go_wp2
    go_ret
    exact ⟨rfl, Below.refl _ _⟩
  have hz0 := hide h0.len
  have hz1 := hide h1.len
  have hsm0 : n0 ≤ 1048576 := by omega
  clear hbig0
  have hsm1 : n1 ≤ 1048576 := by omega
  clear hbig1
  have hsame0 := sameL_refl (pourL zs0 zs1)
  have hsamez0 := sameL_refl zs0
  have hsamez1 := sameL_refl zs1
  have hb0 := Below.refl w.heap.size w
  go_enter Try.func10, Try.ntmps10
  go_wp2_with fail
  refine (toIntS_c A0 n0 c0 _ zs0 _ (h0.below hb0) hb0.size hsm0).mono ?_
  rintro e w1 ⟨g1, rfl, ho1, hq1⟩
  have hlo1 := ho1.row.lt
  have hb1 := hb0.trans (hq1.mono hb0.size)
  have hs1 := hq1.size
  clear hq1
  go_wp2_with fail
  refine (toIntS_c A1 n1 c1 _ zs1 _ (h1.below hb1) hb1.size hsm1).mono ?_
  rintro e w2 ⟨g2, rfl, ho2, hq2⟩
  have hlo2 := ho2.row.lt
  have hb2 := hb1.trans (hq2.mono hb1.size)
  have hs2 := hq2.size
  replace ho1 := ho1.below hq2 (Nat.le_refl _)
  clear hq2
  go_wp2_with fail
  refine (pour_spec _ _ _ _ _ _ _ _ _ _ _ ho1.ints ho2.ints (Nat.le_refl _) (Nat.le_refl _)).mono ?_
  rintro e w3 ⟨B3, m3, d3, rfl, ho3, hq3⟩
  have hlo3 := ho3.row.lt
  have hm3 := hide ho3.len
  have hb3 := hb2.trans (hq3.mono hb2.size)
  have hs3 := hq3.size
  replace ho1 := ho1.below hq3 (Nat.le_refl _)
  replace ho2 := ho2.below hq3 (Nat.le_refl _)
  clear hq3
  clear ho1 hlo1
  clear ho2 hlo2
  go_wp2_with fail
  refine (toIntS_c A0 n0 c0 _ zs0 _ (h0.below hb3) hb3.size hsm0).mono ?_
  rintro e w4 ⟨g4, rfl, ho4, hq4⟩
  have hlo4 := ho4.row.lt
  have hb4 := hb3.trans (hq4.mono hb3.size)
  have hs4 := hq4.size
  replace ho3 := ho3.below hq4 (Nat.le_refl _)
  clear hq4
  go_wp2_with fail
  refine (toIntS_c A1 n1 c1 _ zs1 _ (h1.below hb4) hb4.size hsm1).mono ?_
  rintro e w5 ⟨g5, rfl, ho5, hq5⟩
  have hlo5 := ho5.row.lt
  have hb5 := hb4.trans (hq5.mono hb4.size)
  have hs5 := hq5.size
  replace ho3 := ho3.below hq5 (Nat.le_refl _)
  replace ho4 := ho4.below hq5 (Nat.le_refl _)
  clear hq5
  go_wp2_with fail
  refine (pour_impl _ _ _ _ _ _ _ _ _ _ _ ho4.ints ho5.ints (Nat.le_refl _) (Nat.le_refl _)).mono ?_
  rintro e w6 ⟨B6, m6, d6, rfl, ho6, hq6⟩
  have hlo6 := ho6.row.lt
  have hm6 := hide ho6.len
  have hb6 := hb5.trans (hq6.mono hb5.size)
  have hs6 := hq6.size
  replace ho3 := ho3.below hq6 (Nat.le_refl _)
  replace ho4 := ho4.below hq6 (Nat.le_refl _)
  replace ho5 := ho5.below hq6 (Nat.le_refl _)
  clear hq6
  go_wp2_with fail
  refine (quietB (eqIntS_c _ _ _ _ _ _ _ _ _ _ _ ho6.ints ho3.ints)).mono ?_
  rintro e w7 ⟨rfl, hq7⟩
  have hb7 := hb6.trans (hq7.mono hb6.size)
  have hs7 := hq7.size
  replace ho3 := ho3.below hq7 (Nat.le_refl _)
  replace ho4 := ho4.below hq7 (Nat.le_refl _)
  replace ho5 := ho5.below hq7 (Nat.le_refl _)
  replace ho6 := ho6.below hq7 (Nat.le_refl _)
  clear hq7
  go_wp2_with fail
  refine (toIntS_c A0 n0 c0 _ zs0 _ (h0.below hb7) hb7.size hsm0).mono ?_
  rintro e w8 ⟨g7, rfl, ho7, hq8⟩
  have hlo7 := ho7.row.lt
  have hb8 := hb7.trans (hq8.mono hb7.size)
  have hs8 := hq8.size
  replace ho3 := ho3.below hq8 (Nat.le_refl _)
  replace ho4 := ho4.below hq8 (Nat.le_refl _)
  replace ho5 := ho5.below hq8 (Nat.le_refl _)
  replace ho6 := ho6.below hq8 (Nat.le_refl _)
  clear hq8
  go_wp2_with fail
  refine (quietB (eqIntS_c _ _ _ _ _ _ _ _ _ _ _ ho4.ints ho7.ints)).mono ?_
  rintro e w9 ⟨rfl, hq9⟩
  have hb9 := hb8.trans (hq9.mono hb8.size)
  have hs9 := hq9.size
  replace ho3 := ho3.below hq9 (Nat.le_refl _)
  replace ho4 := ho4.below hq9 (Nat.le_refl _)
  replace ho5 := ho5.below hq9 (Nat.le_refl _)
  replace ho6 := ho6.below hq9 (Nat.le_refl _)
  replace ho7 := ho7.below hq9 (Nat.le_refl _)
  clear hq9
  clear ho7 hlo7
  go_wp2_with fail
  refine (toIntS_c A1 n1 c1 _ zs1 _ (h1.below hb9) hb9.size hsm1).mono ?_
  rintro e w10 ⟨g8, rfl, ho8, hq10⟩
  have hlo8 := ho8.row.lt
  have hb10 := hb9.trans (hq10.mono hb9.size)
  have hs10 := hq10.size
  replace ho3 := ho3.below hq10 (Nat.le_refl _)
  replace ho4 := ho4.below hq10 (Nat.le_refl _)
  replace ho5 := ho5.below hq10 (Nat.le_refl _)
  replace ho6 := ho6.below hq10 (Nat.le_refl _)
  clear hq10
  go_wp2_with fail
  refine (quietB (eqIntS_c _ _ _ _ _ _ _ _ _ _ _ ho5.ints ho8.ints)).mono ?_
  rintro e w11 ⟨rfl, hq11⟩
  have hb11 := hb10.trans (hq11.mono hb10.size)
  have hs11 := hq11.size
  replace ho3 := ho3.below hq11 (Nat.le_refl _)
  replace ho4 := ho4.below hq11 (Nat.le_refl _)
  replace ho5 := ho5.below hq11 (Nat.le_refl _)
  replace ho6 := ho6.below hq11 (Nat.le_refl _)
  replace ho8 := ho8.below hq11 (Nat.le_refl _)
  clear hq11
  clear ho8 hlo8
  go_wp2_with fail
  refine (mark_c _ _ _ _ _ _ _ ho4 (by omega) (by omega) hsm0).mono ?_
  rintro e w12 ⟨rfl, ho, hg⟩
  have hb12 := hb11.grown hg hb11.size (fun k hk => by have := (hlo4 k hk).1; omega)
  have hs12 := hg.size
  replace ho3 := ho3.kept hg (apart hlo3 hlo4 (by omega))
  replace ho5 := ho5.kept hg (apart hlo5 hlo4 (by omega))
  replace ho6 := ho6.kept hg (apart hlo6 hlo4 (by omega))
  clear ho4 hg
  have ho4 := ho
  clear ho
  go_wp2_with fail
  refine (mark_c _ _ _ _ _ _ _ ho5 (by omega) (by omega) hsm1).mono ?_
  rintro e w13 ⟨rfl, ho, hg⟩
  have hb13 := hb12.grown hg hb12.size (fun k hk => by have := (hlo5 k hk).1; omega)
  have hs13 := hg.size
  replace ho3 := ho3.kept hg (apart hlo3 hlo5 (by omega))
  replace ho4 := ho4.kept hg (apart hlo4 hlo5 (by omega))
  replace ho6 := ho6.kept hg (apart hlo6 hlo5 (by omega))
  clear ho5 hg
  have ho5 := ho
  clear ho
  clear ho4 hlo4
  clear ho5 hlo5
  go_wp2_with fail
  refine (quietB (eqIntS_c _ _ _ _ _ _ _ _ _ _ _ ho6.ints ho3.ints)).mono ?_
  rintro e w14 ⟨rfl, hq14⟩
  have hb14 := hb13.trans (hq14.mono hb13.size)
  have hs14 := hq14.size
  replace ho3 := ho3.below hq14 (Nat.le_refl _)
  replace ho6 := ho6.below hq14 (Nat.le_refl _)
  clear hq14
  have hmb6 := hide (show m6 ≤ 1048576 from by have := hm6.out; exact Nat.le_trans (Nat.le_of_eq this) (Nat.le_trans (pourL_len zs0 zs1) (by omega)))
  go_wp2_with fail
  refine (mark_c _ _ _ _ _ _ _ ho6 (by omega) (by omega) hmb6.out).mono ?_
  rintro e w15 ⟨rfl, ho, hg⟩
  have hb15 := hb14.grown hg hb14.size (fun k hk => by have := (hlo6 k hk).1; omega)
  have hs15 := hg.size
  replace ho3 := ho3.kept hg (apart hlo3 hlo6 (by omega))
  clear ho6 hg
  have ho6 := ho
  clear ho
  go_wp2_with fail
  refine (sameB (heldIntS_c _ _ _ _ _ _ _ ho6.ints hm6.out (by omega) (by omega) hmb6.out)).mono ?_
  rintro e w16 ⟨rfl, hq16⟩
  have hb16 := hb15.trans (hq16.mono hb15.size)
  have hs16 := hq16.size
  replace ho3 := ho3.below hq16 (Nat.le_refl _)
  replace ho6 := ho6.below hq16 (Nat.le_refl _)
  clear hq16
  go_wp2_with fail
  refine (toIntS_c A0 n0 c0 _ zs0 _ (h0.below hb16) hb16.size hsm0).mono ?_
  rintro e w17 ⟨g9, rfl, ho9, hq17⟩
  have hlo9 := ho9.row.lt
  have hb17 := hb16.trans (hq17.mono hb16.size)
  have hs17 := hq17.size
  replace ho3 := ho3.below hq17 (Nat.le_refl _)
  replace ho6 := ho6.below hq17 (Nat.le_refl _)
  clear hq17
  go_wp2_with fail
  refine (toIntS_c A1 n1 c1 _ zs1 _ (h1.below hb17) hb17.size hsm1).mono ?_
  rintro e w18 ⟨g10, rfl, ho10, hq18⟩
  have hlo10 := ho10.row.lt
  have hb18 := hb17.trans (hq18.mono hb17.size)
  have hs18 := hq18.size
  replace ho3 := ho3.below hq18 (Nat.le_refl _)
  replace ho6 := ho6.below hq18 (Nat.le_refl _)
  replace ho9 := ho9.below hq18 (Nat.le_refl _)
  clear hq18
  go_wp2_with fail
  refine (pour_impl _ _ _ _ _ _ _ _ _ _ _ ho9.ints ho10.ints (Nat.le_refl _) (Nat.le_refl _)).mono ?_
  rintro e w19 ⟨B11, m11, d11, rfl, ho11, hq19⟩
  have hlo11 := ho11.row.lt
  have hm11 := hide ho11.len
  have hb19 := hb18.trans (hq19.mono hb18.size)
  have hs19 := hq19.size
  replace ho3 := ho3.below hq19 (Nat.le_refl _)
  replace ho6 := ho6.below hq19 (Nat.le_refl _)
  replace ho9 := ho9.below hq19 (Nat.le_refl _)
  replace ho10 := ho10.below hq19 (Nat.le_refl _)
  clear hq19
  go_wp2_with fail
  refine (quietB (eqIntS_c _ _ _ _ _ _ _ _ _ _ _ ho11.ints ho3.ints)).mono ?_
  rintro e w20 ⟨rfl, hq20⟩
  have hb20 := hb19.trans (hq20.mono hb19.size)
  have hs20 := hq20.size
  replace ho3 := ho3.below hq20 (Nat.le_refl _)
  replace ho6 := ho6.below hq20 (Nat.le_refl _)
  replace ho9 := ho9.below hq20 (Nat.le_refl _)
  replace ho10 := ho10.below hq20 (Nat.le_refl _)
  replace ho11 := ho11.below hq20 (Nat.le_refl _)
  clear hq20
  go_wp2_with fail
  refine (sameB (heldIntS_c _ _ _ _ _ _ _ ho6.ints hm6.out (by omega) (by omega) hmb6.out)).mono ?_
  rintro e w21 ⟨rfl, hq21⟩
  have hb21 := hb20.trans (hq21.mono hb20.size)
  have hs21 := hq21.size
  replace ho3 := ho3.below hq21 (Nat.le_refl _)
  replace ho6 := ho6.below hq21 (Nat.le_refl _)
  replace ho9 := ho9.below hq21 (Nat.le_refl _)
  replace ho10 := ho10.below hq21 (Nat.le_refl _)
  replace ho11 := ho11.below hq21 (Nat.le_refl _)
  clear hq21
  go_wp2_with fail
  go_ret
  exact ⟨rfl, hb21⟩

end Go.Proofs.Ythdelfhfglnhfab
