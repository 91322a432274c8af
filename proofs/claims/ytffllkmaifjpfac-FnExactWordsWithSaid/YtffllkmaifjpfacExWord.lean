/-
  The walks of exact laws (chapter 2): written by wip/exgen.py.
-/
import Derived.Test.YtffllkmaifjpfacZimp
import Derived.Test.YtffllkmaifjpfacZword
namespace Go.Proofs.Ytffllkmaifjpfac
open Go.RowKit
set_option linter.unusedVariables false

set_option maxHeartbeats 1600000 in
theorem exWordsWith {a0 : Int} {A1 : Option Addr} {n1 c1 : Nat} {zs1 : List Int} {w : World} (wf0 : (Lit.int .i64 a0).wf = true) (h1 : Ints w w.heap.size A1 n1 c1 zs1) :
    Calls Try.prog 9 #[.int .i64 a0, .slice A1 n1 c1] w fun e w' => e = .returned (.bool true) ∧ Below w.heap.size w w' := by
  have hn1 := h1.nb
  by_cases hbig1 : 1048576 < n1
  · go_enter Try.func9, Try.ntmps9
    go_wp2
    go_ret
    exact ⟨rfl, Below.refl _ _⟩
  have hz1 := hide h1.len
  have hsm1 : n1 ≤ 1048576 := by omega
  clear hbig1
  have hsamez1 := sameL_refl zs1
  have hb0 := Below.refl w.heap.size w
  go_enter Try.func9, Try.ntmps9
  go_wp2_with fail
  refine (toIntS_c A1 n1 c1 _ zs1 _ (h1.below hb0) hb0.size hsm1).mono ?_
  rintro e w1 ⟨g1, rfl, ho1, hq1⟩
  have hlo1 := ho1.row.lt
  have hb1 := hb0.trans (hq1.mono hb0.size)
  have hs1 := hq1.size
  clear hq1
  go_wp2_with fail
  refine (sameB (wordsWith_spec a0 _ _ _ _ _ _ ho1.ints)).mono ?_
  rintro e w2 ⟨rfl, hq2⟩
  have hb2 := hb1.trans (hq2.mono hb1.size)
  have hs2 := hq2.size
  replace ho1 := ho1.below hq2 (Nat.le_refl _)
  clear hq2
  clear ho1 hlo1
  go_wp2_with fail
  refine (toIntS_c A1 n1 c1 _ zs1 _ (h1.below hb2) hb2.size hsm1).mono ?_
  rintro e w3 ⟨g2, rfl, ho2, hq3⟩
  have hlo2 := ho2.row.lt
  have hb3 := hb2.trans (hq3.mono hb2.size)
  have hs3 := hq3.size
  clear hq3
  go_wp2_with fail
  refine (wordsWith_impl a0 _ _ _ _ _ _ ho2.ints (Nat.le_refl _)).mono ?_
  rintro e w4 ⟨rfl, hq4⟩
  have hb4 := hb3.trans (hq4.mono hb3.size)
  have hs4 := hq4.size
  replace ho2 := ho2.below hq4 (Nat.le_refl _)
  clear hq4
  go_wp2_with fail
  refine (toIntS_c A1 n1 c1 _ zs1 _ (h1.below hb4) hb4.size hsm1).mono ?_
  rintro e w5 ⟨g3, rfl, ho3, hq5⟩
  have hlo3 := ho3.row.lt
  have hb5 := hb4.trans (hq5.mono hb4.size)
  have hs5 := hq5.size
  replace ho2 := ho2.below hq5 (Nat.le_refl _)
  clear hq5
  go_wp2_with fail
  refine (quietB (eqIntS_c _ _ _ _ _ _ _ _ _ _ _ ho2.ints ho3.ints)).mono ?_
  rintro e w6 ⟨rfl, hq6⟩
  have hb6 := hb5.trans (hq6.mono hb5.size)
  have hs6 := hq6.size
  replace ho2 := ho2.below hq6 (Nat.le_refl _)
  replace ho3 := ho3.below hq6 (Nat.le_refl _)
  clear hq6
  clear ho3 hlo3
  go_wp2_with fail
  go_ret
  exact ⟨rfl, hb6⟩

set_option maxHeartbeats 1600000 in
theorem exCountWays {A0 : Option Addr} {n0 c0 : Nat} {zs0 : List Int} {A1 : Option Addr} {n1 c1 : Nat} {zs1 : List Int} {w : World} (h0 : Ints w w.heap.size A0 n0 c0 zs0) (h1 : Ints w w.heap.size A1 n1 c1 zs1) :
    Calls Try.prog 7 #[.slice A0 n0 c0, .slice A1 n1 c1] w fun e w' => e = .returned (.bool true) ∧ Below w.heap.size w w' := by
  have hn0 := h0.nb
  have hn1 := h1.nb
  by_cases hbig0 : 1048576 < n0
  · go_enter Try.func7, Try.ntmps7
    go_wp2
    go_ret
    exact ⟨rfl, Below.refl _ _⟩
  by_cases hbig1 : 1048576 < n1
  · go_enter Try.func7, Try.ntmps7
    go_wp2
    go_ret
    exact ⟨rfl, Below.refl _ _⟩
  have hz0 := hide h0.len
  have hz1 := hide h1.len
  have hsm0 : n0 ≤ 1048576 := by omega
  clear hbig0
  have hsm1 : n1 ≤ 1048576 := by omega
  clear hbig1
  have hsamez0 := sameL_refl zs0
  have hsamez1 := sameL_refl zs1
  have hb0 := Below.refl w.heap.size w
  go_enter Try.func7, Try.ntmps7
  go_wp2_with fail
  refine (toIntS_c A0 n0 c0 _ zs0 _ (h0.below hb0) hb0.size hsm0).mono ?_
  rintro e w1 ⟨g1, rfl, ho1, hq1⟩
  have hlo1 := ho1.row.lt
  have hb1 := hb0.trans (hq1.mono hb0.size)
  have hs1 := hq1.size
  clear hq1
  go_wp2_with fail
  refine (toIntS_c A1 n1 c1 _ zs1 _ (h1.below hb1) hb1.size hsm1).mono ?_
  rintro e w2 ⟨g2, rfl, ho2, hq2⟩
  have hlo2 := ho2.row.lt
  have hb2 := hb1.trans (hq2.mono hb1.size)
  have hs2 := hq2.size
  replace ho1 := ho1.below hq2 (Nat.le_refl _)
  clear hq2
  go_wp2_with fail
  refine (sameB (countWays_spec _ _ _ _ _ _ _ _ _ _ _ ho1.ints ho2.ints)).mono ?_
  rintro e w3 ⟨rfl, hq3⟩
  have hb3 := hb2.trans (hq3.mono hb2.size)
  have hs3 := hq3.size
  replace ho1 := ho1.below hq3 (Nat.le_refl _)
  replace ho2 := ho2.below hq3 (Nat.le_refl _)
  clear hq3
  clear ho1 hlo1
  clear ho2 hlo2
  go_wp2_with fail
  refine (toIntS_c A0 n0 c0 _ zs0 _ (h0.below hb3) hb3.size hsm0).mono ?_
  rintro e w4 ⟨g3, rfl, ho3, hq4⟩
  have hlo3 := ho3.row.lt
  have hb4 := hb3.trans (hq4.mono hb3.size)
  have hs4 := hq4.size
  clear hq4
  go_wp2_with fail
  refine (toIntS_c A1 n1 c1 _ zs1 _ (h1.below hb4) hb4.size hsm1).mono ?_
  rintro e w5 ⟨g4, rfl, ho4, hq5⟩
  have hlo4 := ho4.row.lt
  have hb5 := hb4.trans (hq5.mono hb4.size)
  have hs5 := hq5.size
  replace ho3 := ho3.below hq5 (Nat.le_refl _)
  clear hq5
  go_wp2_with fail
  refine (countWays_impl _ _ _ _ _ _ _ _ _ _ _ ho3.ints ho4.ints (Nat.le_refl _) (Nat.le_refl _)).mono ?_
  rintro e w6 ⟨rfl, hq6⟩
  have hb6 := hb5.trans (hq6.mono hb5.size)
  have hs6 := hq6.size
  replace ho3 := ho3.below hq6 (Nat.le_refl _)
  replace ho4 := ho4.below hq6 (Nat.le_refl _)
  clear hq6
  go_wp2_with fail
  refine (toIntS_c A0 n0 c0 _ zs0 _ (h0.below hb6) hb6.size hsm0).mono ?_
  rintro e w7 ⟨g5, rfl, ho5, hq7⟩
  have hlo5 := ho5.row.lt
  have hb7 := hb6.trans (hq7.mono hb6.size)
  have hs7 := hq7.size
  replace ho3 := ho3.below hq7 (Nat.le_refl _)
  replace ho4 := ho4.below hq7 (Nat.le_refl _)
  clear hq7
  go_wp2_with fail
  refine (quietB (eqIntS_c _ _ _ _ _ _ _ _ _ _ _ ho3.ints ho5.ints)).mono ?_
  rintro e w8 ⟨rfl, hq8⟩
  have hb8 := hb7.trans (hq8.mono hb7.size)
  have hs8 := hq8.size
  replace ho3 := ho3.below hq8 (Nat.le_refl _)
  replace ho4 := ho4.below hq8 (Nat.le_refl _)
  replace ho5 := ho5.below hq8 (Nat.le_refl _)
  clear hq8
  clear ho5 hlo5
  go_wp2_with fail
  refine (toIntS_c A1 n1 c1 _ zs1 _ (h1.below hb8) hb8.size hsm1).mono ?_
  rintro e w9 ⟨g6, rfl, ho6, hq9⟩
  have hlo6 := ho6.row.lt
  have hb9 := hb8.trans (hq9.mono hb8.size)
  have hs9 := hq9.size
  replace ho3 := ho3.below hq9 (Nat.le_refl _)
  replace ho4 := ho4.below hq9 (Nat.le_refl _)
  clear hq9
  go_wp2_with fail
  refine (quietB (eqIntS_c _ _ _ _ _ _ _ _ _ _ _ ho4.ints ho6.ints)).mono ?_
  rintro e w10 ⟨rfl, hq10⟩
  have hb10 := hb9.trans (hq10.mono hb9.size)
  have hs10 := hq10.size
  replace ho3 := ho3.below hq10 (Nat.le_refl _)
  replace ho4 := ho4.below hq10 (Nat.le_refl _)
  replace ho6 := ho6.below hq10 (Nat.le_refl _)
  clear hq10
  clear ho6 hlo6
  go_wp2_with fail
  go_ret
  exact ⟨rfl, hb10⟩

end Go.Proofs.Ytffllkmaifjpfac
