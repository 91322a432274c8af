/-
  The walks of exact laws (chapter 5): written by wip/exgen.py.
-/
import Derived.Test.YtffllkmaifjpfacSameI
import Derived.Test.YtffllkmaifjpfacZsame
namespace Go.Proofs.Ytffllkmaifjpfac
open Go.RowKit
set_option linter.unusedVariables false

set_option maxHeartbeats 1600000 in
theorem exSameCounts {A0 : Option Addr} {n0 c0 : Nat} {zs0 : List Int} {a1 : Int} {A2 : Option Addr} {n2 c2 : Nat} {zs2 : List Int} {w : World} (h0 : Ints w w.heap.size A0 n0 c0 zs0) (wf1 : (Lit.int .i64 a1).wf = true) (h2 : Ints w w.heap.size A2 n2 c2 zs2) :
    Calls Try.prog 8 #[.slice A0 n0 c0, .int .i64 a1, .slice A2 n2 c2] w fun e w' => e = .returned (.bool true) ∧ Below w.heap.size w w' := by
  have hn0 := h0.nb
  have hn2 := h2.nb
  by_cases hbig0 : 1048576 < n0
  · go_enter Try.func8, Try.ntmps8
    go_wp2
    go_ret
    exact ⟨rfl, Below.refl _ _⟩
  by_cases hbig2 : 1048576 < n2
  · go_enter Try.func8, Try.ntmps8
    go_wp2
    go_ret
    exact ⟨rfl, Below.refl _ _⟩
  have hz0 := hide h0.len
  have hz2 := hide h2.len
  have hsm0 : n0 ≤ 1048576 := by omega
  clear hbig0
  have hsm2 : n2 ≤ 1048576 := by omega
  clear hbig2
  have hsamez0 := sameL_refl zs0
  have hsamez2 := sameL_refl zs2
  have hb0 := Below.refl w.heap.size w
  go_enter Try.func8, Try.ntmps8
  go_wp2_with fail
  refine (toIntS_c A0 n0 c0 _ zs0 _ (h0.below hb0) hb0.size hsm0).mono ?_
  rintro e w1 ⟨g1, rfl, ho1, hq1⟩
  have hlo1 := ho1.row.lt
  have hb1 := hb0.trans (hq1.mono hb0.size)
  have hs1 := hq1.size
  clear hq1
  go_wp2_with fail
  refine (toIntS_c A2 n2 c2 _ zs2 _ (h2.below hb1) hb1.size hsm2).mono ?_
  rintro e w2 ⟨g2, rfl, ho2, hq2⟩
  have hlo2 := ho2.row.lt
  have hb2 := hb1.trans (hq2.mono hb1.size)
  have hs2 := hq2.size
  replace ho1 := ho1.below hq2 (Nat.le_refl _)
  clear hq2
  go_wp2_with fail
  refine (quietB (sameCounts_spec _ _ _ _ _ _ _ _ _ _ a1 _ ho1.ints ho2.ints)).mono ?_
  rintro e w3 ⟨rfl, hq3⟩
  have hb3 := hb2.trans (hq3.mono hb2.size)
  have hs3 := hq3.size
  replace ho1 := ho1.below hq3 (Nat.le_refl _)
  replace ho2 := ho2.below hq3 (Nat.le_refl _)
  clear hq3
  clear ho1 hlo1
  clear ho2 hlo2
  go_wp2_with fail
  refine (toIntS_c A0 n0 c0 _ zs0 _ (h0.below hb3) hb3.size hsm0).mono ?_
  rintro e w4 ⟨g3, rfl, ho3, hq4⟩
  have hlo3 := ho3.row.lt
  have hb4 := hb3.trans (hq4.mono hb3.size)
  have hs4 := hq4.size
  clear hq4
  go_wp2_with fail
  refine (toIntS_c A2 n2 c2 _ zs2 _ (h2.below hb4) hb4.size hsm2).mono ?_
  rintro e w5 ⟨g4, rfl, ho4, hq5⟩
  have hlo4 := ho4.row.lt
  have hb5 := hb4.trans (hq5.mono hb4.size)
  have hs5 := hq5.size
  replace ho3 := ho3.below hq5 (Nat.le_refl _)
  clear hq5
  go_wp2_with fail
  refine (sameCounts_impl _ _ _ _ _ _ _ _ _ _ a1 _ ho3.ints ho4.ints (Nat.le_refl _) (Nat.le_refl _) wf1).mono ?_
  rintro e w6 ⟨rfl, hq6⟩
  have hb6 := hb5.trans (hq6.mono hb5.size)
  have hs6 := hq6.size
  replace ho3 := ho3.below hq6 (Nat.le_refl _)
  replace ho4 := ho4.below hq6 (Nat.le_refl _)
  clear hq6
  go_wp2_with fail
  refine (toIntS_c A0 n0 c0 _ zs0 _ (h0.below hb6) hb6.size hsm0).mono ?_
  rintro e w7 ⟨g5, rfl, ho5, hq7⟩
  have hlo5 := ho5.row.lt
  have hb7 := hb6.trans (hq7.mono hb6.size)
  have hs7 := hq7.size
  replace ho3 := ho3.below hq7 (Nat.le_refl _)
  replace ho4 := ho4.below hq7 (Nat.le_refl _)
  clear hq7
  go_wp2_with fail
  refine (quietB (eqIntS_c _ _ _ _ _ _ _ _ _ _ _ ho3.ints ho5.ints)).mono ?_
  rintro e w8 ⟨rfl, hq8⟩
  have hb8 := hb7.trans (hq8.mono hb7.size)
  have hs8 := hq8.size
  replace ho3 := ho3.below hq8 (Nat.le_refl _)
  replace ho4 := ho4.below hq8 (Nat.le_refl _)
  replace ho5 := ho5.below hq8 (Nat.le_refl _)
  clear hq8
  clear ho5 hlo5
  go_wp2_with fail
  refine (toIntS_c A2 n2 c2 _ zs2 _ (h2.below hb8) hb8.size hsm2).mono ?_
  rintro e w9 ⟨g6, rfl, ho6, hq9⟩
  have hlo6 := ho6.row.lt
  have hb9 := hb8.trans (hq9.mono hb8.size)
  have hs9 := hq9.size
  replace ho3 := ho3.below hq9 (Nat.le_refl _)
  replace ho4 := ho4.below hq9 (Nat.le_refl _)
  clear hq9
  go_wp2_with fail
  refine (quietB (eqIntS_c _ _ _ _ _ _ _ _ _ _ _ ho4.ints ho6.ints)).mono ?_
  rintro e w10 ⟨rfl, hq10⟩
  have hb10 := hb9.trans (hq10.mono hb9.size)
  have hs10 := hq10.size
  replace ho3 := ho3.below hq10 (Nat.le_refl _)
  replace ho4 := ho4.below hq10 (Nat.le_refl _)
  replace ho6 := ho6.below hq10 (Nat.le_refl _)
  clear hq10
  clear ho6 hlo6
  go_wp2_with fail
  go_ret
  exact ⟨rfl, hb10⟩

end Go.Proofs.Ytffllkmaifjpfac
