/-
  The walks of exact laws (chapter 10): written by wip/exgen.py.
-/
import Derived.Test.YtghaajcpmepdoaaRunI
import Derived.Test.YtghaajcpmepdoaaZdraw
namespace Go.Proofs.Ytghaajcpmepdoaa
open Go.RowKit
set_option linter.unusedVariables false

set_option maxHeartbeats 1600000 in
theorem exRunsOf {a0 : Int} {A1 : Option Addr} {n1 c1 : Nat} {zs1 : List Int} {w : World} (wf0 : (Lit.int .i64 a0).wf = true) (h1 : Ints w w.heap.size A1 n1 c1 zs1) :
    Calls Try.prog 4 #[.int .i64 a0, .slice A1 n1 c1] w fun e w' => e = .returned (.bool true) ∧ Below w.heap.size w w' := by
  have hn1 := h1.nb
  by_cases hbig1 : 1048576 < n1
  · go_enter Try.func4, Try.ntmps4
    go_wp2
    go_ret
    exact ⟨rfl, Below.refl _ _⟩
  have hz1 := hide h1.len
  have hsm1 : n1 ≤ 1048576 := by omega
  clear hbig1
  have hsamez1 := sameL_refl zs1
  have hb0 := Below.refl w.heap.size w
  go_enter Try.func4, Try.ntmps4
  go_wp2_with fail
  refine (toIntS_c A1 n1 c1 _ zs1 _ (h1.below hb0) hb0.size hsm1).mono ?_
  rintro e w1 ⟨g1, rfl, ho1, hq1⟩
  have hlo1 := ho1.row.lt
  have hb1 := hb0.trans (hq1.mono hb0.size)
  have hs1 := hq1.size
  clear hq1
  go_wp2_with fail
  refine (quietB (runsOf_spec a0 _ _ _ _ zs1 _ ho1.ints)).mono ?_
  rintro e w2 ⟨rfl, hq2⟩
  have hb2 := hb1.trans (hq2.mono hb1.size)
  have hs2 := hq2.size
  replace ho1 := ho1.below hq2 (Nat.le_refl _)
  clear hq2
  clear ho1 hlo1
  go_wp2_with fail
  refine (toIntS_c A1 n1 c1 _ zs1 _ (h1.below hb2) hb2.size hsm1).mono ?_
  rintro e w3 ⟨g2, rfl, ho2, hq3⟩
  have hlo2 := ho2.row.lt
  have hb3 := hb2.trans (hq3.mono hb2.size)
  have hs3 := hq3.size
  clear hq3
  go_wp2_with fail
  refine (runsOf_impl a0 _ _ _ _ zs1 _ ho2.ints (Nat.le_refl _)).mono ?_
  rintro e w4 ⟨rfl, hq4⟩
  have hb4 := hb3.trans (hq4.mono hb3.size)
  have hs4 := hq4.size
  replace ho2 := ho2.below hq4 (Nat.le_refl _)
  clear hq4
  go_wp2_with fail
  refine (toIntS_c A1 n1 c1 _ zs1 _ (h1.below hb4) hb4.size hsm1).mono ?_
  rintro e w5 ⟨g3, rfl, ho3, hq5⟩
  have hlo3 := ho3.row.lt
  have hb5 := hb4.trans (hq5.mono hb4.size)
  have hs5 := hq5.size
  replace ho2 := ho2.below hq5 (Nat.le_refl _)
  clear hq5
  go_wp2_with fail
  refine (quietB (eqIntS_c _ _ _ _ _ _ _ _ _ _ _ ho2.ints ho3.ints)).mono ?_
  rintro e w6 ⟨rfl, hq6⟩
  have hb6 := hb5.trans (hq6.mono hb5.size)
  have hs6 := hq6.size
  replace ho2 := ho2.below hq6 (Nat.le_refl _)
  replace ho3 := ho3.below hq6 (Nat.le_refl _)
  clear hq6
  clear ho3 hlo3
  go_wp2_with fail
  go_ret
  exact ⟨rfl, hb6⟩

set_option maxHeartbeats 1600000 in
theorem exLongestRun {a0 : Int} {A1 : Option Addr} {n1 c1 : Nat} {zs1 : List Int} {w : World} (wf0 : (Lit.int .i64 a0).wf = true) (h1 : Ints w w.heap.size A1 n1 c1 zs1) :
    Calls Try.prog 6 #[.int .i64 a0, .slice A1 n1 c1] w fun e w' => e = .returned (.bool true) ∧ Below w.heap.size w w' := by
  have hn1 := h1.nb
  by_cases hbig1 : 1048576 < n1
  · go_enter Try.func6, Try.ntmps6
    go_wp2
    go_ret
    exact ⟨rfl, Below.refl _ _⟩
  have hz1 := hide h1.len
  have hsm1 : n1 ≤ 1048576 := by omega
  clear hbig1
  have hsamez1 := sameL_refl zs1
  have hb0 := Below.refl w.heap.size w
  go_enter Try.func6, Try.ntmps6
  go_wp2_with fail
  refine (toIntS_c A1 n1 c1 _ zs1 _ (h1.below hb0) hb0.size hsm1).mono ?_
  rintro e w1 ⟨g1, rfl, ho1, hq1⟩
  have hlo1 := ho1.row.lt
  have hb1 := hb0.trans (hq1.mono hb0.size)
  have hs1 := hq1.size
  clear hq1
  go_wp2_with fail
  refine (quietB (longestRun_spec a0 _ _ _ _ zs1 _ ho1.ints)).mono ?_
  rintro e w2 ⟨rfl, hq2⟩
  have hb2 := hb1.trans (hq2.mono hb1.size)
  have hs2 := hq2.size
  replace ho1 := ho1.below hq2 (Nat.le_refl _)
  clear hq2
  clear ho1 hlo1
  go_wp2_with fail
  refine (toIntS_c A1 n1 c1 _ zs1 _ (h1.below hb2) hb2.size hsm1).mono ?_
  rintro e w3 ⟨g2, rfl, ho2, hq3⟩
  have hlo2 := ho2.row.lt
  have hb3 := hb2.trans (hq3.mono hb2.size)
  have hs3 := hq3.size
  clear hq3
  go_wp2_with fail
  refine (longestRun_impl a0 _ _ _ _ zs1 _ ho2.ints (Nat.le_refl _)).mono ?_
  rintro e w4 ⟨rfl, hq4⟩
  have hb4 := hb3.trans (hq4.mono hb3.size)
  have hs4 := hq4.size
  replace ho2 := ho2.below hq4 (Nat.le_refl _)
  clear hq4
  go_wp2_with fail
  refine (toIntS_c A1 n1 c1 _ zs1 _ (h1.below hb4) hb4.size hsm1).mono ?_
  rintro e w5 ⟨g3, rfl, ho3, hq5⟩
  have hlo3 := ho3.row.lt
  have hb5 := hb4.trans (hq5.mono hb4.size)
  have hs5 := hq5.size
  replace ho2 := ho2.below hq5 (Nat.le_refl _)
  clear hq5
  go_wp2_with fail
  refine (quietB (eqIntS_c _ _ _ _ _ _ _ _ _ _ _ ho2.ints ho3.ints)).mono ?_
  rintro e w6 ⟨rfl, hq6⟩
  have hb6 := hb5.trans (hq6.mono hb5.size)
  have hs6 := hq6.size
  replace ho2 := ho2.below hq6 (Nat.le_refl _)
  replace ho3 := ho3.below hq6 (Nat.le_refl _)
  clear hq6
  clear ho3 hlo3
  go_wp2_with fail
  go_ret
  exact ⟨rfl, hb6⟩

set_option maxHeartbeats 1600000 in
theorem exRunWords {a0 : Int} {a1 : Int} {a2 : Int} {w : World} (wf0 : (Lit.int .i64 a0).wf = true) (wf1 : (Lit.int .i64 a1).wf = true) (wf2 : (Lit.int .i64 a2).wf = true) :
    Calls Try.prog 8 #[.int .i64 a0, .int .i64 a1, .int .i64 a2] w fun e w' => e = .returned (.bool true) ∧ Below w.heap.size w w' := by
  have hb0 := Below.refl w.heap.size w
  go_enter Try.func8, Try.ntmps8
  go_wp2_with fail
  refine (runWords_spec a0 a1 a2 _ wf0 wf1).mono ?_
  rintro e w1 ⟨rfl, hq1⟩
  have hb1 := hb0.trans (hq1.mono hb0.size)
  have hs1 := hq1.size
  clear hq1
  go_wp2_with fail
  refine (runWords_impl a0 a1 a2 _ wf0 wf1 wf2).mono ?_
  rintro e w2 ⟨rfl, hq2⟩
  have hb2 := hb1.trans (hq2.mono hb1.size)
  have hs2 := hq2.size
  clear hq2
  go_wp2_with fail
  go_ret
  exact ⟨rfl, hb2⟩

set_option maxHeartbeats 1600000 in
theorem exRunSum {a0 : Int} {a1 : Int} {w : World} (wf0 : (Lit.int .i64 a0).wf = true) (wf1 : (Lit.int .i64 a1).wf = true) :
    Calls Try.prog 10 #[.int .i64 a0, .int .i64 a1] w fun e w' => e = .returned (.bool true) ∧ Below w.heap.size w w' := by
  have hb0 := Below.refl w.heap.size w
  go_enter Try.func10, Try.ntmps10
  go_wp2_with fail
  refine (runSum_spec a0 a1 _ wf0 wf1).mono ?_
  rintro e w1 ⟨rfl, hq1⟩
  have hb1 := hb0.trans (hq1.mono hb0.size)
  have hs1 := hq1.size
  clear hq1
  go_wp2_with fail
  refine (runSum_impl a0 a1 _ wf0 wf1).mono ?_
  rintro e w2 ⟨rfl, hq2⟩
  have hb2 := hb1.trans (hq2.mono hb1.size)
  have hs2 := hq2.size
  clear hq2
  go_wp2_with fail
  go_ret
  exact ⟨rfl, hb2⟩

end Go.Proofs.Ytghaajcpmepdoaa
