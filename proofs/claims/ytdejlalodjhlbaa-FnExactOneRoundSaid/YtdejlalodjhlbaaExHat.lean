/-
  The walks of exact laws (chapter 13): written by wip/exgen.py.
-/
import Derived.Test.YtdejlalodjhlbaaHatI
import Derived.Test.YtdejlalodjhlbaaZdraw
namespace Go.Proofs.Ytdejlalodjhlbaa
open Go.RowKit
set_option linter.unusedVariables false

set_option maxHeartbeats 1600000 in
theorem exHatsOk {A0 : Option Addr} {n0 c0 : Nat} {zs0 : List Int} {w : World} (h0 : Ints w w.heap.size A0 n0 c0 zs0) :
    Calls Try.prog 9 #[.slice A0 n0 c0] w fun e w' => e = .returned (.bool true) ∧ Below w.heap.size w w' := by
  have hn0 := h0.nb
  by_cases hbig0 : 1048576 < n0
  · go_enter Try.func9, Try.ntmps9
    go_wp2
    go_ret
    exact ⟨rfl, Below.refl _ _⟩
  have hz0 := hide h0.len
  have hsm0 : n0 ≤ 1048576 := by omega
  clear hbig0
  have hsamez0 := sameL_refl zs0
  have hb0 := Below.refl w.heap.size w
  go_enter Try.func9, Try.ntmps9
  go_wp2_with fail
  refine (toIntS_c A0 n0 c0 _ zs0 _ (h0.below hb0) hb0.size hsm0).mono ?_
  rintro e w1 ⟨g1, rfl, ho1, hq1⟩
  have hlo1 := ho1.row.lt
  have hb1 := hb0.trans (hq1.mono hb0.size)
  have hs1 := hq1.size
  clear hq1
  go_wp2_with fail
  refine (sameB (hatsOk_spec _ _ _ _ zs0 _ ho1.ints)).mono ?_
  rintro e w2 ⟨rfl, hq2⟩
  have hb2 := hb1.trans (hq2.mono hb1.size)
  have hs2 := hq2.size
  replace ho1 := ho1.below hq2 (Nat.le_refl _)
  clear hq2
  clear ho1 hlo1
  go_wp2_with fail
  refine (toIntS_c A0 n0 c0 _ zs0 _ (h0.below hb2) hb2.size hsm0).mono ?_
  rintro e w3 ⟨g2, rfl, ho2, hq3⟩
  have hlo2 := ho2.row.lt
  have hb3 := hb2.trans (hq3.mono hb2.size)
  have hs3 := hq3.size
  clear hq3
  go_wp2_with fail
  refine (hatsOk_impl _ _ _ _ zs0 _ ho2.ints (Nat.le_refl _)).mono ?_
  rintro e w4 ⟨rfl, hq4⟩
  have hb4 := hb3.trans (hq4.mono hb3.size)
  have hs4 := hq4.size
  replace ho2 := ho2.below hq4 (Nat.le_refl _)
  clear hq4
  go_wp2_with fail
  refine (toIntS_c A0 n0 c0 _ zs0 _ (h0.below hb4) hb4.size hsm0).mono ?_
  rintro e w5 ⟨g3, rfl, ho3, hq5⟩
  have hlo3 := ho3.row.lt
  have hb5 := hb4.trans (hq5.mono hb4.size)
  have hs5 := hq5.size
  replace ho2 := ho2.below hq5 (Nat.le_refl _)
  clear hq5
  go_wp2_with fail
  refine (quietB (eqIntS_c _ _ _ _ _ _ _ _ _ _ _ ho2.ints ho3.ints)).mono ?_
  rintro e w6 ⟨rfl, hq6⟩
  have hb6 := hb5.trans (hq6.mono hb5.size)
  have hs6 := hq6.size
  replace ho2 := ho2.below hq6 (Nat.le_refl _)
  replace ho3 := ho3.below hq6 (Nat.le_refl _)
  clear hq6
  clear ho3 hlo3
  go_wp2_with fail
  go_ret
  exact ⟨rfl, hb6⟩

set_option maxHeartbeats 1600000 in
theorem exMatchesOf {A0 : Option Addr} {n0 c0 : Nat} {zs0 : List Int} {w : World} (h0 : Ints w w.heap.size A0 n0 c0 zs0) :
    Calls Try.prog 10 #[.slice A0 n0 c0] w fun e w' => e = .returned (.bool true) ∧ Below w.heap.size w w' := by
  have hn0 := h0.nb
  by_cases hbig0 : 1048576 < n0
  · go_enter Try.func10, Try.ntmps10
    go_wp2
    go_ret
    exact ⟨rfl, Below.refl _ _⟩
  have hz0 := hide h0.len
  have hsm0 : n0 ≤ 1048576 := by omega
  clear hbig0
  have hsamez0 := sameL_refl zs0
  have hb0 := Below.refl w.heap.size w
  go_enter Try.func10, Try.ntmps10
  go_wp2_with fail
  refine (toIntS_c A0 n0 c0 _ zs0 _ (h0.below hb0) hb0.size hsm0).mono ?_
  rintro e w1 ⟨g1, rfl, ho1, hq1⟩
  have hlo1 := ho1.row.lt
  have hb1 := hb0.trans (hq1.mono hb0.size)
  have hs1 := hq1.size
  clear hq1
  go_wp2_with fail
  refine (sameB (matchesOf_spec _ _ _ _ zs0 _ ho1.ints)).mono ?_
  rintro e w2 ⟨rfl, hq2⟩
  have hb2 := hb1.trans (hq2.mono hb1.size)
  have hs2 := hq2.size
  replace ho1 := ho1.below hq2 (Nat.le_refl _)
  clear hq2
  clear ho1 hlo1
  go_wp2_with fail
  refine (toIntS_c A0 n0 c0 _ zs0 _ (h0.below hb2) hb2.size hsm0).mono ?_
  rintro e w3 ⟨g2, rfl, ho2, hq3⟩
  have hlo2 := ho2.row.lt
  have hb3 := hb2.trans (hq3.mono hb2.size)
  have hs3 := hq3.size
  clear hq3
  go_wp2_with fail
  refine (matchesOf_impl _ _ _ _ zs0 _ ho2.ints (Nat.le_refl _)).mono ?_
  rintro e w4 ⟨rfl, hq4⟩
  have hb4 := hb3.trans (hq4.mono hb3.size)
  have hs4 := hq4.size
  replace ho2 := ho2.below hq4 (Nat.le_refl _)
  clear hq4
  go_wp2_with fail
  refine (toIntS_c A0 n0 c0 _ zs0 _ (h0.below hb4) hb4.size hsm0).mono ?_
  rintro e w5 ⟨g3, rfl, ho3, hq5⟩
  have hlo3 := ho3.row.lt
  have hb5 := hb4.trans (hq5.mono hb4.size)
  have hs5 := hq5.size
  replace ho2 := ho2.below hq5 (Nat.le_refl _)
  clear hq5
  go_wp2_with fail
  refine (quietB (eqIntS_c _ _ _ _ _ _ _ _ _ _ _ ho2.ints ho3.ints)).mono ?_
  rintro e w6 ⟨rfl, hq6⟩
  have hb6 := hb5.trans (hq6.mono hb5.size)
  have hs6 := hq6.size
  replace ho2 := ho2.below hq6 (Nat.le_refl _)
  replace ho3 := ho3.below hq6 (Nat.le_refl _)
  clear hq6
  clear ho3 hlo3
  go_wp2_with fail
  go_ret
  exact ⟨rfl, hb6⟩

set_option maxHeartbeats 1600000 in
theorem exUnmatchedOrders {a0 : Int} {w : World} (wf0 : (Lit.int .i64 a0).wf = true) :
    Calls Try.prog 11 #[.int .i64 a0] w fun e w' => e = .returned (.bool true) ∧ Below w.heap.size w w' := by
  have hb0 := Below.refl w.heap.size w
  go_enter Try.func11, Try.ntmps11
  go_wp2_with fail
  refine (sameB (unmatched_spec a0 _)).mono ?_
  rintro e w1 ⟨rfl, hq1⟩
  have hb1 := hb0.trans (hq1.mono hb0.size)
  have hs1 := hq1.size
  clear hq1
  go_wp2_with fail
  refine (unmatched_impl a0 _ wf0).mono ?_
  rintro e w2 ⟨rfl, hq2⟩
  have hb2 := hb1.trans (hq2.mono hb1.size)
  have hs2 := hq2.size
  clear hq2
  go_wp2_with fail
  go_ret
  exact ⟨rfl, hb2⟩

set_option maxHeartbeats 1600000 in
theorem exMatchOrders {a0 : Int} {a1 : Int} {w : World} (wf0 : (Lit.int .i64 a0).wf = true) (wf1 : (Lit.int .i64 a1).wf = true) :
    Calls Try.prog 12 #[.int .i64 a0, .int .i64 a1] w fun e w' => e = .returned (.bool true) ∧ Below w.heap.size w w' := by
  have hb0 := Below.refl w.heap.size w
  go_enter Try.func12, Try.ntmps12
  go_wp2_with fail
  refine (sameB (matchOrders_spec a0 a1 _)).mono ?_
  rintro e w1 ⟨rfl, hq1⟩
  have hb1 := hb0.trans (hq1.mono hb0.size)
  have hs1 := hq1.size
  clear hq1
  go_wp2_with fail
  refine (matchOrders_impl a0 a1 _ wf0 wf1).mono ?_
  rintro e w2 ⟨rfl, hq2⟩
  have hb2 := hb1.trans (hq2.mono hb1.size)
  have hs2 := hq2.size
  clear hq2
  go_wp2_with fail
  go_ret
  exact ⟨rfl, hb2⟩

set_option maxHeartbeats 1600000 in
theorem exOneRound {A0 : Option Addr} {n0 c0 : Nat} {zs0 : List Int} {w : World} (h0 : Ints w w.heap.size A0 n0 c0 zs0) :
    Calls Try.prog 13 #[.slice A0 n0 c0] w fun e w' => e = .returned (.bool true) ∧ Below w.heap.size w w' := by
  have hn0 := h0.nb
  by_cases hbig0 : 1048576 < n0
  · go_enter Try.func13, Try.ntmps13
    go_wp2
    go_ret
    exact ⟨rfl, Below.refl _ _⟩
  have hz0 := hide h0.len
  have hsm0 : n0 ≤ 1048576 := by omega
  clear hbig0
  have hsamez0 := sameL_refl zs0
  have hb0 := Below.refl w.heap.size w
  go_enter Try.func13, Try.ntmps13
  go_wp2_with fail
  refine (toIntS_c A0 n0 c0 _ zs0 _ (h0.below hb0) hb0.size hsm0).mono ?_
  rintro e w1 ⟨g1, rfl, ho1, hq1⟩
  have hlo1 := ho1.row.lt
  have hb1 := hb0.trans (hq1.mono hb0.size)
  have hs1 := hq1.size
  clear hq1
  go_wp2_with fail
  refine (sameB (oneRound_spec _ _ _ _ zs0 _ ho1.ints)).mono ?_
  rintro e w2 ⟨rfl, hq2⟩
  have hb2 := hb1.trans (hq2.mono hb1.size)
  have hs2 := hq2.size
  replace ho1 := ho1.below hq2 (Nat.le_refl _)
  clear hq2
  clear ho1 hlo1
  go_wp2_with fail
  refine (toIntS_c A0 n0 c0 _ zs0 _ (h0.below hb2) hb2.size hsm0).mono ?_
  rintro e w3 ⟨g2, rfl, ho2, hq3⟩
  have hlo2 := ho2.row.lt
  have hb3 := hb2.trans (hq3.mono hb2.size)
  have hs3 := hq3.size
  clear hq3
  go_wp2_with fail
  refine (oneRound_impl _ _ _ _ zs0 _ ho2.ints (Nat.le_refl _)).mono ?_
  rintro e w4 ⟨rfl, hq4⟩
  have hb4 := hb3.trans (hq4.mono hb3.size)
  have hs4 := hq4.size
  replace ho2 := ho2.below hq4 (Nat.le_refl _)
  clear hq4
  go_wp2_with fail
  refine (toIntS_c A0 n0 c0 _ zs0 _ (h0.below hb4) hb4.size hsm0).mono ?_
  rintro e w5 ⟨g3, rfl, ho3, hq5⟩
  have hlo3 := ho3.row.lt
  have hb5 := hb4.trans (hq5.mono hb4.size)
  have hs5 := hq5.size
  replace ho2 := ho2.below hq5 (Nat.le_refl _)
  clear hq5
  go_wp2_with fail
  refine (quietB (eqIntS_c _ _ _ _ _ _ _ _ _ _ _ ho2.ints ho3.ints)).mono ?_
  rintro e w6 ⟨rfl, hq6⟩
  have hb6 := hb5.trans (hq6.mono hb5.size)
  have hs6 := hq6.size
  replace ho2 := ho2.below hq6 (Nat.le_refl _)
  replace ho3 := ho3.below hq6 (Nat.le_refl _)
  clear hq6
  clear ho3 hlo3
  go_wp2_with fail
  go_ret
  exact ⟨rfl, hb6⟩

end Go.Proofs.Ytdejlalodjhlbaa
