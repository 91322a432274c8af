/-
  The walks of exact laws (chapter 7): written by wip/exgen.py.
-/
import Derived.Test.YtfencbfjnifmjabRoomI
import Derived.Test.YtfencbfjnifmjabRoomT
import Derived.Test.YtfencbfjnifmjabZdraw
namespace Go.Proofs.Ytfencbfjnifmjab
open Go.RowKit
set_option linter.unusedVariables false

set_option maxHeartbeats 1600000 in
theorem exRestRow {a0 : Int} {w : World} (wf0 : (Lit.int .i64 a0).wf = true) :
    Calls Try.prog 8 #[.int .i64 a0] w fun e w' => e = .returned (.bool true) ∧ Below w.heap.size w w' := by
  have hsame0 := sameL_refl (restR a0)
  have hb0 := Below.refl w.heap.size w
  go_enter Try.func8, Try.ntmps8
  go_wp2_with fail
  refine (restRow_spec a0 _).mono ?_
  rintro e w1 ⟨B1, m1, d1, rfl, ho1, hq1⟩
  have hlo1 := ho1.row.lt
  have hm1 := hide ho1.len
  have hb1 := hb0.trans (hq1.mono hb0.size)
  have hs1 := hq1.size
  clear hq1
  go_wp2_with fail
  refine (restRow_impl a0 _ wf0).mono ?_
  rintro e w2 ⟨B2, m2, d2, rfl, ho2, hq2⟩
  have hlo2 := ho2.row.lt
  have hm2 := hide ho2.len
  have hb2 := hb1.trans (hq2.mono hb1.size)
  have hs2 := hq2.size
  replace ho1 := ho1.below hq2 (Nat.le_refl _)
  clear hq2
  go_wp2_with fail
  refine (quietB (eqIntS_c _ _ _ _ _ _ _ _ _ _ _ ho2.ints ho1.ints)).mono ?_
  rintro e w3 ⟨rfl, hq3⟩
  have hb3 := hb2.trans (hq3.mono hb2.size)
  have hs3 := hq3.size
  replace ho1 := ho1.below hq3 (Nat.le_refl _)
  replace ho2 := ho2.below hq3 (Nat.le_refl _)
  clear hq3
  have hmb2 := hide (show m2 ≤ 1048576 from by have := hm2.out; exact Nat.le_trans (Nat.le_of_eq this) (Nat.le_trans (restR_len a0) (by decide)))
  go_wp2_with fail
  refine (mark_c _ _ _ _ _ _ _ ho2 (by omega) (by omega) hmb2.out).mono ?_
  rintro e w4 ⟨rfl, ho, hg⟩
  have hb4 := hb3.grown hg hb3.size (fun k hk => by have := (hlo2 k hk).1; omega)
  have hs4 := hg.size
  replace ho1 := ho1.kept hg (apart hlo1 hlo2 (by omega))
  clear ho2 hg
  have ho2 := ho
  clear ho
  go_wp2_with fail
  refine (sameB (heldIntS_c _ _ _ _ _ _ _ ho2.ints hm2.out (by omega) (by omega) hmb2.out)).mono ?_
  rintro e w5 ⟨rfl, hq5⟩
  have hb5 := hb4.trans (hq5.mono hb4.size)
  have hs5 := hq5.size
  replace ho1 := ho1.below hq5 (Nat.le_refl _)
  replace ho2 := ho2.below hq5 (Nat.le_refl _)
  clear hq5
  go_wp2_with fail
  refine (restRow_impl a0 _ wf0).mono ?_
  rintro e w6 ⟨B3, m3, d3, rfl, ho3, hq6⟩
  have hlo3 := ho3.row.lt
  have hm3 := hide ho3.len
  have hb6 := hb5.trans (hq6.mono hb5.size)
  have hs6 := hq6.size
  replace ho1 := ho1.below hq6 (Nat.le_refl _)
  replace ho2 := ho2.below hq6 (Nat.le_refl _)
  clear hq6
  go_wp2_with fail
  refine (quietB (eqIntS_c _ _ _ _ _ _ _ _ _ _ _ ho3.ints ho1.ints)).mono ?_
  rintro e w7 ⟨rfl, hq7⟩
  have hb7 := hb6.trans (hq7.mono hb6.size)
  have hs7 := hq7.size
  replace ho1 := ho1.below hq7 (Nat.le_refl _)
  replace ho2 := ho2.below hq7 (Nat.le_refl _)
  replace ho3 := ho3.below hq7 (Nat.le_refl _)
  clear hq7
  go_wp2_with fail
  refine (sameB (heldIntS_c _ _ _ _ _ _ _ ho2.ints hm2.out (by omega) (by omega) hmb2.out)).mono ?_
  rintro e w8 ⟨rfl, hq8⟩
  have hb8 := hb7.trans (hq8.mono hb7.size)
  have hs8 := hq8.size
  replace ho1 := ho1.below hq8 (Nat.le_refl _)
  replace ho2 := ho2.below hq8 (Nat.le_refl _)
  replace ho3 := ho3.below hq8 (Nat.le_refl _)
  clear hq8
  go_wp2_with fail
  go_ret
  exact ⟨rfl, hb8⟩

end Go.Proofs.Ytfencbfjnifmjab
