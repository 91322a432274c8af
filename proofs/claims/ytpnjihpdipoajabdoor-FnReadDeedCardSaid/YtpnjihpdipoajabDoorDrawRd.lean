/-
  Draws of chapter 14: DrawReadDeed (written by wip/gen_f11.py).
-/
import Derived.Test.YtpnjihpdipoajabDoorDrawPo
import Derived.Test.YtpnjihpdipoajabDoorDrawSp
import Derived.Test.YtpnjihpdipoajabDoorDeedS
namespace Go.Proofs.YtpnjihpdipoajabDoor
open Go.RowKit
set_option linter.unusedVariables false

set_option maxRecDepth 100000 in
set_option maxHeartbeats 1600000 in
theorem DrawReadDeed_c (A : Option Addr) (n c : Nat) (bs : List Int) (w : World) (h : Bts w w.heap.size A n c bs) :
    Calls Tryd.prog 12 #[.slice A n c] w fun e w' => ∃ t, e = .returned (.string t) ∧ t.size ≤ 40 ∧ Below w.heap.size w w' := by
  have HO := hide (open_c A n c bs _ h)
  go_enter Tryd.func12, Tryd.ntmps12
  go_wp2_with fail
  refine HO.out.mono ?_
  rintro e w1 ⟨g, rfl, hr1, hg, hb1⟩
  have hb1 := hide hb1
  have hr1 := hide hr1
  clear HO
  go_wp2_with fail
  refine (l20Place_c g 0 0 _ hr1.out (by omega) (by omega) (by omega)).mono ?_
  rintro e w2 ⟨A1, n1, c1, A2, n2, c2, zs, ws, S, rfl, ho1, ho2, hn1, hn2, hS0, hS1, hr2, hg2⟩
  have hb2 := hide (below_ptr hb1.out hg2 (by omega))
  have hr2 := hide hr2
  clear hg2 ho1 ho2 hb1
  go_wp2_with fail
  refine (l20Deed_c g _ A1 n1 c1 S A2 n2 c2 _ hr2.out (by omega) (by omega)).mono ?_
  rintro e w2b ⟨k, a, b, rfl, hk, ha, hb, hr2b, hg2b⟩
  have hb2b := hide (below_ptr hb2.out hg2b (by omega))
  have hr2b := hide hr2b
  clear hg2b hb2
  have HT := hide (deedText_spec ⟨k, a, b⟩ w2b)
  have hsz := deedT_len ⟨k, a, b⟩
  rw [← strB_size] at hsz
  obtain ⟨T, hT⟩ : ∃ T, Hid (strB (deedT ⟨k, a, b⟩) = T) := ⟨_, hide rfl⟩
  rw [hT.out] at HT hsz
  go_wp2_with fail
  refine HT.out.mono ?_
  rintro e w3 ⟨rfl, hq3⟩
  have hr3 := hide (hr2b.out.kept (row := none) ⟨hq3.os, hq3.tape, hq3.output, hq3.size, fun k hk _ => hq3.block k hk⟩ (fun _ e => by cases e))
  have hb3 := hide (upB hb2b.out hq3)
  clear hq3 hb2b HT hr2b hr2
  go_wp2_with fail
  refine (pickQ g _ 3 _ hr3.out (by omega) (by omega) (by omega)).mono ?_
  rintro e w4 ⟨x, rfl, hx, hr4, hg4⟩
  have hb4 := hide (below_ptr hb3.out hg4 (by omega))
  have hr4 := hide hr4
  clear hg4 hr3
  by_cases hx0 : x = 0
  · subst hx0
    go_wp2_with fail
    refine (l20Spoil_c g _ T _ hr4.out (by omega) (by omega)).mono ?_
    rintro e w5 ⟨t, rfl, ht, hr5, hg5⟩
    have hb5 := hide (below_ptr hb4.out hg5 (by omega))
    clear hg5 hr5
    go_wp2_with fail
    go_ret
    exact ⟨t, rfl, by omega, hb5.out⟩
  · have hd : ((x : Int) == 0) = false := beq_eq_false_iff_ne.2 (by omega)
    go_wp2_with fail
    go_ret
    exact ⟨T, rfl, by omega, hb4.out⟩
end Go.Proofs.YtpnjihpdipoajabDoor
