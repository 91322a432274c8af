/-
  The drawn inputs of chapter 11: written by wip/drawgen.py.
-/
import Derived.Test.YtnfjajamafkjoaaZdraw
import Derived.Test.YtnfjajamafkjoaaZruled
namespace Go.Proofs.Ytnfjajamafkjoaa
open Go.RowKit
set_option linter.unusedVariables false

set_option maxHeartbeats 1000000 in
theorem l20Sample_r (g m : Nat) (w : World) (h : Rd w g m) (hm : m ≤ 1000) :
    Calls Try.prog 52 #[.pointer (some ⟨g, 0, none⟩)] w fun e w' => ∃ k1 k2 k3 : Int, e = .returned (.tuple #[.int .i64 k1, .int .i64 k2, .int .i64 k3]) ∧ -100 ≤ k1 ∧ k1 ≤ 31 ∧ -100 ≤ k2 ∧ k2 ≤ 12 ∧ -100 ≤ k3 ∧ k3 ≤ 11 ∧ Rd w' g (m + 6) ∧ w.grownBy w' (some g) := by
  have hr1 := hide h
  have hb1 := hide (World.grownBy.refl w (some g))
  go_enter Try.func52, Try.ntmps52
  go_wp2_with fail
  refine (pick_c g _ 12 _ hr1.out (by omega) (by omega) (by omega)).mono ?_
  rintro e w2 ⟨x2, rfl, hx2a, hx2b, hr2, hg2⟩
  have hb2 := hide (grown_new hb1.out hg2 (fun _ _ => .inr rfl))
  have hr2 := hide hr2
  clear hg2 hb1 hr1
  go_wp2_with fail
  refine (pick_c g _ 40 _ hr2.out (by omega) (by omega) (by omega)).mono ?_
  rintro e w3 ⟨x3, rfl, hx3a, hx3b, hr3, hg3⟩
  have hb3 := hide (grown_new hb2.out hg3 (fun _ _ => .inr rfl))
  have hr3 := hide hr3
  clear hg3 hb2 hr2
  go_wp2_with fail
  refine (pick_any g _ _ _ hr3.out (by omega) (by omega)).mono ?_
  rintro e w4 ⟨x4, rfl, hx4a, hx4b, hr4, hg4⟩
  have hb4 := hide (grown_new hb3.out hg4 (fun _ _ => .inr rfl))
  have hr4 := hide hr4
  clear hg4 hb3 hr3
  go_wp2_with fail
  refine (pick_c g _ 40 _ hr4.out (by omega) (by omega) (by omega)).mono ?_
  rintro e w5 ⟨x5, rfl, hx5a, hx5b, hr5, hg5⟩
  have hb5 := hide (grown_new hb4.out hg5 (fun _ _ => .inr rfl))
  have hr5 := hide hr5
  clear hg5 hb4 hr4
  go_wp2_with fail
  refine (pick_any g _ _ _ hr5.out (by omega) (by omega)).mono ?_
  rintro e w6 ⟨x6, rfl, hx6a, hx6b, hr6, hg6⟩
  have hb6 := hide (grown_new hb5.out hg6 (fun _ _ => .inr rfl))
  have hr6 := hide hr6
  clear hg6 hb5 hr5
  go_wp2_with fail
  refine (pick_c g _ 40 _ hr6.out (by omega) (by omega) (by omega)).mono ?_
  rintro e w7 ⟨x7, rfl, hx7a, hx7b, hr7, hg7⟩
  have hb7 := hide (grown_new hb6.out hg7 (fun _ _ => .inr rfl))
  have hr7 := hide hr7
  clear hg7 hb6 hr6
  go_wp2_with fail
  go_ret3
  exact ⟨_, _, _, rfl, by omega, by omega, by omega, by omega, by omega, by omega, hr7.out.more (by omega), hb7.out⟩

end Go.Proofs.Ytnfjajamafkjoaa
