/-
  The drawn inputs of chapter 7: written by wip/drawgen.py.
-/
import Derived.Test.YtfencbfjnifmjabDrawRoom
namespace Go.Proofs.Ytfencbfjnifmjab
open Go.RowKit
set_option linter.unusedVariables false

set_option maxHeartbeats 1000000 in
theorem DrawRestRow_c (A : Option Addr) (n c : Nat) (bs : List Int) (w : World) (h : Bts w w.heap.size A n c bs) :
    Calls Try.prog 27 #[.slice A n c] w fun e w' => ∃ k1 : Int, e = .returned (.int .i64 k1) ∧ -100 ≤ k1 ∧ k1 ≤ 100 ∧ Below w.heap.size w w' := by
  have HO := hide (open_c A n c bs w h)
  go_enter Try.func27, Try.ntmps27
  go_wp2_with fail
  refine HO.out.mono ?_
  rintro e w1 ⟨g, rfl, hr1, hg, hb1⟩
  have hgl := hr1.lt
  have hr1 := hide hr1
  have hb1 := hide hb1
  clear HO
  go_wp2_with fail
  refine (pick_c g _ 9 _ hr1.out (by omega) (by omega) (by omega)).mono ?_
  rintro e w2 ⟨x2, rfl, hx2a, hx2b, hr2, hg2⟩
  have hb2 := hide (hb1.out.grown hg2 hb1.out.size (fun k hk => by injection hk with hk; omega))
  have hs2 := hg2.size
  have hr2 := hide hr2
  clear hg2 hb1 hr1
  go_wp2_with fail
  go_ret
  exact ⟨_, rfl, by omega, by omega, hb2.out⟩

set_option maxHeartbeats 1000000 in
theorem l20Room_c (g m B : Nat) (w : World) (h : Rd w g m) (hm : m ≤ 1000) (hB : B ≤ g) (hBw : B ≤ w.heap.size) :
    Calls Try.prog 52 #[.pointer (some ⟨g, 0, none⟩)] w fun e w' => ∃ k1 k2 k3 : Int, e = .returned (.tuple #[.int .i64 k1, .int .i64 k2, .int .i64 k3]) ∧ -100 ≤ k1 ∧ k1 ≤ 100 ∧ -100 ≤ k2 ∧ k2 ≤ 100 ∧ -100 ≤ k3 ∧ k3 ≤ 100 ∧ Below B w w' := by
  have hr1 := hide h
  have hb1 := hide (Below.refl B w)
  have hs1 : B ≤ w.heap.size := hBw
  go_enter Try.func52, Try.ntmps52
  go_wp2_with fail
  refine (pick_c g _ 6 _ hr1.out (by omega) (by omega) (by omega)).mono ?_
  rintro e w2 ⟨x2, rfl, hx2a, hx2b, hr2, hg2⟩
  have hb2 := hide (hb1.out.grown hg2 (Nat.le_trans hBw hb1.out.size) (fun k hk => by injection hk with hk; omega))
  have hr2 := hide hr2
  clear hg2 hb1 hr1
  go_wp2_with fail
  refine (pick_any g _ _ _ hr2.out (by omega) (by omega)).mono ?_
  rintro e w3 ⟨x3, rfl, hx3a, hx3b, hr3, hg3⟩
  have hb3 := hide (hb2.out.grown hg3 (Nat.le_trans hBw hb2.out.size) (fun k hk => by injection hk with hk; omega))
  have hr3 := hide hr3
  clear hg3 hb2 hr2
  go_wp2_with fail
  refine (pick_c g _ 40 _ hr3.out (by omega) (by omega) (by omega)).mono ?_
  rintro e w4 ⟨x4, rfl, hx4a, hx4b, hr4, hg4⟩
  have hb4 := hide (hb3.out.grown hg4 (Nat.le_trans hBw hb3.out.size) (fun k hk => by injection hk with hk; omega))
  have hr4 := hide hr4
  clear hg4 hb3 hr3
  go_wp2_with fail
  refine (pick_c g _ 7 _ hr4.out (by omega) (by omega) (by omega)).mono ?_
  rintro e w5 ⟨x5, rfl, hx5a, hx5b, hr5, hg5⟩
  have hb5 := hide (hb4.out.grown hg5 (Nat.le_trans hBw hb4.out.size) (fun k hk => by injection hk with hk; omega))
  have hr5 := hide hr5
  clear hg5 hb4 hr4
  go_wp2_with fail
  refine (pick_c g _ 40 _ hr5.out (by omega) (by omega) (by omega)).mono ?_
  rintro e w6 ⟨x6, rfl, hx6a, hx6b, hr6, hg6⟩
  have hb6 := hide (hb5.out.grown hg6 (Nat.le_trans hBw hb5.out.size) (fun k hk => by injection hk with hk; omega))
  have hr6 := hide hr6
  clear hg6 hb5 hr5
  go_wp2_with fail
  go_ret3
  exact ⟨_, _, _, rfl, by omega, by omega, by omega, by omega, by omega, by omega, hb6.out⟩

set_option maxHeartbeats 1000000 in
theorem DrawRoomAfter_c (A : Option Addr) (n c : Nat) (bs : List Int) (w : World) (h : Bts w w.heap.size A n c bs) :
    Calls Try.prog 31 #[.slice A n c] w fun e w' => ∃ k1 k2 k3 : Int, e = .returned (.tuple #[.int .i64 k1, .int .i64 k2, .int .i64 k3]) ∧ -100 ≤ k1 ∧ k1 ≤ 100 ∧ -100 ≤ k2 ∧ k2 ≤ 100 ∧ -100 ≤ k3 ∧ k3 ≤ 100 ∧ Below w.heap.size w w' := by
  have HO := hide (open_c A n c bs w h)
  go_enter Try.func31, Try.ntmps31
  go_wp2_with fail
  refine HO.out.mono ?_
  rintro e w1 ⟨g, rfl, hr1, hg, hb1⟩
  have hr1 := hide hr1
  have hb1 := hide hb1
  clear HO
  go_wp2_with fail
  refine (l20Room_c g _ w.heap.size w1 hr1.out (by omega) hg hb1.out.size).mono ?_
  rintro e w2 ⟨k1, k2, k3, rfl, hl1, hh1, hl2, hh2, hl3, hh3, hb2⟩
  have hb2 := hide (hb1.out.trans hb2)
  clear hb1
  go_wp2_with fail
  go_ret3
  exact ⟨_, _, _, rfl, by omega, by omega, by omega, by omega, by omega, by omega, hb2.out⟩

end Go.Proofs.Ytfencbfjnifmjab
