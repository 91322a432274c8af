/-
  The drawn inputs of chapter 11: written by wip/drawgen.py.
-/
import Derived.Test.YtjkccfnbepbmbaaZdraw
import Derived.Test.YtjkccfnbepbmbaaZruled
namespace Go.Proofs.Ytjkccfnbepbmbaa
open Go.RowKit
set_option linter.unusedVariables false

set_option maxHeartbeats 1000000 in
theorem DrawPickWays_c (A : Option Addr) (n c : Nat) (bs : List Int) (w : World) (h : Bts w w.heap.size A n c bs) :
    Calls Try.prog 14 #[.slice A n c] w fun e w' => ∃ k1 k2 : Int, e = .returned (.tuple #[.int .i64 k1, .int .i64 k2]) ∧ -100 ≤ k1 ∧ k1 ≤ 31 ∧ -100 ≤ k2 ∧ k2 ≤ 8 ∧ Below w.heap.size w w' := by
  have HO := hide (open_c A n c bs w h)
  go_enter Try.func14, Try.ntmps14
  go_wp2_with fail
  refine HO.out.mono ?_
  rintro e w1 ⟨g, rfl, hr1, hg, hb1⟩
  have hgl := hr1.lt
  have hr1 := hide hr1
  have hb1 := hide hb1
  clear HO
  go_wp2_with fail
  refine (pick_c g _ 13 _ hr1.out (by omega) (by omega) (by omega)).mono ?_
  rintro e w2 ⟨x2, rfl, hx2a, hx2b, hr2, hg2⟩
  have hb2 := hide (hb1.out.grown hg2 hb1.out.size (fun k hk => by injection hk with hk; omega))
  have hs2 := hg2.size
  have hr2 := hide hr2
  clear hg2 hb1 hr1
  go_wp2_with fail
  refine (pick_c g _ 30 _ hr2.out (by omega) (by omega) (by omega)).mono ?_
  rintro e w3 ⟨x3, rfl, hx3a, hx3b, hr3, hg3⟩
  have hb3 := hide (hb2.out.grown hg3 hb2.out.size (fun k hk => by injection hk with hk; omega))
  have hs3 := hg3.size
  have hr3 := hide hr3
  clear hg3 hb2 hr2
  go_wp2_with fail
  refine (pick_c g _ 40 _ hr3.out (by omega) (by omega) (by omega)).mono ?_
  rintro e w4 ⟨x4, rfl, hx4a, hx4b, hr4, hg4⟩
  have hb4 := hide (hb3.out.grown hg4 hb3.out.size (fun k hk => by injection hk with hk; omega))
  have hs4 := hg4.size
  have hr4 := hide hr4
  clear hg4 hb3 hr3
  go_wp2_with fail
  refine (pick_c g _ 9 _ hr4.out (by omega) (by omega) (by omega)).mono ?_
  rintro e w5 ⟨x5, rfl, hx5a, hx5b, hr5, hg5⟩
  have hb5 := hide (hb4.out.grown hg5 hb4.out.size (fun k hk => by injection hk with hk; omega))
  have hs5 := hg5.size
  have hr5 := hide hr5
  clear hg5 hb4 hr4
  go_wp2_with fail
  refine (pick_c g _ 40 _ hr5.out (by omega) (by omega) (by omega)).mono ?_
  rintro e w6 ⟨x6, rfl, hx6a, hx6b, hr6, hg6⟩
  have hb6 := hide (hb5.out.grown hg6 hb5.out.size (fun k hk => by injection hk with hk; omega))
  have hs6 := hg6.size
  have hr6 := hide hr6
  clear hg6 hb5 hr5
  go_wp2_with fail
  go_ret2
  exact ⟨_, _, rfl, by omega, by omega, by omega, by omega, hb6.out⟩

set_option maxHeartbeats 1000000 in
theorem DrawSampleOk_c (A : Option Addr) (n c : Nat) (bs : List Int) (w : World) (h : Bts w w.heap.size A n c bs) :
    Calls Try.prog 18 #[.slice A n c] w fun e w' => ∃ k1 k2 k3 : Int, e = .returned (.tuple #[.int .i64 k1, .int .i64 k2, .int .i64 k3]) ∧ -100 ≤ k1 ∧ k1 ≤ 100 ∧ -100 ≤ k2 ∧ k2 ≤ 100 ∧ -100 ≤ k3 ∧ k3 ≤ 100 ∧ Below w.heap.size w w' := by
  have HO := hide (open_c A n c bs w h)
  go_enter Try.func18, Try.ntmps18
  go_wp2_with fail
  refine HO.out.mono ?_
  rintro e w1 ⟨g, rfl, hr1, hg, hb1⟩
  have hgl := hr1.lt
  have hr1 := hide hr1
  have hb1 := hide hb1
  clear HO
  go_wp2_with fail
  refine (pick_c g _ 33 _ hr1.out (by omega) (by omega) (by omega)).mono ?_
  rintro e w2 ⟨x2, rfl, hx2a, hx2b, hr2, hg2⟩
  have hb2 := hide (hb1.out.grown hg2 hb1.out.size (fun k hk => by injection hk with hk; omega))
  have hs2 := hg2.size
  have hr2 := hide hr2
  clear hg2 hb1 hr1
  go_wp2_with fail
  refine (pick_c g _ 12 _ hr2.out (by omega) (by omega) (by omega)).mono ?_
  rintro e w3 ⟨x3, rfl, hx3a, hx3b, hr3, hg3⟩
  have hb3 := hide (hb2.out.grown hg3 hb2.out.size (fun k hk => by injection hk with hk; omega))
  have hs3 := hg3.size
  have hr3 := hide hr3
  clear hg3 hb2 hr2
  go_wp2_with fail
  refine (pick_c g _ 20 _ hr3.out (by omega) (by omega) (by omega)).mono ?_
  rintro e w4 ⟨x4, rfl, hx4a, hx4b, hr4, hg4⟩
  have hb4 := hide (hb3.out.grown hg4 hb3.out.size (fun k hk => by injection hk with hk; omega))
  have hs4 := hg4.size
  have hr4 := hide hr4
  clear hg4 hb3 hr3
  go_wp2_with fail
  refine (pick_c g _ 12 _ hr4.out (by omega) (by omega) (by omega)).mono ?_
  rintro e w5 ⟨x5, rfl, hx5a, hx5b, hr5, hg5⟩
  have hb5 := hide (hb4.out.grown hg5 hb4.out.size (fun k hk => by injection hk with hk; omega))
  have hs5 := hg5.size
  have hr5 := hide hr5
  clear hg5 hb4 hr4
  go_wp2_with fail
  go_ret3
  exact ⟨_, _, _, rfl, by omega, by omega, by omega, by omega, by omega, by omega, hb5.out⟩

set_option maxHeartbeats 1000000 in
theorem l20Sample_r (g m : Nat) (w : World) (h : Rd w g m) (hm : m ≤ 1000) :
    Calls Try.prog 36 #[.pointer (some ⟨g, 0, none⟩)] w fun e w' => ∃ k1 k2 k3 : Int, e = .returned (.tuple #[.int .i64 k1, .int .i64 k2, .int .i64 k3]) ∧ -100 ≤ k1 ∧ k1 ≤ 31 ∧ -100 ≤ k2 ∧ k2 ≤ 12 ∧ -100 ≤ k3 ∧ k3 ≤ 11 ∧ Rd w' g (m + 6) ∧ w.grownBy w' (some g) := by
  have hr1 := hide h
  have hb1 := hide (World.grownBy.refl w (some g))
  go_enter Try.func36, Try.ntmps36
  go_wp2_with fail
  refine (pick_c g _ 12 _ hr1.out (by omega) (by omega) (by omega)).mono ?_
  rintro e w2 ⟨x2, rfl, hx2a, hx2b, hr2, hg2⟩
  have hb2 := hide (grown_new hb1.out hg2 (fun _ _ => .inr rfl))
  have hr2 := hide hr2
  clear hg2 hb1 hr1
  go_wp2_with fail
  refine (pick_c g _ 40 _ hr2.out (by omega) (by omega) (by omega)).mono ?_
  rintro e w3 ⟨x3, rfl, hx3a, hx3b, hr3, hg3⟩
  have hb3 := hide (grown_new hb2.out hg3 (fun _ _ => .inr rfl))
  have hr3 := hide hr3
  clear hg3 hb2 hr2
  go_wp2_with fail
  refine (pick_any g _ _ _ hr3.out (by omega) (by omega)).mono ?_
  rintro e w4 ⟨x4, rfl, hx4a, hx4b, hr4, hg4⟩
  have hb4 := hide (grown_new hb3.out hg4 (fun _ _ => .inr rfl))
  have hr4 := hide hr4
  clear hg4 hb3 hr3
  go_wp2_with fail
  refine (pick_c g _ 40 _ hr4.out (by omega) (by omega) (by omega)).mono ?_
  rintro e w5 ⟨x5, rfl, hx5a, hx5b, hr5, hg5⟩
  have hb5 := hide (grown_new hb4.out hg5 (fun _ _ => .inr rfl))
  have hr5 := hide hr5
  clear hg5 hb4 hr4
  go_wp2_with fail
  refine (pick_any g _ _ _ hr5.out (by omega) (by omega)).mono ?_
  rintro e w6 ⟨x6, rfl, hx6a, hx6b, hr6, hg6⟩
  have hb6 := hide (grown_new hb5.out hg6 (fun _ _ => .inr rfl))
  have hr6 := hide hr6
  clear hg6 hb5 hr5
  go_wp2_with fail
  refine (pick_c g _ 40 _ hr6.out (by omega) (by omega) (by omega)).mono ?_
  rintro e w7 ⟨x7, rfl, hx7a, hx7b, hr7, hg7⟩
  have hb7 := hide (grown_new hb6.out hg7 (fun _ _ => .inr rfl))
  have hr7 := hide hr7
  clear hg7 hb6 hr6
  go_wp2_with fail
  go_ret3
  exact ⟨_, _, _, rfl, by omega, by omega, by omega, by omega, by omega, by omega, hr7.out.more (by omega), hb7.out⟩

set_option maxHeartbeats 1000000 in
theorem DrawMarkedWays_c (A : Option Addr) (n c : Nat) (bs : List Int) (w : World) (h : Bts w w.heap.size A n c bs) :
    Calls Try.prog 21 #[.slice A n c] w fun e w' => ∃ k1 k2 k3 k4 : Int, e = .returned (.tuple #[.int .i64 k1, .int .i64 k2, .int .i64 k3, .int .i64 k4]) ∧ -100 ≤ k1 ∧ k1 ≤ 31 ∧ -100 ≤ k2 ∧ k2 ≤ 12 ∧ -100 ≤ k3 ∧ k3 ≤ 11 ∧ -100 ≤ k4 ∧ k4 ≤ 100 ∧ Below w.heap.size w w' := by
  have HO := hide (open_c A n c bs w h)
  go_enter Try.func21, Try.ntmps21
  go_wp2_with fail
  refine HO.out.mono ?_
  rintro e w1 ⟨g, rfl, hr1, hg, hb1⟩
  have hr1 := hide hr1
  have hb1 := hide hb1
  clear HO
  go_wp2_with fail
  refine (l20Sample_r g _ w1 hr1.out (by omega)).mono ?_
  rintro e w2 ⟨k1, k2, k3, rfl, hl1, hh1, hl2, hh2, hl3, hh3, hr2, hg2⟩
  have hb2 := hide (hb1.out.grown hg2 hb1.out.size (fun k hk => by injection hk with hk; omega))
  have hr2 := hide hr2
  clear hb1 hg2 hr1
  by_cases hk0 : k3 < 0
  · skip
    go_wp2_with fail
    refine (pick_any g _ _ _ hr2.out (by omega) (by omega)).mono ?_
    rintro e w3 ⟨x3, rfl, hx3a, hx3b, hr3, hg3⟩
    have hb3 := hide (hb2.out.grown hg3 hb2.out.size (fun k hk => by injection hk with hk; omega))
    have hr3 := hide hr3
    clear hg3 hb2 hr2
    go_wp2_with fail
    refine (pick_c g _ 40 _ hr3.out (by omega) (by omega) (by omega)).mono ?_
    rintro e w4 ⟨x4, rfl, hx4a, hx4b, hr4, hg4⟩
    have hb4 := hide (hb3.out.grown hg4 hb3.out.size (fun k hk => by injection hk with hk; omega))
    clear hg4 hb3 hr3 hr4
    go_wp2_with fail
    (try simp only [Exit.inBlock, Exit.then])
    refine bodyPost_ret (results_tmp4 rfl _ _ _) rfl ?_
    exact ⟨_, _, _, _, rfl, by omega, by omega, by omega, by omega, by omega, by omega, by omega, by omega, hb4.out⟩
  · skip
    go_wp2_with fail
    refine (pick_any g _ _ _ hr2.out (by omega) (by omega)).mono ?_
    rintro e w3 ⟨x3, rfl, hx3a, hx3b, hr3, hg3⟩
    have hb3 := hide (hb2.out.grown hg3 hb2.out.size (fun k hk => by injection hk with hk; omega))
    have hr3 := hide hr3
    clear hg3 hb2 hr2
    go_wp2_with fail
    refine (pick_c g _ 40 _ hr3.out (by omega) (by omega) (by omega)).mono ?_
    rintro e w4 ⟨x4, rfl, hx4a, hx4b, hr4, hg4⟩
    have hb4 := hide (hb3.out.grown hg4 hb3.out.size (fun k hk => by injection hk with hk; omega))
    clear hg4 hb3 hr3 hr4
    go_wp2_with fail
    (try simp only [Exit.inBlock, Exit.then])
    refine bodyPost_ret (results_tmp4 rfl _ _ _) rfl ?_
    exact ⟨_, _, _, _, rfl, by omega, by omega, by omega, by omega, by omega, by omega, by omega, by omega, hb4.out⟩

set_option maxHeartbeats 1000000 in
theorem DrawTailWays_c (A : Option Addr) (n c : Nat) (bs : List Int) (w : World) (h : Bts w w.heap.size A n c bs) :
    Calls Try.prog 24 #[.slice A n c] w fun e w' => ∃ k1 k2 k3 k4 : Int, e = .returned (.tuple #[.int .i64 k1, .int .i64 k2, .int .i64 k3, .int .i64 k4]) ∧ -100 ≤ k1 ∧ k1 ≤ 31 ∧ -100 ≤ k2 ∧ k2 ≤ 12 ∧ -100 ≤ k3 ∧ k3 ≤ 11 ∧ -100 ≤ k4 ∧ k4 ≤ 100 ∧ Below w.heap.size w w' := by
  have HO := hide (DrawMarkedWays_c A n c bs w h)
  go_enter Try.func24, Try.ntmps24
  go_wp2_with fail
  refine HO.out.mono ?_
  rintro e w1 ⟨k1, k2, k3, k4, rfl, q0, q1, q2, q3, q4, q5, q6, q7, q8⟩
  clear HO
  go_wp2_with fail
  (try simp only [Exit.inBlock, Exit.then])
  refine bodyPost_ret (results_tmp4 rfl _ _ _) rfl ?_
  exact ⟨_, _, _, _, rfl, q0, q1, q2, q3, q4, q5, q6, q7, q8⟩

set_option maxHeartbeats 1000000 in
theorem DrawLikeliestThings_c (A : Option Addr) (n c : Nat) (bs : List Int) (w : World) (h : Bts w w.heap.size A n c bs) :
    Calls Try.prog 27 #[.slice A n c] w fun e w' => ∃ k1 k2 k3 : Int, e = .returned (.tuple #[.int .i64 k1, .int .i64 k2, .int .i64 k3]) ∧ -100 ≤ k1 ∧ k1 ≤ 100 ∧ -100 ≤ k2 ∧ k2 ≤ 100 ∧ -100 ≤ k3 ∧ k3 ≤ 100 ∧ Below w.heap.size w w' := by
  have HO := hide (open_c A n c bs w h)
  go_enter Try.func27, Try.ntmps27
  go_wp2_with fail
  refine HO.out.mono ?_
  rintro e w1 ⟨g, rfl, hr1, hg, hb1⟩
  have hr1 := hide hr1
  have hb1 := hide hb1
  clear HO
  go_wp2_with fail
  refine (pick_c g _ 9 _ hr1.out (by omega) (by omega) (by omega)).mono ?_
  rintro e w2 ⟨x2, rfl, hx2a, hx2b, hr2, hg2⟩
  have hb2 := hide (hb1.out.grown hg2 hb1.out.size (fun k hk => by injection hk with hk; omega))
  have hr2 := hide hr2
  clear hg2 hb1 hr1
  go_wp2_with fail
  refine (pick_c g _ 9 _ hr2.out (by omega) (by omega) (by omega)).mono ?_
  rintro e w3 ⟨x3, rfl, hx3a, hx3b, hr3, hg3⟩
  have hb3 := hide (hb2.out.grown hg3 hb2.out.size (fun k hk => by injection hk with hk; omega))
  have hr3 := hide hr3
  clear hg3 hb2 hr2
  go_wp2_with fail
  refine (pick_c g _ 40 _ hr3.out (by omega) (by omega) (by omega)).mono ?_
  rintro e w4 ⟨x4, rfl, hx4a, hx4b, hr4, hg4⟩
  have hb4 := hide (hb3.out.grown hg4 hb3.out.size (fun k hk => by injection hk with hk; omega))
  have hr4 := hide hr4
  clear hg4 hb3 hr3
  by_cases hmn : x2 ≤ x3
  · have hm1 : 1 + x2 ≤ 1 + x3 := by omega
    go_wp2_with fail
    refine (pick_any g _ _ _ hr4.out (by omega) (by omega)).mono ?_
    rintro e w5 ⟨x5, rfl, hx5a, hx5b, hr5, hg5⟩
    have hb5 := hide (hb4.out.grown hg5 hb4.out.size (fun k hk => by injection hk with hk; omega))
    have hr5 := hide hr5
    clear hg5 hb4 hr4
    go_wp2_with fail
    refine (pick_c g _ 40 _ hr5.out (by omega) (by omega) (by omega)).mono ?_
    rintro e w6 ⟨x6, rfl, hx6a, hx6b, hr6, hg6⟩
    have hb6 := hide (hb5.out.grown hg6 hb5.out.size (fun k hk => by injection hk with hk; omega))
    clear hg6 hb5 hr5 hr6
    go_wp2_with fail
    go_ret3
    exact ⟨_, _, _, rfl, by omega, by omega, by omega, by omega, by omega, by omega, hb6.out⟩
  · have hm1 : ¬ (1 + x2 ≤ 1 + x3) := by omega
    go_wp2_with fail
    refine (pick_any g _ _ _ hr4.out (by omega) (by omega)).mono ?_
    rintro e w5 ⟨x5, rfl, hx5a, hx5b, hr5, hg5⟩
    have hb5 := hide (hb4.out.grown hg5 hb4.out.size (fun k hk => by injection hk with hk; omega))
    have hr5 := hide hr5
    clear hg5 hb4 hr4
    go_wp2_with fail
    refine (pick_c g _ 40 _ hr5.out (by omega) (by omega) (by omega)).mono ?_
    rintro e w6 ⟨x6, rfl, hx6a, hx6b, hr6, hg6⟩
    have hb6 := hide (hb5.out.grown hg6 hb5.out.size (fun k hk => by injection hk with hk; omega))
    clear hg6 hb5 hr5 hr6
    go_wp2_with fail
    go_ret3
    exact ⟨_, _, _, rfl, by omega, by omega, by omega, by omega, by omega, by omega, hb6.out⟩
end Go.Proofs.Ytjkccfnbepbmbaa
