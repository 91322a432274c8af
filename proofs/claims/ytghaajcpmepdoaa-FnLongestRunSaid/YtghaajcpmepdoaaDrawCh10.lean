/-
  The drawn inputs of chapter 10: written by wip/drawgen.py.
-/
import Derived.Test.YtghaajcpmepdoaaZdraw
namespace Go.Proofs.Ytghaajcpmepdoaa
open Go.RowKit
set_option linter.unusedVariables false

set_option maxHeartbeats 1000000 in
theorem DrawRunsOf_c (A : Option Addr) (n c : Nat) (bs : List Int) (w : World) (h : Bts w w.heap.size A n c bs) :
    Calls Try.prog 11 #[.slice A n c] w fun e w' => ∃ A1 n1 c1 zs1, ∃ k1 : Int, e = .returned (.tuple #[.int .i64 k1, .slice A1 n1 c1]) ∧ Ints w' w'.heap.size A1 n1 c1 zs1 ∧ n1 ≤ 10 ∧ -100 ≤ k1 ∧ k1 ≤ 100 ∧ Below w.heap.size w w' := by
  have HO := hide (DrawCountsOf_c A n c bs w h)
  go_enter Try.func11, Try.ntmps11
  go_wp2_with fail
  refine HO.out.mono ?_
  rintro e w1 ⟨A1, n1, c1, zs1, k1, rfl, q0, q1, q2, q3, q4⟩
  clear HO
  go_wp2_with fail
  go_ret2
  exact ⟨_, _, _, _, _, rfl, q0, q1, q2, q3, q4⟩

set_option maxHeartbeats 1000000 in
theorem DrawLongestRun_c (A : Option Addr) (n c : Nat) (bs : List Int) (w : World) (h : Bts w w.heap.size A n c bs) :
    Calls Try.prog 18 #[.slice A n c] w fun e w' => ∃ A1 n1 c1 zs1, ∃ k1 : Int, e = .returned (.tuple #[.int .i64 k1, .slice A1 n1 c1]) ∧ Ints w' w'.heap.size A1 n1 c1 zs1 ∧ n1 ≤ 10 ∧ -100 ≤ k1 ∧ k1 ≤ 100 ∧ Below w.heap.size w w' := by
  have HO := hide (DrawCountsOf_c A n c bs w h)
  go_enter Try.func18, Try.ntmps18
  go_wp2_with fail
  refine HO.out.mono ?_
  rintro e w1 ⟨A1, n1, c1, zs1, k1, rfl, q0, q1, q2, q3, q4⟩
  clear HO
  go_wp2_with fail
  go_ret2
  exact ⟨_, _, _, _, _, rfl, q0, q1, q2, q3, q4⟩

set_option maxHeartbeats 1000000 in
theorem DrawRunWords_c (A : Option Addr) (n c : Nat) (bs : List Int) (w : World) (h : Bts w w.heap.size A n c bs) :
    Calls Try.prog 21 #[.slice A n c] w fun e w' => ∃ k1 k2 k3 : Int, e = .returned (.tuple #[.int .i64 k1, .int .i64 k2, .int .i64 k3]) ∧ -100 ≤ k1 ∧ k1 ≤ 100 ∧ -100 ≤ k2 ∧ k2 ≤ 100 ∧ -100 ≤ k3 ∧ k3 ≤ 8 ∧ Below w.heap.size w w' := by
  have HO := hide (open_c A n c bs w h)
  go_enter Try.func21, Try.ntmps21
  go_wp2_with fail
  refine HO.out.mono ?_
  rintro e w1 ⟨g, rfl, hr1, hg, hb1⟩
  have hgl := hr1.lt
  have hr1 := hide hr1
  have hb1 := hide hb1
  clear HO
  go_wp2_with fail
  refine (pick_c g _ 5 _ hr1.out (by omega) (by omega) (by omega)).mono ?_
  rintro e w2 ⟨x2, rfl, hx2a, hx2b, hr2, hg2⟩
  have hb2 := hide (hb1.out.grown hg2 hb1.out.size (fun k hk => by injection hk with hk; omega))
  have hs2 := hg2.size
  have hr2 := hide hr2
  clear hg2 hb1 hr1
  go_wp2_with fail
  refine (pick_any g _ _ _ hr2.out (by omega) (by omega)).mono ?_
  rintro e w3 ⟨x3, rfl, hx3a, hx3b, hr3, hg3⟩
  have hb3 := hide (hb2.out.grown hg3 hb2.out.size (fun k hk => by injection hk with hk; omega))
  have hs3 := hg3.size
  have hr3 := hide hr3
  clear hg3 hb2 hr2
  go_wp2_with fail
  refine (pick_c g _ 40 _ hr3.out (by omega) (by omega) (by omega)).mono ?_
  rintro e w4 ⟨x4, rfl, hx4a, hx4b, hr4, hg4⟩
  have hb4 := hide (hb3.out.grown hg4 hb3.out.size (fun k hk => by injection hk with hk; omega))
  have hs4 := hg4.size
  have hr4 := hide hr4
  clear hg4 hb3 hr3
  go_wp2_with fail
  refine (pick_c g _ 7 _ hr4.out (by omega) (by omega) (by omega)).mono ?_
  rintro e w5 ⟨x5, rfl, hx5a, hx5b, hr5, hg5⟩
  have hb5 := hide (hb4.out.grown hg5 hb4.out.size (fun k hk => by injection hk with hk; omega))
  have hs5 := hg5.size
  have hr5 := hide hr5
  clear hg5 hb4 hr4
  go_wp2_with fail
  refine (pick_c g _ 40 _ hr5.out (by omega) (by omega) (by omega)).mono ?_
  rintro e w6 ⟨x6, rfl, hx6a, hx6b, hr6, hg6⟩
  have hb6 := hide (hb5.out.grown hg6 hb5.out.size (fun k hk => by injection hk with hk; omega))
  have hs6 := hg6.size
  have hr6 := hide hr6
  clear hg6 hb5 hr5
  go_wp2_with fail
  refine (pick_c g _ 40 _ hr6.out (by omega) (by omega) (by omega)).mono ?_
  rintro e w7 ⟨x7, rfl, hx7a, hx7b, hr7, hg7⟩
  have hb7 := hide (hb6.out.grown hg7 hb6.out.size (fun k hk => by injection hk with hk; omega))
  have hs7 := hg7.size
  have hr7 := hide hr7
  clear hg7 hb6 hr6
  go_wp2_with fail
  go_ret3
  exact ⟨_, _, _, rfl, by omega, by omega, by omega, by omega, by omega, by omega, hb7.out⟩

set_option maxHeartbeats 1000000 in
theorem DrawRunSum_c (A : Option Addr) (n c : Nat) (bs : List Int) (w : World) (h : Bts w w.heap.size A n c bs) :
    Calls Try.prog 29 #[.slice A n c] w fun e w' => ∃ k1 k2 : Int, e = .returned (.tuple #[.int .i64 k1, .int .i64 k2]) ∧ -100 ≤ k1 ∧ k1 ≤ 100 ∧ -100 ≤ k2 ∧ k2 ≤ 100 ∧ Below w.heap.size w w' := by
  have HO := hide (DrawRunWords_c A n c bs w h)
  go_enter Try.func29, Try.ntmps29
  go_wp2_with fail
  refine HO.out.mono ?_
  rintro e w1 ⟨k1, k2, k3, rfl, q0, q1, q2, q3, q4, q5, q6⟩
  clear HO
  go_wp2_with fail
  go_ret2
  exact ⟨_, _, rfl, q0, q1, q2, q3, q6⟩
end Go.Proofs.Ytghaajcpmepdoaa
