/-
  The drawn inputs of chapter 4: written by wip/drawgen.py.
-/
import Derived.Test.YthdelfhfglnhfaaDrawRuled
namespace Go.Proofs.Ythdelfhfglnhfaa
open Go.RowKit
set_option linter.unusedVariables false

set_option maxHeartbeats 1000000 in
theorem DrawRuleOk_c (A : Option Addr) (n c : Nat) (bs : List Int) (w : World) (h : Bts w w.heap.size A n c bs) :
    Calls Try.prog 11 #[.slice A n c] w fun e w' => ∃ A1 n1 c1 rs1, ∃ k1 : Int, e = .returned (.tuple #[.int .i64 k1, .slice A1 n1 c1]) ∧ Mat w' w'.heap.size A1 n1 c1 rs1 ∧ n1 ≤ 10 ∧ -100 ≤ k1 ∧ k1 ≤ 100 ∧ Below w.heap.size w w' := by
  have HO := hide (open_c A n c bs w h)
  go_enter Try.func11, Try.ntmps11
  go_wp2_with fail
  refine HO.out.mono ?_
  rintro e w1 ⟨g, rfl, hr1, hg, hb1⟩
  have hgl := hr1.lt
  have hr1 := hide hr1
  have hb1 := hide hb1
  clear HO
  go_wp2_with fail
  refine (pick_c g _ 3 _ hr1.out (by omega) (by omega) (by omega)).mono ?_
  rintro e w2 ⟨x2, rfl, hx2a, hx2b, hr2, hg2⟩
  have hb2 := hide (hb1.out.grown hg2 hb1.out.size (fun k hk => by injection hk with hk; omega))
  have hs2 := hg2.size
  have hr2 := hide hr2
  clear hg2 hb1 hr1
  go_wp2_with fail
  refine (pick_c g _ 20 _ hr2.out (by omega) (by omega) (by omega)).mono ?_
  rintro e w3 ⟨x3, rfl, hx3a, hx3b, hr3, hg3⟩
  have hb3 := hide (hb2.out.grown hg3 hb2.out.size (fun k hk => by injection hk with hk; omega))
  have hs3 := hg3.size
  have hr3 := hide hr3
  clear hg3 hb2 hr2
  go_wp2_with fail
  refine (rule_c g _ _ 3 _ hr3.out (by omega) (by omega) (by omega)).mono ?_
  rintro e w4 ⟨A'1, n'1, c'1, zs'1, rfl, ho1, hn1, hr4, hg4⟩
  have hb4 := hide (hb3.out.grown hg4 hb3.out.size (fun k hk => by injection hk with hk; omega))
  have hs4 := hg4.size
  have ho1 := hide ho1
  have hr4 := hide hr4
  clear hg4 hb3 hr3
  go_wp2_with fail
  go_ret2
  exact ⟨_, _, _, _, _, rfl, ho1.out.mat, by omega, by omega, by omega, hb4.out⟩

set_option maxHeartbeats 1000000 in
theorem DrawAfterWord_c (A : Option Addr) (n c : Nat) (bs : List Int) (w : World) (h : Bts w w.heap.size A n c bs) :
    Calls Try.prog 21 #[.slice A n c] w fun e w' => ∃ A1 n1 c1 zs1 A2 n2 c2 rs2 A3 n3 c3 zs3, e = .returned (.tuple #[.slice A1 n1 c1, .slice A2 n2 c2, .slice A3 n3 c3]) ∧ Ints w' w'.heap.size A1 n1 c1 zs1 ∧ n1 ≤ 10 ∧ Mat w' w'.heap.size A2 n2 c2 rs2 ∧ n2 ≤ 10 ∧ Ints w' w'.heap.size A3 n3 c3 zs3 ∧ n3 ≤ 10 ∧ Below w.heap.size w w' := by
  have HO := hide (open_c A n c bs w h)
  go_enter Try.func21, Try.ntmps21
  go_wp2_with fail
  refine HO.out.mono ?_
  rintro e w1 ⟨g, rfl, hr1, hg, hb1⟩
  have hgl := hr1.lt
  have hr1 := hide hr1
  have hb1 := hide hb1
  clear HO
  go_wp2_with fail
  refine (ruled_c g _ _ hr1.out (by omega)).mono ?_
  rintro e w2 ⟨A'1, n'1, c'1, zs'1, A'2, n'2, c'2, zs'2, A'3, n'3, c'3, zs'3, rfl, ho1, hn1, ho2, hn2, ho3, hn3, hr2, hg2⟩
  have hb2 := hide (hb1.out.grown hg2 hb1.out.size (fun k hk => by injection hk with hk; omega))
  have hs2 := hg2.size
  have ho1 := hide ho1
  have ho2 := hide ho2
  have ho3 := hide ho3
  have hr2 := hide hr2
  clear hg2 hb1 hr1
  go_wp2_with fail
  go_ret3
  exact ⟨_, _, _, _, _, _, _, _, _, _, _, _, rfl, ho1.out.ints, by omega, ho2.out.mat, by omega, ho3.out.ints, by omega, hb2.out⟩

set_option maxHeartbeats 1000000 in
theorem DrawRuleWays_c (A : Option Addr) (n c : Nat) (bs : List Int) (w : World) (h : Bts w w.heap.size A n c bs) :
    Calls Try.prog 28 #[.slice A n c] w fun e w' => ∃ A1 n1 c1 zs1 A2 n2 c2 rs2 A3 n3 c3 zs3, e = .returned (.tuple #[.slice A1 n1 c1, .slice A2 n2 c2, .slice A3 n3 c3]) ∧ Ints w' w'.heap.size A1 n1 c1 zs1 ∧ n1 ≤ 10 ∧ Mat w' w'.heap.size A2 n2 c2 rs2 ∧ n2 ≤ 10 ∧ Ints w' w'.heap.size A3 n3 c3 zs3 ∧ n3 ≤ 10 ∧ Below w.heap.size w w' := by
  have HO := hide (open_c A n c bs w h)
  go_enter Try.func28, Try.ntmps28
  go_wp2_with fail
  refine HO.out.mono ?_
  rintro e w1 ⟨g, rfl, hr1, hg, hb1⟩
  have hgl := hr1.lt
  have hr1 := hide hr1
  have hb1 := hide hb1
  clear HO
  go_wp2_with fail
  refine (ruled_c g _ _ hr1.out (by omega)).mono ?_
  rintro e w2 ⟨A'1, n'1, c'1, zs'1, A'2, n'2, c'2, zs'2, A'3, n'3, c'3, zs'3, rfl, ho1, hn1, ho2, hn2, ho3, hn3, hr2, hg2⟩
  have hb2 := hide (hb1.out.grown hg2 hb1.out.size (fun k hk => by injection hk with hk; omega))
  have hs2 := hg2.size
  have ho1 := hide ho1
  have ho2 := hide ho2
  have ho3 := hide ho3
  have hr2 := hide hr2
  clear hg2 hb1 hr1
  go_wp2_with fail
  go_ret3
  exact ⟨_, _, _, _, _, _, _, _, _, _, _, _, rfl, ho1.out.ints, by omega, ho2.out.mat, by omega, ho3.out.ints, by omega, hb2.out⟩

set_option maxHeartbeats 1000000 in
theorem DrawRuleAll_c (A : Option Addr) (n c : Nat) (bs : List Int) (w : World) (h : Bts w w.heap.size A n c bs) :
    Calls Try.prog 32 #[.slice A n c] w fun e w' => ∃ A1 n1 c1 zs1 A2 n2 c2 rs2, ∃ k1 : Int, e = .returned (.tuple #[.slice A1 n1 c1, .slice A2 n2 c2, .int .i64 k1]) ∧ Ints w' w'.heap.size A1 n1 c1 zs1 ∧ n1 ≤ 10 ∧ Mat w' w'.heap.size A2 n2 c2 rs2 ∧ n2 ≤ 10 ∧ -100 ≤ k1 ∧ k1 ≤ 100 ∧ Below w.heap.size w w' := by
  have HO := hide (open_c A n c bs w h)
  go_enter Try.func32, Try.ntmps32
  go_wp2_with fail
  refine HO.out.mono ?_
  rintro e w1 ⟨g, rfl, hr1, hg, hb1⟩
  have hgl := hr1.lt
  have hr1 := hide hr1
  have hb1 := hide hb1
  clear HO
  go_wp2_with fail
  refine (ruled_c g _ _ hr1.out (by omega)).mono ?_
  rintro e w2 ⟨A'1, n'1, c'1, zs'1, A'2, n'2, c'2, zs'2, A'3, n'3, c'3, zs'3, rfl, ho1, hn1, ho2, hn2, ho3, hn3, hr2, hg2⟩
  have hb2 := hide (hb1.out.grown hg2 hb1.out.size (fun k hk => by injection hk with hk; omega))
  have hs2 := hg2.size
  have ho1 := hide ho1
  have ho2 := hide ho2
  have ho3 := hide ho3
  have hr2 := hide hr2
  clear hg2 hb1 hr1
  go_wp2_with fail
  refine (pick_c g _ 6 _ hr2.out (by omega) (by omega) (by omega)).mono ?_
  rintro e w3 ⟨x3, rfl, hx3a, hx3b, hr3, hg3⟩
  have hb3 := hide (hb2.out.grown hg3 hb2.out.size (fun k hk => by injection hk with hk; omega))
  have hs3 := hg3.size
  replace ho1 := hide (ho1.out.past hg3 (by omega))
  replace ho2 := hide (ho2.out.past hg3 (by omega))
  replace ho3 := hide (ho3.out.past hg3 (by omega))
  have hr3 := hide hr3
  clear hg3 hb2 hr2
  go_wp2_with fail
  refine (pick_c g _ 40 _ hr3.out (by omega) (by omega) (by omega)).mono ?_
  rintro e w4 ⟨x4, rfl, hx4a, hx4b, hr4, hg4⟩
  have hb4 := hide (hb3.out.grown hg4 hb3.out.size (fun k hk => by injection hk with hk; omega))
  have hs4 := hg4.size
  replace ho1 := hide (ho1.out.past hg4 (by omega))
  replace ho2 := hide (ho2.out.past hg4 (by omega))
  replace ho3 := hide (ho3.out.past hg4 (by omega))
  have hr4 := hide hr4
  clear hg4 hb3 hr3
  go_wp2_with fail
  go_ret3
  exact ⟨_, _, _, _, _, _, _, _, _, rfl, ho1.out.ints, by omega, ho2.out.mat, by omega, by omega, by omega, hb4.out⟩

set_option maxHeartbeats 1000000 in
theorem DrawEvenRule_c (A : Option Addr) (n c : Nat) (bs : List Int) (w : World) (h : Bts w w.heap.size A n c bs) :
    Calls Try.prog 37 #[.slice A n c] w fun e w' => ∃ A1 n1 c1 rs1, ∃ k1 : Int, e = .returned (.tuple #[.int .i64 k1, .slice A1 n1 c1]) ∧ Mat w' w'.heap.size A1 n1 c1 rs1 ∧ n1 ≤ 10 ∧ -100 ≤ k1 ∧ k1 ≤ 100 ∧ Below w.heap.size w w' := by
  have HO := hide (open_c A n c bs w h)
  go_enter Try.func37, Try.ntmps37
  go_wp2_with fail
  refine HO.out.mono ?_
  rintro e w1 ⟨g, rfl, hr1, hg, hb1⟩
  have hgl := hr1.lt
  have hr1 := hide hr1
  have hb1 := hide hb1
  clear HO
  go_wp2_with fail
  refine (pick_c g _ 3 _ hr1.out (by omega) (by omega) (by omega)).mono ?_
  rintro e w2 ⟨x2, rfl, hx2a, hx2b, hr2, hg2⟩
  have hb2 := hide (hb1.out.grown hg2 hb1.out.size (fun k hk => by injection hk with hk; omega))
  have hs2 := hg2.size
  have hr2 := hide hr2
  clear hg2 hb1 hr1
  go_wp2_with fail
  refine (rule_c g _ _ 9 _ hr2.out (by omega) (by omega) (by omega)).mono ?_
  rintro e w3 ⟨A'1, n'1, c'1, zs'1, rfl, ho1, hn1, hr3, hg3⟩
  have hb3 := hide (hb2.out.grown hg3 hb2.out.size (fun k hk => by injection hk with hk; omega))
  have hs3 := hg3.size
  have ho1 := hide ho1
  have hr3 := hide hr3
  clear hg3 hb2 hr2
  go_wp2_with fail
  go_ret2
  exact ⟨_, _, _, _, _, rfl, ho1.out.mat, by omega, by omega, by omega, hb3.out⟩

set_option maxHeartbeats 1000000 in
theorem DrawBallSum_c (A : Option Addr) (n c : Nat) (bs : List Int) (w : World) (h : Bts w w.heap.size A n c bs) :
    Calls Try.prog 39 #[.slice A n c] w fun e w' => ∃ A1 n1 c1 zs1 A2 n2 c2 rs2, ∃ k1 k2 : Int, e = .returned (.tuple #[.slice A1 n1 c1, .slice A2 n2 c2, .int .i64 k1, .int .i64 k2]) ∧ Ints w' w'.heap.size A1 n1 c1 zs1 ∧ n1 ≤ 10 ∧ Mat w' w'.heap.size A2 n2 c2 rs2 ∧ n2 ≤ 10 ∧ -100 ≤ k1 ∧ k1 ≤ 100 ∧ -100 ≤ k2 ∧ k2 ≤ 100 ∧ Below w.heap.size w w' := by
  have HO := hide (open_c A n c bs w h)
  go_enter Try.func39, Try.ntmps39
  go_wp2_with fail
  refine HO.out.mono ?_
  rintro e w1 ⟨g, rfl, hr1, hg, hb1⟩
  have hgl := hr1.lt
  have hr1 := hide hr1
  have hb1 := hide hb1
  clear HO
  go_wp2_with fail
  refine (ruled_c g _ _ hr1.out (by omega)).mono ?_
  rintro e w2 ⟨A'1, n'1, c'1, zs'1, A'2, n'2, c'2, zs'2, A'3, n'3, c'3, zs'3, rfl, ho1, hn1, ho2, hn2, ho3, hn3, hr2, hg2⟩
  have hb2 := hide (hb1.out.grown hg2 hb1.out.size (fun k hk => by injection hk with hk; omega))
  have hs2 := hg2.size
  have ho1 := hide ho1
  have ho2 := hide ho2
  have ho3 := hide ho3
  have hr2 := hide hr2
  clear hg2 hb1 hr1
  go_wp2_with fail
  refine (pick_c g _ 5 _ hr2.out (by omega) (by omega) (by omega)).mono ?_
  rintro e w3 ⟨x3, rfl, hx3a, hx3b, hr3, hg3⟩
  have hb3 := hide (hb2.out.grown hg3 hb2.out.size (fun k hk => by injection hk with hk; omega))
  have hs3 := hg3.size
  replace ho1 := hide (ho1.out.past hg3 (by omega))
  replace ho2 := hide (ho2.out.past hg3 (by omega))
  replace ho3 := hide (ho3.out.past hg3 (by omega))
  have hr3 := hide hr3
  clear hg3 hb2 hr2
  go_wp2_with fail
  refine (pick_c g _ 40 _ hr3.out (by omega) (by omega) (by omega)).mono ?_
  rintro e w4 ⟨x4, rfl, hx4a, hx4b, hr4, hg4⟩
  have hb4 := hide (hb3.out.grown hg4 hb3.out.size (fun k hk => by injection hk with hk; omega))
  have hs4 := hg4.size
  replace ho1 := hide (ho1.out.past hg4 (by omega))
  replace ho2 := hide (ho2.out.past hg4 (by omega))
  replace ho3 := hide (ho3.out.past hg4 (by omega))
  have hr4 := hide hr4
  clear hg4 hb3 hr3
  go_wp2_with fail
  refine (pick_any g _ (n'1 : Int) _ hr4.out (by omega) (by omega)).mono ?_
  rintro e w5 ⟨x5, rfl, hx5a, hx5b, hr5, hg5⟩
  have hb5 := hide (hb4.out.grown hg5 hb4.out.size (fun k hk => by injection hk with hk; omega))
  have hs5 := hg5.size
  replace ho1 := hide (ho1.out.past hg5 (by omega))
  replace ho2 := hide (ho2.out.past hg5 (by omega))
  replace ho3 := hide (ho3.out.past hg5 (by omega))
  have hr5 := hide hr5
  clear hg5 hb4 hr4
  go_wp2_with fail
  refine (pick_c g _ 40 _ hr5.out (by omega) (by omega) (by omega)).mono ?_
  rintro e w6 ⟨x6, rfl, hx6a, hx6b, hr6, hg6⟩
  have hb6 := hide (hb5.out.grown hg6 hb5.out.size (fun k hk => by injection hk with hk; omega))
  have hs6 := hg6.size
  replace ho1 := hide (ho1.out.past hg6 (by omega))
  replace ho2 := hide (ho2.out.past hg6 (by omega))
  replace ho3 := hide (ho3.out.past hg6 (by omega))
  have hr6 := hide hr6
  clear hg6 hb5 hr5
  go_wp2_with fail
  (try simp only [Exit.inBlock, Exit.then])
  refine bodyPost_ret (results_tmp4 rfl _ _ _) rfl ?_
  exact ⟨_, _, _, _, _, _, _, _, _, _, rfl, ho1.out.ints, by omega, ho2.out.mat, by omega, by omega, by omega, by omega, by omega, hb6.out⟩
end Go.Proofs.Ythdelfhfglnhfaa
