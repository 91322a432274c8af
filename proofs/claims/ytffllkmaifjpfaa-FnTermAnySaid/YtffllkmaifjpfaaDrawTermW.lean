/-
  The draw of TermWays.
-/
import Derived.Test.YtffllkmaifjpfaaDrawTerm
import Derived.Test.YtffllkmaifjpfaaZruled
namespace Go.Proofs.Ytffllkmaifjpfaa
open Go.RowKit
set_option linter.unusedVariables false

set_option maxHeartbeats 1600000 in
theorem DrawTermWays_c (A : Option Addr) (n c : Nat) (bs : List Int) (w : World) (h : Bts w w.heap.size A n c bs) :
    Calls Try.prog 30 #[.slice A n c] w fun e w' => ∃ A1 n1 c1 zs1 A2 n2 c2 rs2 A3 n3 c3 ts3, e = .returned (.tuple #[.slice A1 n1 c1, .slice A2 n2 c2, .slice A3 n3 c3]) ∧ Ints w' w'.heap.size A1 n1 c1 zs1 ∧ n1 ≤ 10 ∧ Mat w' w'.heap.size A2 n2 c2 rs2 ∧ n2 ≤ 10 ∧ Marks w' w'.heap.size A3 n3 c3 ts3 ∧ n3 ≤ 600 ∧ Below w.heap.size w w' := by
  have HO := hide (open_c A n c bs w h)
  go_enter Try.func30, Try.ntmps30
  go_wp2_with fail
  refine HO.out.mono ?_
  rintro e w1 ⟨g, rfl, hr1, hg, hb1⟩
  have hgl := hr1.lt
  have hr1 := hide hr1
  have hb1 := hide hb1
  clear HO
  go_wp2_with fail
  refine (urn_c g _ 14 _ hr1.out (by omega) (by omega) (by omega)).mono ?_
  rintro e w2 ⟨A1, n1, c1, zs1, rfl, ho1, hn1, hr2, hg2⟩
  have hb2 := hide (hb1.out.grown hg2 hb1.out.size (fun k hk => by injection hk with hk; omega))
  have hs2 := hg2.size
  have ho1 := hide ho1
  have hr2 := hide hr2
  clear hg2 hb1 hr1
  go_wp2_with fail
  refine (rule_c g _ (n1 : Int) 14 _ hr2.out (by omega) (by omega) (by omega)).mono ?_
  rintro e w3 ⟨A2, n2, c2, rs2, rfl, hM, hn2, hr3, hg3⟩
  have hb3 := hide (hb2.out.grown hg3 hb2.out.size (fun k hk => by injection hk with hk; omega))
  have hs3 := hg3.size
  replace ho1 := hide (ho1.out.past hg3 (by omega))
  have hM := hide hM
  have hr3 := hide hr3
  clear hg3 hb2 hr2
  go_wp2_with fail
  refine (l20Term_r g _ (n1 : Int) 14 _ hr3.out (by omega) (by omega) (by omega) (by omega) (by omega)).mono ?_
  rintro e w4 ⟨A3, n3, c3, ts3, rfl, ho3, hn3, hr4, hg4⟩
  have hb4 := hide (hb3.out.grown hg4 hb3.out.size (fun k hk => by injection hk with hk; omega))
  replace ho1 := hide (ho1.out.past hg4 (by omega))
  replace hM := hide (hM.out.past hg4 (by omega))
  have ho3 := hide ho3
  clear hg4 hb3 hr3 hr4
  go_wp2_with fail
  go_ret3
  exact ⟨_, _, _, _, _, _, _, _, _, _, _, _, rfl, ho1.out.ints, by omega, hM.out.mat, by omega, ho3.out.marks, by omega, hb4.out⟩
end Go.Proofs.Ytffllkmaifjpfaa
