/-
  Words, plain lemmas and contracts that belong together, joined into one file.
-/
import Derived.Test.YtffllkmaifjpfadDrawRule
namespace Go.Proofs.Ytffllkmaifjpfad
open Go.RowKit

theorem results_tmp4 {fn : Func} {t u v x : Tmp} (h : fn.results = #[.tmp t, .tmp u, .tmp v, .tmp x]) (tmps : Array Value) (P : Program) (w : World) :
    (results fn tmps).run P w = .ok (.tuple #[tmps.getD t undef, tmps.getD u undef, tmps.getD v undef, tmps.getD x undef]) w := by
  simp [results, h]

end Go.Proofs.Ytffllkmaifjpfad

namespace Go.Proofs.Ytffllkmaifjpfad
open Go.RowKit
set_option linter.unusedVariables false

set_option maxHeartbeats 1000000 in
theorem DrawSameCounts_c (A : Option Addr) (n c : Nat) (bs : List Int) (w : World) (h : Bts w w.heap.size A n c bs) :
    Calls Try.prog 8 #[.slice A n c] w fun e w' => ∃ A1 n1 c1 zs1 A2 n2 c2 zs2, ∃ k1 : Int, e = .returned (.tuple #[.slice A1 n1 c1, .int .i64 k1, .slice A2 n2 c2]) ∧ Ints w' w'.heap.size A1 n1 c1 zs1 ∧ n1 ≤ 10 ∧ Ints w' w'.heap.size A2 n2 c2 zs2 ∧ n2 ≤ 10 ∧ -100 ≤ k1 ∧ k1 ≤ 100 ∧ Below w.heap.size w w' := by
  have HO := hide (open_c A n c bs w h)
  go_enter Try.func8, Try.ntmps8
  go_wp2_with fail
  refine HO.out.mono ?_
  rintro e w1 ⟨g, rfl, hr1, hg, hb1⟩
  have hgl := hr1.lt
  have hr1 := hide hr1
  have hb1 := hide hb1
  clear HO
  go_wp2_with fail
  refine (urn_c g _ 14 _ hr1.out (by omega) (by omega) (by omega)).mono ?_
  rintro e w2 ⟨A'1, n'1, c'1, zs'1, rfl, ho1, hn1, hr2, hg2⟩
  have hb2 := hide (hb1.out.grown hg2 hb1.out.size (fun k hk => by injection hk with hk; omega))
  have hs2 := hg2.size
  have ho1 := hide ho1
  have hr2 := hide hr2
  clear hg2 hb1 hr1
  go_wp2_with fail
  refine (pick_c g _ 5 _ hr2.out (by omega) (by omega) (by omega)).mono ?_
  rintro e w3 ⟨x3, rfl, hx3a, hx3b, hr3, hg3⟩
  have hb3 := hide (hb2.out.grown hg3 hb2.out.size (fun k hk => by injection hk with hk; omega))
  have hs3 := hg3.size
  replace ho1 := hide (ho1.out.past hg3 (by omega))
  have hr3 := hide hr3
  clear hg3 hb2 hr2
  go_wp2_with fail
  refine (pick_c g _ 40 _ hr3.out (by omega) (by omega) (by omega)).mono ?_
  rintro e w4 ⟨x4, rfl, hx4a, hx4b, hr4, hg4⟩
  have hb4 := hide (hb3.out.grown hg4 hb3.out.size (fun k hk => by injection hk with hk; omega))
  have hs4 := hg4.size
  replace ho1 := hide (ho1.out.past hg4 (by omega))
  have hr4 := hide hr4
  clear hg4 hb3 hr3
  go_wp2_with fail
  refine (cnts_c g _ (n'1 : Int) _ hr4.out (by omega) (by omega) (by omega)).mono ?_
  rintro e w5 ⟨A'2, n'2, c'2, zs'2, rfl, ho2, hn2, hr5, hg5⟩
  have hb5 := hide (hb4.out.grown hg5 hb4.out.size (fun k hk => by injection hk with hk; omega))
  have hs5 := hg5.size
  replace ho1 := hide (ho1.out.past hg5 (by omega))
  have ho2 := hide ho2
  have hr5 := hide hr5
  clear hg5 hb4 hr4
  go_wp2_with fail
  go_ret3
  exact ⟨_, _, _, _, _, _, _, _, _, rfl, ho1.out.ints, by omega, ho2.out.ints, by omega, by omega, by omega, hb5.out⟩

end Go.Proofs.Ytffllkmaifjpfad
