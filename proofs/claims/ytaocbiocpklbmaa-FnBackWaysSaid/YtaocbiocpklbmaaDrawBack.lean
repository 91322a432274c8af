/-
  The drawn inputs of chapter 3.
-/
import Derived.Test.YtaocbiocpklbmaaDrawCh2
namespace Go.Proofs.Ytaocbiocpklbmaa
open Go.RowKit
set_option linter.unusedVariables false

theorem DrawBackWays_c (A : Option Addr) (n c : Nat) (bs : List Int) (w : World) (h : Bts w w.heap.size A n c bs) :
    Calls Try.prog 11 #[.slice A n c] w fun e w' => ∃ A1 n1 c1 zs1 A2 n2 c2 zs2, e = .returned (.tuple #[.slice A1 n1 c1, .slice A2 n2 c2]) ∧ Ints w' w'.heap.size A1 n1 c1 zs1 ∧ n1 ≤ 10 ∧ Ints w' w'.heap.size A2 n2 c2 zs2 ∧ n2 ≤ 10 ∧ Below w.heap.size w w' := by
  have HO := hide (open_c A n c bs w h)
  go_enter Try.func11, Try.ntmps11
  go_wp2_with fail
  refine HO.out.mono ?_
  rintro e w1 ⟨g, rfl, hr, hg, hb⟩
  have hr := hide hr
  have hb := hide hb
  go_wp2_with fail
  refine (drawn_c g 0 _ hr.out (by omega)).mono ?_
  rintro e w2 ⟨A1, n1, c1, zs, A2, n2, c2, ws, rfl, ho, ho', hn, hn', _, hg2⟩
  have hb2 := hide (hb.out.grown hg2 hb.out.size (fun k hk => by injection hk with hk; omega))
  have ho := hide ho
  have ho' := hide ho'
  clear hg2
  go_wp2_with fail
  go_ret2
  exact ⟨_, _, _, zs, _, _, _, ws, rfl, ho.out.ints, by omega, ho'.out.ints, by omega, hb2.out⟩

set_option maxHeartbeats 1000000 in
theorem DrawSameTwice_c (A : Option Addr) (n c : Nat) (bs : List Int) (w : World) (h : Bts w w.heap.size A n c bs) :
    Calls Try.prog 27 #[.slice A n c] w fun e w' => ∃ A1 n1 c1 zs1, e = .returned (.slice A1 n1 c1) ∧ Ints w' w'.heap.size A1 n1 c1 zs1 ∧ n1 ≤ 10 ∧ Below w.heap.size w w' := by
  have HO := hide (open_c A n c bs w h)
  go_enter Try.func27, Try.ntmps27
  go_wp2_with fail
  refine HO.out.mono ?_
  rintro e w1 ⟨g, rfl, hr1, hg, hb1⟩
  have hgl := hr1.lt
  have hr1 := hide hr1
  have hb1 := hide hb1
  clear HO
  go_wp2_with fail
  refine (urn_c g _ 9 _ hr1.out (by omega) (by omega) (by omega)).mono ?_
  rintro e w2 ⟨A'1, n'1, c'1, zs'1, rfl, ho1, hn1, hr2, hg2⟩
  have hb2 := hide (hb1.out.grown hg2 hb1.out.size (fun k hk => by injection hk with hk; omega))
  have hs2 := hg2.size
  have ho1 := hide ho1
  have hr2 := hide hr2
  clear hg2 hb1 hr1
  go_wp2_with fail
  go_ret
  exact ⟨_, _, _, _, rfl, ho1.out.ints, by omega, hb2.out⟩

theorem DrawBackAll_c (A : Option Addr) (n c : Nat) (bs : List Int) (w : World) (h : Bts w w.heap.size A n c bs) :
    Calls Try.prog 16 #[.slice A n c] w fun e w' => ∃ A1 n1 c1 zs1, ∃ k1 : Int, e = .returned (.tuple #[.slice A1 n1 c1, .int .i64 k1]) ∧ Ints w' w'.heap.size A1 n1 c1 zs1 ∧ n1 ≤ 10 ∧ -100 ≤ k1 ∧ k1 ≤ 100 ∧ Below w.heap.size w w' := by
  have HO := hide (DrawAllWays_c A n c bs w h)
  go_enter Try.func16, Try.ntmps16
  go_wp2_with fail
  refine HO.out.mono ?_
  rintro e w1 ⟨A1, n1, c1, zs1, k1, rfl, h1, h2, h3, h4, hb⟩
  go_wp2_with fail
  go_ret2
  exact ⟨_, _, _, _, _, rfl, h1, h2, h3, h4, hb⟩

theorem DrawBackCounts_c (A : Option Addr) (n c : Nat) (bs : List Int) (w : World) (h : Bts w w.heap.size A n c bs) :
    Calls Try.prog 22 #[.slice A n c] w fun e w' => ∃ A1 n1 c1 zs1 A2 n2 c2 zs2, e = .returned (.tuple #[.slice A1 n1 c1, .slice A2 n2 c2]) ∧ Ints w' w'.heap.size A1 n1 c1 zs1 ∧ n1 ≤ 10 ∧ Ints w' w'.heap.size A2 n2 c2 zs2 ∧ n2 ≤ 10 ∧ Below w.heap.size w w' := by
  have HO := hide (DrawCountWays_c A n c bs w h)
  go_enter Try.func22, Try.ntmps22
  go_wp2_with fail
  refine HO.out.mono ?_
  rintro e w1 ⟨A1, n1, c1, zs1, A2, n2, c2, zs2, rfl, h1, h2, h3, h4, hb⟩
  go_wp2_with fail
  go_ret2
  exact ⟨_, _, _, _, _, _, _, _, rfl, h1, h2, h3, h4, hb⟩
end Go.Proofs.Ytaocbiocpklbmaa
