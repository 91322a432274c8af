/-
  Contracts of chapter 10, the specification's side: RunsOf, LongestRun, RunWords, RunSum.
-/
import Derived.Test.YtdejlalodjhlbaaPlainAA
import Derived.Test.YtdejlalodjhlbaaRoomS
import Derived.Test.YtdejlalodjhlbaaZword
namespace Go.Proofs.Ytdejlalodjhlbaa
open Go.RowKit
set_option linter.unusedVariables false

theorem chooseI_bound {n k : Int} (hn : n ≤ 30) : 0 ≤ chooseI n k ∧ chooseI n k ≤ 200000000 := by
  by_cases h : k < 0 ∨ k > n
  · rw [chooseI_out h]; omega
  · obtain ⟨N, rfl⟩ : ∃ N : Nat, n = (N : Int) := ⟨n.toNat, by omega⟩
    obtain ⟨K, rfl⟩ : ∃ K : Nat, k = (K : Int) := ⟨k.toNat, by omega⟩
    rw [chooseI_in (by omega)]
    have := choose_bound (n := N) (k := K) (j := K) (by omega) (by omega) (Nat.le_refl _)
    unfold chooseN
    omega
theorem ints_lit2 {w : World} {x y : Int} (hx : (Lit.int .i64 x).wf = true) (hy : (Lit.int .i64 y).wf = true) : Ints (w.alloc (.cells #[.int .i64 x, .int .i64 y] 3)) (w.heap.size + 1) (some ⟨w.heap.size, 0, none⟩) 2 2 [x, y] :=
  ((ints_lit (w := w) [x, y] (by intro z hz; simp at hz; rcases hz with rfl | rfl; exact hx; exact hy) (by simp) rfl).ints).more (by simp)

end Go.Proofs.Ytdejlalodjhlbaa
