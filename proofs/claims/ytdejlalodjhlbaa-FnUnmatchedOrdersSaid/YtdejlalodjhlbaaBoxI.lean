/-
  Contracts of chapter 6, the program's side: BoxOk, BoxWeights, BoxSum, NextChance, LikeliestBox, BoxMean.
-/
import Derived.Test.YtdejlalodjhlbaaZbox
import Derived.Test.YtdejlalodjhlbaaRuleA
namespace Go.Proofs.Ytdejlalodjhlbaa
open Go.RowKit

theorem fallN_big {n k : Nat} (h : n < k) : fallN n k = 0 := by
  cases k with
  | zero => omega
  | succ k => rw [fallN_snoc, show n - k = 0 by omega, Nat.mul_zero]
theorem fallN_next (n k : Nat) : (fallN n k : Int) * ((n : Int) + (k : Int) * -1) = (fallN n (k + 1) : Int) := by
  rcases Nat.lt_or_ge n k with h | h
  · rw [fallN_big h, fallN_big (show n < k + 1 by omega)]; simp
  · rw [fallN_snoc, Int.natCast_mul, Int.natCast_sub h, Int.mul_neg, Int.mul_one, Int.sub_eq_add_neg]
theorem box_max {M F S : Nat} (h1 : 1 ≤ M) (h8 : M ≤ 8) (hs : F + S ≤ M) : mxN (boxL M F S) (M + 1) = (bwN M F S (bestTo (bwN M F S) (M + 1)) : Int) := by
  obtain ⟨b, hb, _, hbM, _, hle, _⟩ := best_facts h1 h8 hs
  rw [hb]
  have e1 : mxN (boxL M F S) (M + 1) ≤ (bwN M F S b : Int) := mxN_le (fun z hz => by
    obtain ⟨k, hk, rfl⟩ := List.getElem_of_mem hz
    obtain ⟨k1, k2, _, _⟩ := boxL_elem h1 h8 hs (List.getElem?_eq_getElem hk)
    rw [k2]
    have := hle k k1
    omega) (by rw [boxL_len]; omega) (by rw [boxL_len]; omega)
  have e2 := mxN_ge (k := M + 1) (boxL_at (M := M) (F := F) (S := S) (show b < M + 1 by omega)) (by omega)
  omega

end Go.Proofs.Ytdejlalodjhlbaa
