/-
  The laws' powerOf of any base.
-/
import Derived.Test.YtdejlalodjhlbaaZdraw
namespace Go.Proofs.Ytdejlalodjhlbaa
open Go.RowKit

theorem mul_abs {a b M N : Int} (ha : -M ≤ a) (ha' : a ≤ M) (hb : -N ≤ b) (hb' : b ≤ N) : -(M * N) ≤ a * b ∧ a * b ≤ M * N := by
  have key : ∀ x y : Int, 0 ≤ x → x ≤ M → 0 ≤ y → y ≤ N → 0 ≤ x * y ∧ x * y ≤ M * N := fun x y h1 h2 h3 h4 =>
    ⟨Int.mul_nonneg h1 h3, Int.le_trans (Int.mul_le_mul_of_nonneg_right h2 h3) (Int.mul_le_mul_of_nonneg_left h4 (by omega))⟩
  rcases Int.le_total 0 a with h | h <;> rcases Int.le_total 0 b with k | k
  · have := key a b h ha' k hb'; omega
  · have := key a (-b) h ha' (by omega) (by omega); rw [Int.mul_neg] at this; omega
  · have := key (-a) b (by omega) (by omega) k hb'; rw [Int.neg_mul] at this; omega
  · have := key (-a) (-b) (by omega) (by omega) (by omega) (by omega); rw [Int.neg_mul, Int.mul_neg] at this; omega

end Go.Proofs.Ytdejlalodjhlbaa
