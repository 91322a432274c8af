/-
  Contracts of chapter 8, the specification's side: FullWays, EmptyWays, ApartWays, GroupsOf, WaitWays, PairWays.
-/
import Derived.Test.YtdejlalodjhlbaaPlainZ
import Derived.Test.YtdejlalodjhlbaaRoomS
namespace Go.Proofs.Ytdejlalodjhlbaa
open Go.RowKit
set_option linter.unusedVariables false

theorem fallOk_no {n b : Int} (h : ¬(0 ≤ n ∧ n ≤ 7) ∨ ¬(1 ≤ b ∧ b ≤ 6)) : fallOk n b = false := decide_eq_false (by omega)
theorem pow_box {b m : Nat} (hb : b ≤ 6) (hm : m ≤ 7) : b ^ m ≤ 279936 := by
  rcases Nat.eq_zero_or_pos b with h | h
  · subst h
    cases m with
    | zero => decide
    | succ m => rw [Nat.pow_succ]; omega
  · exact Nat.le_trans (Nat.pow_le_pow_left hb m) (Nat.pow_le_pow_right (n := 6) (by omega) hm)
theorem groupsN_over : ∀ (n k : Nat), n < k → groupsN n k = 0
  | 0, k + 1, _ => rfl
  | n + 1, k + 1, h => by
    show (k + 1) * groupsN n (k + 1) + groupsN n k = 0
    rw [groupsN_over n (k + 1) (by omega), groupsN_over n k (by omega), Nat.mul_zero]
theorem fallN_box {B k : Nat} (hB : B ≤ 6) (hk : k ≤ 7) : fallN B k ≤ 300000 := (full_bound hk hB).2.2.1
end Go.Proofs.Ytdejlalodjhlbaa
