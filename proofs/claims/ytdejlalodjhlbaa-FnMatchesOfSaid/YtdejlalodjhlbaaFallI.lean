/-
  Contracts of chapter 8, the program's side: FullWays, EmptyWays, ApartWays, GroupsOf, WaitWays, PairWays.
-/
import Derived.Test.YtdejlalodjhlbaaFallS
import Derived.Test.YtdejlalodjhlbaaRoomI
import Derived.Test.YtdejlalodjhlbaaBoxI
import Derived.RegionTactic
namespace Go.Proofs.Ytdejlalodjhlbaa
open Go.RowKit
set_option linter.unusedVariables false

theorem full_turn {N B k : Nat} (hk : k < B + 1) (h6 : B ≤ 6) : fullAt N B k = (if k % 2 = 1 then -1 else 1) * (chooseN B k : Int) * (((B - k) ^ N : Nat) : Int) := by
  unfold fullAt
  split
  · rw [Int.natCast_mul, Int.neg_mul, Int.one_mul, Int.neg_mul]
  · rw [Int.natCast_mul, Int.one_mul]
theorem wait_cnt : allFall (fun N B => Nat.beq N 0 || Nat.beq B 0 || decide (waitN N B = (B : Int) * fullN (N - 1) (B - 1))) = true := by kernel_rfl
theorem wait_less {N B : Nat} (hN : N ≤ 7) (h6 : B ≤ 6) (hn : 1 ≤ N) (h1 : 1 ≤ B) : waitN N B = (B : Int) * fullN (N - 1) (B - 1) := by
  have h := allFall_at wait_cnt hN h6
  have h := h
  rcases Bool.or_eq_true_iff.1 h with h | h
  · rcases Bool.or_eq_true_iff.1 h with h | h
    · have := Nat.eq_of_beq_eq_true h; omega
    · have := Nat.eq_of_beq_eq_true h; omega
  · exact of_decide_eq_true h
end Go.Proofs.Ytdejlalodjhlbaa
