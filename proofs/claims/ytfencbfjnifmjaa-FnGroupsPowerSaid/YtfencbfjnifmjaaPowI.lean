/-
  The laws' powerOf of any base.
-/
import Derived.Test.YtfencbfjnifmjaaZdraw
namespace Go.Proofs.Ytfencbfjnifmjaa
open Go.RowKit

theorem mul_abs {a b M N : Int} (ha : -M ≤ a) (ha' : a ≤ M) (hb : -N ≤ b) (hb' : b ≤ N) : -(M * N) ≤ a * b ∧ a * b ≤ M * N := by
  have key : ∀ x y : Int, 0 ≤ x → x ≤ M → 0 ≤ y → y ≤ N → 0 ≤ x * y ∧ x * y ≤ M * N := fun x y h1 h2 h3 h4 =>
    ⟨Int.mul_nonneg h1 h3, Int.le_trans (Int.mul_le_mul_of_nonneg_right h2 h3) (Int.mul_le_mul_of_nonneg_left h4 (by omega))⟩
  rcases Int.le_total 0 a with h | h <;> rcases Int.le_total 0 b with k | k
  · have := key a b h ha' k hb'; omega
  · have := key a (-b) h ha' (by omega) (by omega); rw [Int.mul_neg] at this; omega
  · have := key (-a) b (by omega) (by omega) k hb'; rw [Int.neg_mul] at this; omega
  · have := key (-a) (-b) (by omega) (by omega) (by omega) (by omega); rw [Int.neg_mul, Int.mul_neg] at this; omega

set_option maxHeartbeats 400000 in
theorem lawPowI_c (b : Int) (m : Nat) (w : World) (h1 : -100 ≤ b) (h3 : b ≤ 100) (hm : m < 17) (hB : ∀ k, k ≤ m → -1000000000 ≤ b ^ k ∧ b ^ k ≤ 1000000000) :
    Calls Try.prog 21 #[.int .i64 b, .int .i64 m] w fun e w' => e = .returned (.int .i64 (b ^ m)) ∧ w = w' := by
  have HB := hide hB
  have HS := hide (fun k => Int.pow_succ b k)
  clear hB
  go_enter Try.func21, Try.ntmps21
  go_wp2
  go_loop [5, 6] (fun t i => ∃ k : Nat, ∃ P : Int, k ≤ m ∧ i = .int .i64 k ∧ t = .int .i64 P ∧ Hid (P = b ^ k)) (fun _ i => m - (intOf i).toNat)
  case atStart => exact ⟨0, 1, Nat.zero_le _, rfl, rfl, hide (by simp)⟩
  case round =>
    obtain ⟨k, P, hk, rfl, rfl, hP⟩ := hrel
    by_cases hlt : k < m
    · obtain ⟨b1, b2⟩ := HB.out k (by omega)
      have hst := hide (HS.out k)
      rw [← hP.out] at b1 b2 hst
      obtain ⟨q1, q2⟩ := mul_abs b1 b2 h1 h3
      go_wp2
      go_round
      case rel => exact ⟨k + 1, P * b, by omega, by go_num, rfl, hst.out.symm⟩
      case measure => simp [intOf]; omega
    · obtain rfl : k = m := by omega
      go_wp2
      go_ret
      exact ⟨ret_int hP.out, rfl⟩
end Go.Proofs.Ytfencbfjnifmjaa
