/-
  Contracts of chapter 6, the program's side: BoxOk, BoxWeights, BoxSum, NextChance, LikeliestBox, BoxMean.
-/
import Derived.Test.YtfencbfjnifmjaaZbox
import Derived.Test.YtfencbfjnifmjaaRuleA
namespace Go.Proofs.Ytfencbfjnifmjaa
open Go.RowKit

/-- steppedProduct with any row of products on the way. -/
theorem stepK_c (z s : Int) (m : Nat) (K : Nat → Int) (w : World) (h0 : -1000 ≤ z) (h1 : z ≤ 1000) (hm : m ≤ 20) (s0 : -1 ≤ s) (s1 : s ≤ 3) (hK0 : K 0 = 1) (hK : ∀ k : Nat, k < m → K k * (z + (k : Int) * s) = K (k + 1)) (hB : ∀ k, k ≤ m → -1000000000000000 ≤ K k ∧ K k ≤ 1000000000000000) :
    Calls Try.prog 45 #[.int .i64 z, .int .i64 m, .int .i64 s] w fun e w' => e = .returned (.int .i64 (K m)) ∧ w = w' := by
  have HK := hide hK
  have HB := hide hB
  have HM := hide (fun (k : Nat) (hk : k ≤ 20) => show -20 ≤ (k : Int) * s ∧ (k : Int) * s ≤ 80 from by
    have a := mul_bound (a := (k : Int)) (M := 20) (by omega) (by omega) (b := s + 1) (N := 4) (by omega) (by omega)
    rw [Int.mul_add] at a
    omega)
  have HK0 := hide hK0
  clear hK hB hK0
  go_enter Try.func45, Try.ntmps45
  go_wp2
  go_loop [7, 10] (fun t i => ∃ k : Nat, ∃ P : Int, k ≤ m ∧ i = .int .i64 k ∧ t = .int .i64 P ∧ Hid (P = K k)) (fun _ i => m - (intOf i).toNat)
  case atStart => exact ⟨0, 1, Nat.zero_le _, rfl, rfl, hide HK0.out.symm⟩
  case round =>
    obtain ⟨k, P, hk, rfl, rfl, hP⟩ := hrel
    by_cases hlt : k < m
    · obtain ⟨c0, c1⟩ := HB.out (k + 1) (by omega)
      obtain ⟨d0, d1⟩ := HM.out k (by omega)
      have hst := hide (HK.out k hlt)
      rw [← hP.out] at hst
      rw [← hst.out] at c0 c1
      go_wp2
      go_round
      case rel => exact ⟨k + 1, P * (z + (k : Int) * s), by omega, by go_num, rfl, hide hst.out⟩
      case measure => simp [intOf]; omega
    · obtain rfl : k = m := by omega
      go_wp2
      go_ret
      exact ⟨ret_int hP.out, rfl⟩

theorem fallN_big {n k : Nat} (h : n < k) : fallN n k = 0 := by
  cases k with
  | zero => omega
  | succ k => rw [fallN_snoc, show n - k = 0 by omega, Nat.mul_zero]
theorem fallN_next (n k : Nat) : (fallN n k : Int) * ((n : Int) + (k : Int) * -1) = (fallN n (k + 1) : Int) := by
  rcases Nat.lt_or_ge n k with h | h
  · rw [fallN_big h, fallN_big (show n < k + 1 by omega)]; simp
  · rw [fallN_snoc, Int.natCast_mul, Int.natCast_sub h, Int.mul_neg, Int.mul_one, Int.sub_eq_add_neg]
theorem stepB_c (z k : Nat) (w : World) (hz : z ≤ 8) (hk : k ≤ 8) :
    Calls Try.prog 45 #[.int .i64 (z : Int), .int .i64 (k : Int), .int .i64 (-1)] w fun e w' => e = .returned (.int .i64 (fallN z k : Int)) ∧ w = w' :=
  stepK_c (z : Int) (-1) k (fun j => (fallN z j : Int)) w (by omega) (by omega) (by omega) (by decide) (by decide) (by simp [fallN]) (fun j _ => fallN_next z j) (fun j hj => by
    have := fallN_bound hz (show j ≤ 8 by omega)
    omega)

theorem box_max {M F S : Nat} (h1 : 1 ≤ M) (h8 : M ≤ 8) (hs : F + S ≤ M) : mxN (boxL M F S) (M + 1) = (bwN M F S (bestTo (bwN M F S) (M + 1)) : Int) := by
  obtain ⟨b, hb, _, hbM, _, hle, _⟩ := best_facts h1 h8 hs
  rw [hb]
  have e1 : mxN (boxL M F S) (M + 1) ≤ (bwN M F S b : Int) := mxN_le (fun z hz => by
    obtain ⟨k, hk, rfl⟩ := List.getElem_of_mem hz
    obtain ⟨k1, k2, _, _⟩ := boxL_elem h1 h8 hs (List.getElem?_eq_getElem hk)
    rw [k2]
    have := hle k k1
    omega) (by rw [boxL_len]; omega) (by rw [boxL_len]; omega)
  have e2 := mxN_ge (k := M + 1) (boxL_at (M := M) (F := F) (S := S) (show b < M + 1 by omega)) (by omega)
  omega

end Go.Proofs.Ytfencbfjnifmjaa
