/-
  Contracts of chapter 3, the specification's side: BackWays, BackAll, BackCounts, SameTwice.
-/
import Derived.Test.YtffllkmaifjpfabZword
import Derived.Test.YtffllkmaifjpfabZpl
namespace Go.Proofs.Ytffllkmaifjpfab
open Go.RowKit

set_option maxHeartbeats 400000 in
theorem l3Power_c (z : Int) (m : Nat) (w : World) (h0 : 0 ≤ z) (h1 : z ≤ 120) (hm : m ≤ 6) :
    Calls Try.prog 59 #[.int .i64 z, .int .i64 m] w fun e w' => e = .returned (.int .i64 (z ^ m)) ∧ w = w' := by
  have HB := hide (fun k (hk : k ≤ 6) => show 0 ≤ z ^ k ∧ z ^ k ≤ 2985984000000 from ⟨(pow_bounds h0 h1 k).1, Int.le_trans (pow_bounds h0 h1 k).2 (pow120 k hk)⟩)
  have HS := hide (fun k => Int.pow_succ (m := z) (n := k))
  obtain ⟨T, hT⟩ : ∃ T, Hid (z ^ m = T) := ⟨_, hide rfl⟩
  rw [hT.out]
  go_enter Try.func59, Try.ntmps59
  go_wp2
  go_loop [5, 6] (fun t i => ∃ k : Nat, ∃ P : Int, k ≤ m ∧ i = .int .i64 k ∧ t = .int .i64 P ∧ Hid (P = z ^ k)) (fun _ i => m - (intOf i).toNat)
  case atStart => exact ⟨0, 1, Nat.zero_le _, rfl, rfl, hide (Int.pow_zero z).symm⟩
  case round =>
    obtain ⟨k, P, hk, rfl, rfl, hP⟩ := hrel
    by_cases hlt : k < m
    · obtain ⟨b0, b1⟩ := HB.out (k + 1) (by omega)
      have hst := hide (HS.out k)
      rw [hst.out, ← hP.out] at b0 b1
      go_wp2
      go_round
      case rel => exact ⟨k + 1, P * z, by omega, by go_num, rfl, by rw [hP.out]; exact hide hst.out.symm⟩
      case measure => simp [intOf]; omega
    · obtain rfl : k = m := by omega
      go_wp2
      go_ret
      exact ⟨ret_int (by rw [hP.out, hT.out]), rfl⟩

end Go.Proofs.Ytffllkmaifjpfab
