/-
  Laws of chapter 8 walked: FnFullWays, and what the laws of this chapter share (written by wip/gen_x1.py).
-/
import Derived.Test.YtdejlalodjhlbaaFallI
import Derived.Test.YtdejlalodjhlbaaDrawCh8
import Derived.Test.YtdejlalodjhlbaaZdraw
import Derived.Test.YtdejlalodjhlbaaPowI
namespace Go.Proofs.Ytdejlalodjhlbaa
open Go.RowKit
set_option linter.unusedVariables false

theorem lawFact_c (B : Nat) (w : World) (hB : B ≤ 6) :
    Calls Try.prog 24 #[.int .i64 (B : Int)] w fun e w' => e = .returned (.int .i64 (factN B : Int)) ∧ w = w' := by
  have HS := hide (fun j => show factN (j + 1) = (j + 1) * factN j from rfl)
  have HB := hide (fun k (hk : k ≤ 7) => fact_bound hk)
  have h01 : factN 0 = 1 := rfl
  have h11 : factN 1 = 1 := rfl
  go_enter Try.func24, Try.ntmps24
  go_wp2
  go_loop [3, 4] (fun t i => ∃ j : Nat, ∃ P : Int, (j + 1 ≤ B ∨ j = 0) ∧ i = .int .i64 ((j : Int) + 2) ∧ t = .int .i64 P ∧ Hid (P = (factN (j + 1) : Int))) (fun _ i => B + 2 - (intOf i).toNat)
  case atStart => exact ⟨0, 1, .inr rfl, rfl, rfl, hide rfl⟩
  case round =>
    obtain ⟨j, P, hj, rfl, rfl, hP⟩ := hrel
    by_cases hlt : j + 2 ≤ B
    · have hst := hide (show P * ((j : Int) + 2) = (factN (j + 2) : Int) by rw [hP.out, HS.out (j + 1), Int.natCast_mul, Int.mul_comm]; rfl)
      have b1 := HB.out (j + 1) (by omega)
      have hP0 : 0 ≤ P ∧ P ≤ 5040 := by rw [hP.out]; omega
      obtain ⟨p0, p1⟩ := hP0
      obtain ⟨q0, q1⟩ := mul_bound p0 p1 (b := (j : Int) + 2) (N := 6) (by omega) (by omega)
      clear b1
      go_wp2
      go_round
      case rel => exact ⟨j + 1, _, .inl (by omega), by go_num, rfl, hide hst.out⟩
      case measure => simp [intOf]; omega
    · have hfin := hide (show P = (factN B : Int) by
        rw [hP.out]
        rcases hj with h | h
        · rw [show j + 1 = B by omega]
        · subst h
          rcases Nat.lt_or_ge 0 B with hB0 | hB0
          · rw [show B = 1 by omega]
          · rw [show B = 0 by omega, h01, h11])
      have hlt : (B : Int) < (j : Int) + 2 := by omega
      go_wp2
      go_ret
      exact ⟨ret_int hfin.out, rfl⟩
end Go.Proofs.Ytdejlalodjhlbaa
