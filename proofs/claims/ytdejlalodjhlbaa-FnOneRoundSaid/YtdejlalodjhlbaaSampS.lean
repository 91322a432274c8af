/-
  Contracts of chapter 11, the specification's side: PickWays, SampleOk, MarkedWays, TailWays, LikeliestThings (written by wip/gen_a3.py).
-/
import Derived.Test.YtdejlalodjhlbaaPlainAB
import Derived.Test.YtdejlalodjhlbaaRunS
namespace Go.Proofs.Ytdejlalodjhlbaa
open Go.RowKit
set_option linter.unusedVariables false

theorem markB_yes {n m p b : Int} (h : markB n m p b = true) : sampleB n m p = true ∧ 0 ≤ n ∧ n ≤ 30 ∧ 0 ≤ m ∧ m ≤ n ∧ 0 ≤ p ∧ p ≤ n ∧ 0 ≤ b ∧ b ≤ p := by
  obtain ⟨a, c⟩ := Bool.and_eq_true_iff.1 h
  have h1 := of_decide_eq_true a
  have h2 := of_decide_eq_true c
  exact ⟨a, h1.1, h1.2.1, h1.2.2.1, h1.2.2.2.1, h1.2.2.2.2.1, h1.2.2.2.2.2, h2.1, h2.2⟩
theorem markN_bound {n m p b : Int} (h0 : 0 ≤ m) (h1 : m ≤ n) (h2 : n ≤ 30) : 0 ≤ markN n m p b ∧ markN n m p b ≤ 40000000000000000 := by
  have a := chooseI_bound (n := m) (k := b) (by omega)
  have c := chooseI_bound (n := n - m) (k := p - b) (by omega)
  have := mul_bound a.1 a.2 c.1 c.2
  unfold markN
  omega

theorem tailTo_bound {n m p b : Int} (h0 : 0 ≤ m) (h1 : m ≤ n) (h2 : n ≤ 30) (j : Nat) : 0 ≤ tailTo n m p b j ∧ tailTo n m p b j ≤ 40000000000000000 * (j : Int) := by
  induction j with
  | zero => simp [tailTo]
  | succ j ih =>
    have := markN_bound (p := p) (b := b + (j : Int)) h0 h1 h2
    rw [show tailTo n m p b (j + 1) = tailTo n m p b j + markN n m p (b + (j : Int)) from rfl]
    omega

end Go.Proofs.Ytdejlalodjhlbaa
