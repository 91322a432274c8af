/-
  Contracts of chapter 11, the program's side: thingsOk, PickWays, SampleOk, bothOk, MarkedWays, TailWays, LikeliestThings (written by wip/gen_c11.py).
-/
import Derived.Test.YtdejlalodjhlbaaSampS
namespace Go.Proofs.Ytdejlalodjhlbaa
open Go.RowKit
set_option linter.unusedVariables false

/-- Choices made from the greatest factor on. -/
def pickTo (n : Nat) : Nat → Nat
  | 0 => 1
  | j + 1 => pickTo n j * (n - j) / (j + 1)
theorem pickTo_cnt : ((List.range 31).all fun n => (List.range (n + 1)).all fun k => Nat.ble (pickTo n k) 200000000 && Nat.beq (pickTo n k) (chooseN n k)) = true := by kernel_rfl
theorem pickTo_facts {n k : Nat} (hn : n ≤ 30) (hk : k ≤ n) : pickTo n k ≤ 200000000 ∧ pickTo n k = chooseN n k := by
  have a := all_range (all_range pickTo_cnt (k := n) (by omega)) (k := k) (by omega)
  obtain ⟨a, b⟩ := Bool.and_eq_true_iff.1 a
  exact ⟨Nat.le_of_ble_eq_true a, Nat.eq_of_beq_eq_true b⟩

theorem thingsOk_c (n : Int) (w : World) :
    Calls Try.prog 44 #[.int .i64 n] w fun e w' => e = .returned (.bool (decide (0 ≤ n ∧ n ≤ 30))) ∧ w = w' := by
  by_cases h1 : 0 ≤ n
  · by_cases h6 : n ≤ 30
    · have hd := hide (decide_eq_true (show 0 ≤ n ∧ n ≤ 30 from ⟨h1, h6⟩))
      go_enter Try.func44, Try.ntmps44
      go_wp2
      go_ret
      exact ⟨ret_bool hd.out.symm, rfl⟩
    · have hd := hide (decide_eq_false (show ¬(0 ≤ n ∧ n ≤ 30) by omega))
      go_enter Try.func44, Try.ntmps44
      go_wp2
      go_ret
      exact ⟨ret_bool (by simp <;> omega), rfl⟩
  · have hd := hide (decide_eq_false (show ¬(0 ≤ n ∧ n ≤ 30) by omega))
    go_enter Try.func44, Try.ntmps44
    go_wp2
    go_ret
    exact ⟨ret_bool (by simp <;> omega), rfl⟩
theorem thingsOk_yes (n : Int) (w : World) (h : 0 ≤ n ∧ n ≤ 30) : Calls Try.prog 44 #[.int .i64 n] w fun e w' => e = .returned (.bool true) ∧ w = w' := by
  have := thingsOk_c n w
  rwa [decide_eq_true h] at this
theorem thingsOk_no (n : Int) (w : World) (h : ¬(0 ≤ n ∧ n ≤ 30)) : Calls Try.prog 44 #[.int .i64 n] w fun e w' => e = .returned (.bool false) ∧ w = w' := by
  have := thingsOk_c n w
  rwa [decide_eq_false h] at this

set_option maxHeartbeats 800000 in
theorem pickWays_impl0 (n k : Int) (w : World) :
    Calls Try.prog 41 #[.int .i64 n, .int .i64 k] w fun e w' => e = .returned (.int .i64 (pickW n k)) ∧ w = w' := by
  by_cases hn : 0 ≤ n ∧ n ≤ 30
  · have HT := hide (thingsOk_yes n w hn)
    obtain ⟨n0, n1⟩ := hn
    by_cases h0 : k < 0
    · have he := hide (show pickW n k = -1 by unfold pickW; rw [if_neg (by omega)])
      go_enter Try.func41, Try.ntmps41
      go_wp2_with (go_at_call 44; refine HT.out.mono ?_; rintro e w' ⟨rfl, rfl⟩)
      go_ret
      exact ⟨ret_int he.out.symm, rfl⟩
    · have he0 := hide (show pickW n k = chooseI n k by unfold pickW; rw [if_pos (by omega)])
      by_cases h1 : k > n
      · have he := hide (he0.out.trans (chooseI_out (n := n) (.inr h1)))
        go_enter Try.func41, Try.ntmps41
        go_wp2_with (go_at_call 44; refine HT.out.mono ?_; rintro e w' ⟨rfl, rfl⟩)
        go_ret
        exact ⟨ret_int he.out.symm, rfl⟩
      · obtain ⟨N, rfl⟩ : ∃ N : Nat, n = (N : Int) := ⟨n.toNat, by omega⟩
        obtain ⟨K, rfl⟩ : ∃ K : Nat, k = (K : Int) := ⟨k.toNat, by omega⟩
        have hKN : K ≤ N := by omega
        have hN30 : N ≤ 30 := by omega
        have he := hide (he0.out.trans ((chooseI_in hKN).trans (congrArg (fun x : Nat => (x : Int)) (pickTo_facts hN30 hKN).2.symm)))
        have HB := hide (fun (j : Nat) (hj : j ≤ K) => (pickTo_facts hN30 (show j ≤ N by omega)).1)
        have HS := hide (fun (j : Nat) => show pickTo N (j + 1) = pickTo N j * (N - j) / (j + 1) from rfl)
        clear n0 n1 he0 h0
        go_enter Try.func41, Try.ntmps41
        go_wp2_with (go_at_call 44; refine HT.out.mono ?_; rintro e w' ⟨rfl, rfl⟩)
        go_loop [5, 18] (fun t i => ∃ j P : Nat, j ≤ K ∧ i = .int .i64 (j : Int) ∧ t = .int .i64 (P : Int) ∧ Hid (P = pickTo N j)) (fun _ i => K - (intOf i).toNat)
        case atStart => exact ⟨0, 1, Nat.zero_le _, rfl, rfl, hide rfl⟩
        case round =>
          obtain ⟨j, P, hj, rfl, rfl, hP⟩ := hrel
          by_cases hlt : j < K
          · have hPb := HB.out j hj
            have hQb := HB.out (j + 1) hlt
            rw [HS.out, ← hP.out] at hQb
            rw [← hP.out] at hPb
            obtain ⟨Q, hQ⟩ : ∃ Q : Nat, Hid (P * (N - j) / (j + 1) = Q) := ⟨_, hide rfl⟩
            rw [hQ.out] at hQb
            have hne : ((j : Int) + 1 == 0) = false := by simp; omega
            have hm := mul_bound (a := (P : Int)) (M := 200000000) (by omega) (by omega) (b := (N : Int) - (j : Int)) (N := 40) (by omega) (by omega)
            obtain ⟨q0, q1⟩ := hm
            have hw1 := hide (show (P : Int) * ((N : Int) - (j : Int)) / ((j : Int) + 1) = (Q : Int) by
              rw [← hQ.out, Int.natCast_ediv, Int.natCast_mul, Int.natCast_sub (show j ≤ N by omega)]
              rfl)
            have hQ2 := hide (show Q = pickTo N (j + 1) by rw [HS.out, ← hP.out, hQ.out])
            clear hQ
            go_wp2
            rw [hw1.out]
            go_round
            case rel => exact ⟨j + 1, Q, by omega, by go_num, rfl, hQ2⟩
            case measure => simp [intOf]; omega
          · obtain rfl : j = K := by omega
            go_wp2
            go_ret
            exact ⟨ret_int (by rw [he.out, hP.out]), rfl⟩
  · have HT := hide (thingsOk_no n w hn)
    have he := hide (show pickW n k = -1 by unfold pickW; rw [if_neg (by omega)])
    clear hn
    go_enter Try.func41, Try.ntmps41
    go_wp2_with (go_at_call 44; refine HT.out.mono ?_; rintro e w' ⟨rfl, rfl⟩)
    go_ret
    exact ⟨ret_int he.out.symm, rfl⟩

theorem pickWays_impl (n k : Int) (w : World) (wf0 : (Lit.int .i64 n).wf = true) (wf1 : (Lit.int .i64 k).wf = true) :
    Calls Try.prog 41 #[.int .i64 n, .int .i64 k] w fun e w' => e = .returned (.int .i64 (pickW n k)) ∧ Below w.heap.size w w' :=
  (pickWays_impl0 n k w).mono (by rintro e w' ⟨rfl, rfl⟩; exact ⟨rfl, Below.refl _ _⟩)
end Go.Proofs.Ytdejlalodjhlbaa
