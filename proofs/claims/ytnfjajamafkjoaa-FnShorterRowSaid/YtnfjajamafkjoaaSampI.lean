/-
  Contracts of chapter 11, the program's side: thingsOk, PickWays, SampleOk, bothOk, MarkedWays, TailWays, LikeliestThings (written by wip/gen_c11.py).
-/
import Derived.Test.YtnfjajamafkjoaaSampS
namespace Go.Proofs.Ytnfjajamafkjoaa
open Go.RowKit
set_option linter.unusedVariables false

/-- Choices made from the greatest factor on. -/
def pickTo (n : Nat) : Nat → Nat
  | 0 => 1
  | j + 1 => pickTo n j * (n - j) / (j + 1)
theorem pickTo_cnt : ((List.range 31).all fun n => (List.range (n + 1)).all fun k => Nat.ble (pickTo n k) 200000000 && Nat.beq (pickTo n k) (chooseN n k)) = true := by kernel_rfl
theorem pickTo_facts {n k : Nat} (hn : n ≤ 30) (hk : k ≤ n) : pickTo n k ≤ 200000000 ∧ pickTo n k = chooseN n k := by
  have a := all_range (all_range pickTo_cnt (k := n) (by omega)) (k := k) (by omega)
  obtain ⟨a, b⟩ := Bool.and_eq_true_iff.1 a
  exact ⟨Nat.le_of_ble_eq_true a, Nat.eq_of_beq_eq_true b⟩

theorem thingsOk_c (n : Int) (w : World) :
    Calls Try.prog 53 #[.int .i64 n] w fun e w' => e = .returned (.bool (decide (0 ≤ n ∧ n ≤ 30))) ∧ w = w' := by
  by_cases h1 : 0 ≤ n
  · by_cases h6 : n ≤ 30
    · have hd := hide (decide_eq_true (show 0 ≤ n ∧ n ≤ 30 from ⟨h1, h6⟩))
      go_enter Try.func53, Try.ntmps53
      go_wp2
      go_ret
      exact ⟨ret_bool hd.out.symm, rfl⟩
    · have hd := hide (decide_eq_false (show ¬(0 ≤ n ∧ n ≤ 30) by omega))
      go_enter Try.func53, Try.ntmps53
      go_wp2
      go_ret
      exact ⟨ret_bool (by simp <;> omega), rfl⟩
  · have hd := hide (decide_eq_false (show ¬(0 ≤ n ∧ n ≤ 30) by omega))
    go_enter Try.func53, Try.ntmps53
    go_wp2
    go_ret
    exact ⟨ret_bool (by simp <;> omega), rfl⟩
theorem thingsOk_yes (n : Int) (w : World) (h : 0 ≤ n ∧ n ≤ 30) : Calls Try.prog 53 #[.int .i64 n] w fun e w' => e = .returned (.bool true) ∧ w = w' := by
  have := thingsOk_c n w
  rwa [decide_eq_true h] at this
theorem thingsOk_no (n : Int) (w : World) (h : ¬(0 ≤ n ∧ n ≤ 30)) : Calls Try.prog 53 #[.int .i64 n] w fun e w' => e = .returned (.bool false) ∧ w = w' := by
  have := thingsOk_c n w
  rwa [decide_eq_false h] at this

set_option maxHeartbeats 800000 in
theorem pickWays_impl0 (n k : Int) (w : World) :
    Calls Try.prog 34 #[.int .i64 n, .int .i64 k] w fun e w' => e = .returned (.int .i64 (pickW n k)) ∧ w = w' := by
  by_cases hn : 0 ≤ n ∧ n ≤ 30
  · have HT := hide (thingsOk_yes n w hn)
    obtain ⟨n0, n1⟩ := hn
    by_cases h0 : k < 0
    · have he := hide (show pickW n k = -1 by unfold pickW; rw [if_neg (by omega)])
      go_enter Try.func34, Try.ntmps34
      go_wp2_with (go_at_call 53; refine HT.out.mono ?_; rintro e w' ⟨rfl, rfl⟩)
      go_ret
      exact ⟨ret_int he.out.symm, rfl⟩
    · have he0 := hide (show pickW n k = chooseI n k by unfold pickW; rw [if_pos (by omega)])
      by_cases h1 : k > n
      · have he := hide (he0.out.trans (chooseI_out (n := n) (.inr h1)))
        go_enter Try.func34, Try.ntmps34
        go_wp2_with (go_at_call 53; refine HT.out.mono ?_; rintro e w' ⟨rfl, rfl⟩)
        go_ret
        exact ⟨ret_int he.out.symm, rfl⟩
      · obtain ⟨N, rfl⟩ : ∃ N : Nat, n = (N : Int) := ⟨n.toNat, by omega⟩
        obtain ⟨K, rfl⟩ : ∃ K : Nat, k = (K : Int) := ⟨k.toNat, by omega⟩
        have hKN : K ≤ N := by omega
        have hN30 : N ≤ 30 := by omega
        have he := hide (he0.out.trans ((chooseI_in hKN).trans (congrArg (fun x : Nat => (x : Int)) (pickTo_facts hN30 hKN).2.symm)))
        have HB := hide (fun (j : Nat) (hj : j ≤ K) => (pickTo_facts hN30 (show j ≤ N by omega)).1)
        have HS := hide (fun (j : Nat) => show pickTo N (j + 1) = pickTo N j * (N - j) / (j + 1) from rfl)
        clear n0 n1 he0 h0
        go_enter Try.func34, Try.ntmps34
        go_wp2_with (go_at_call 53; refine HT.out.mono ?_; rintro e w' ⟨rfl, rfl⟩)
        go_loop [5, 18] (fun t i => ∃ j P : Nat, j ≤ K ∧ i = .int .i64 (j : Int) ∧ t = .int .i64 (P : Int) ∧ Hid (P = pickTo N j)) (fun _ i => K - (intOf i).toNat)
        case atStart => exact ⟨0, 1, Nat.zero_le _, rfl, rfl, hide rfl⟩
        case round =>
          obtain ⟨j, P, hj, rfl, rfl, hP⟩ := hrel
          by_cases hlt : j < K
          · have hPb := HB.out j hj
            have hQb := HB.out (j + 1) hlt
            rw [HS.out, ← hP.out] at hQb
            rw [← hP.out] at hPb
            obtain ⟨Q, hQ⟩ : ∃ Q : Nat, Hid (P * (N - j) / (j + 1) = Q) := ⟨_, hide rfl⟩
            rw [hQ.out] at hQb
            have hne : ((j : Int) + 1 == 0) = false := by simp; omega
            have hm := mul_bound (a := (P : Int)) (M := 200000000) (by omega) (by omega) (b := (N : Int) - (j : Int)) (N := 40) (by omega) (by omega)
            obtain ⟨q0, q1⟩ := hm
            have hw1 := hide (show (P : Int) * ((N : Int) - (j : Int)) / ((j : Int) + 1) = (Q : Int) by
              rw [← hQ.out, Int.natCast_ediv, Int.natCast_mul, Int.natCast_sub (show j ≤ N by omega)]
              rfl)
            have hQ2 := hide (show Q = pickTo N (j + 1) by rw [HS.out, ← hP.out, hQ.out])
            clear hQ
            go_wp2
            rw [hw1.out]
            go_round
            case rel => exact ⟨j + 1, Q, by omega, by go_num, rfl, hQ2⟩
            case measure => simp [intOf]; omega
          · obtain rfl : j = K := by omega
            go_wp2
            go_ret
            exact ⟨ret_int (by rw [he.out, hP.out]), rfl⟩
  · have HT := hide (thingsOk_no n w hn)
    have he := hide (show pickW n k = -1 by unfold pickW; rw [if_neg (by omega)])
    clear hn
    go_enter Try.func34, Try.ntmps34
    go_wp2_with (go_at_call 53; refine HT.out.mono ?_; rintro e w' ⟨rfl, rfl⟩)
    go_ret
    exact ⟨ret_int he.out.symm, rfl⟩

theorem sampleOk_impl0 (n m p : Int) (w : World) :
    Calls Try.prog 46 #[.int .i64 n, .int .i64 m, .int .i64 p] w fun e w' => e = .returned (.bool (sampleB n m p)) ∧ w = w' := by
  by_cases hn : 0 ≤ n ∧ n ≤ 30
  · have HT := hide (thingsOk_yes n w hn)
    by_cases h0 : 0 ≤ m
    · by_cases h1 : m ≤ n
      · by_cases h2 : 0 ≤ p
        · by_cases h3 : p ≤ n
          · have he := hide (show sampleB n m p = true from decide_eq_true (by omega))
            clear hn
            go_enter Try.func46, Try.ntmps46
            go_wp2_with (go_at_call 53; refine HT.out.mono ?_; rintro e w' ⟨rfl, rfl⟩)
            go_ret
            exact ⟨ret_bool (by rw [he.out]; try simp; try omega), rfl⟩
          · have he := hide (show sampleB n m p = false from decide_eq_false (by omega))
            clear hn
            go_enter Try.func46, Try.ntmps46
            go_wp2_with (go_at_call 53; refine HT.out.mono ?_; rintro e w' ⟨rfl, rfl⟩)
            go_ret
            exact ⟨ret_bool (by rw [he.out]; try simp; try omega), rfl⟩
        · have he := hide (show sampleB n m p = false from decide_eq_false (by omega))
          clear hn
          go_enter Try.func46, Try.ntmps46
          go_wp2_with (go_at_call 53; refine HT.out.mono ?_; rintro e w' ⟨rfl, rfl⟩)
          go_ret
          exact ⟨ret_bool (by rw [he.out]; try simp; try omega), rfl⟩
      · have he := hide (show sampleB n m p = false from decide_eq_false (by omega))
        clear hn
        go_enter Try.func46, Try.ntmps46
        go_wp2_with (go_at_call 53; refine HT.out.mono ?_; rintro e w' ⟨rfl, rfl⟩)
        go_ret
        exact ⟨ret_bool (by rw [he.out]; try simp; try omega), rfl⟩
    · have he := hide (show sampleB n m p = false from decide_eq_false (by omega))
      clear hn
      go_enter Try.func46, Try.ntmps46
      go_wp2_with (go_at_call 53; refine HT.out.mono ?_; rintro e w' ⟨rfl, rfl⟩)
      go_ret
      exact ⟨ret_bool (by rw [he.out]; try simp; try omega), rfl⟩
  · have HT := hide (thingsOk_no n w hn)
    have he := hide (show sampleB n m p = false from decide_eq_false (by omega))
    clear hn
    go_enter Try.func46, Try.ntmps46
    go_wp2_with (go_at_call 53; refine HT.out.mono ?_; rintro e w' ⟨rfl, rfl⟩)
    go_ret
    exact ⟨ret_bool (by rw [he.out]; try simp; try omega), rfl⟩

theorem bothOk_c (n m p b : Int) (w : World) :
    Calls Try.prog 56 #[.int .i64 n, .int .i64 m, .int .i64 p, .int .i64 b] w fun e w' => e = .returned (.bool (markB n m p b)) ∧ w = w' := by
  have HO := hide (sampleOk_impl0 n m p w)
  cases hs : sampleB n m p with
  | false =>
    have he := hide (show markB n m p b = false by unfold markB; rw [hs]; rfl)
    rw [hs] at HO
    clear hs
    go_enter Try.func56, Try.ntmps56
    go_wp2_with (go_at_call 46; refine HO.out.mono ?_; rintro e w' ⟨rfl, rfl⟩)
    go_ret
    exact ⟨ret_bool (by rw [he.out]; try rfl), rfl⟩
  | true =>
    rw [hs] at HO
    by_cases h0 : 0 ≤ b
    · by_cases h1 : b ≤ p
      · have he := hide (show markB n m p b = true by unfold markB; rw [hs, decide_eq_true ⟨h0, h1⟩]; rfl)
        clear hs
        go_enter Try.func56, Try.ntmps56
        go_wp2_with (go_at_call 46; refine HO.out.mono ?_; rintro e w' ⟨rfl, rfl⟩)
        go_ret
        exact ⟨ret_bool (by rw [he.out]; try simp; try omega), rfl⟩
      · have he := hide (show markB n m p b = false by unfold markB; rw [hs, decide_eq_false (by omega)]; rfl)
        clear hs
        go_enter Try.func56, Try.ntmps56
        go_wp2_with (go_at_call 46; refine HO.out.mono ?_; rintro e w' ⟨rfl, rfl⟩)
        go_ret
        exact ⟨ret_bool (by rw [he.out]; try simp; try omega), rfl⟩
    · have he := hide (show markB n m p b = false by unfold markB; rw [hs, decide_eq_false (by omega)]; rfl)
      clear hs
      go_enter Try.func56, Try.ntmps56
      go_wp2_with (go_at_call 46; refine HO.out.mono ?_; rintro e w' ⟨rfl, rfl⟩)
      go_ret
      exact ⟨ret_bool (by rw [he.out]; try simp; try omega), rfl⟩

theorem markedWays_impl0 (n m p b : Int) (w : World) :
    Calls Try.prog 47 #[.int .i64 n, .int .i64 m, .int .i64 p, .int .i64 b] w fun e w' => e = .returned (.int .i64 (markW n m p b)) ∧ w = w' := by
  have HO := hide (bothOk_c n m p b w)
  cases hmb : markB n m p b with
  | false =>
    have he := hide (show markW n m p b = -1 by unfold markW; rw [hmb]; rfl)
    rw [hmb] at HO
    clear hmb
    go_enter Try.func47, Try.ntmps47
    go_wp2_with (go_at_call 56; refine HO.out.mono ?_; rintro e w' ⟨rfl, rfl⟩)
    go_ret
    exact ⟨ret_int he.out.symm, rfl⟩
  | true =>
    rw [hmb] at HO
    have he := hide (show markW n m p b = chooseI m b * chooseI (n - m) (p - b) by unfold markW; rw [if_pos hmb]; rfl)
    obtain ⟨_, n0, n1, m0, m1, p0, p1, b0, b1⟩ := markB_yes hmb
    have HC1 := hide (show Calls Try.prog 34 #[.int .i64 m, .int .i64 b] w (fun e w' => e = .returned (.int .i64 (chooseI m b)) ∧ w = w') from by
      have := pickWays_impl0 m b w
      rwa [show pickW m b = chooseI m b by unfold pickW; rw [if_pos (by omega)]] at this)
    have HC2 := hide (show Calls Try.prog 34 #[.int .i64 (n - m), .int .i64 (p - b)] w (fun e w' => e = .returned (.int .i64 (chooseI (n - m) (p - b))) ∧ w = w') from by
      have := pickWays_impl0 (n - m) (p - b) w
      rwa [show pickW (n - m) (p - b) = chooseI (n - m) (p - b) by unfold pickW; rw [if_pos (by omega)]] at this)
    have c1 := chooseI_bound (n := m) (k := b) (by omega)
    have c2 := chooseI_bound (n := n - m) (k := p - b) (by omega)
    obtain ⟨X, hX⟩ : ∃ X, Hid (chooseI m b = X) := ⟨_, hide rfl⟩
    obtain ⟨Y, hY⟩ : ∃ Y, Hid (chooseI (n - m) (p - b) = Y) := ⟨_, hide rfl⟩
    rw [hX.out] at HC1 c1 he
    rw [hY.out] at HC2 c2 he
    obtain ⟨q0, q1⟩ := mul_bound c1.1 c1.2 c2.1 c2.2
    clear hmb c1 c2
    go_enter Try.func47, Try.ntmps47
    go_wp2_with (first | (go_at_call 56; refine HO.out.mono ?_; rintro e w' ⟨rfl, rfl⟩) | (go_at_call 34; (first | (with_reducible refine HC1.out.mono ?_) | (with_reducible refine HC2.out.mono ?_)); rintro e w' ⟨rfl, rfl⟩))
    go_ret
    exact ⟨ret_int he.out.symm, rfl⟩

theorem pickWays_impl (n k : Int) (w : World) (wf0 : (Lit.int .i64 n).wf = true) (wf1 : (Lit.int .i64 k).wf = true) :
    Calls Try.prog 34 #[.int .i64 n, .int .i64 k] w fun e w' => e = .returned (.int .i64 (pickW n k)) ∧ Below w.heap.size w w' :=
  (pickWays_impl0 n k w).mono (by rintro e w' ⟨rfl, rfl⟩; exact ⟨rfl, Below.refl _ _⟩)
theorem sampleOk_impl (n m p : Int) (w : World) (wf0 : (Lit.int .i64 n).wf = true) (wf1 : (Lit.int .i64 m).wf = true) (wf2 : (Lit.int .i64 p).wf = true) :
    Calls Try.prog 46 #[.int .i64 n, .int .i64 m, .int .i64 p] w fun e w' => e = .returned (.bool (sampleB n m p)) ∧ Below w.heap.size w w' :=
  (sampleOk_impl0 n m p w).mono (by rintro e w' ⟨rfl, rfl⟩; exact ⟨rfl, Below.refl _ _⟩)
theorem markedWays_impl (n m p b : Int) (w : World) (wf0 : (Lit.int .i64 n).wf = true) (wf1 : (Lit.int .i64 m).wf = true) (wf2 : (Lit.int .i64 p).wf = true) (wf3 : (Lit.int .i64 b).wf = true) :
    Calls Try.prog 47 #[.int .i64 n, .int .i64 m, .int .i64 p, .int .i64 b] w fun e w' => e = .returned (.int .i64 (markW n m p b)) ∧ Below w.heap.size w w' :=
  (markedWays_impl0 n m p b w).mono (by rintro e w' ⟨rfl, rfl⟩; exact ⟨rfl, Below.refl _ _⟩)
end Go.Proofs.Ytnfjajamafkjoaa
