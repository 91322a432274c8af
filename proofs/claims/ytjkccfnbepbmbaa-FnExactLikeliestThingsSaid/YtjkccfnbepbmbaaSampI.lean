/-
  Contracts of chapter 11, the program's side: thingsOk, PickWays, SampleOk, bothOk, MarkedWays, TailWays, LikeliestThings (written by wip/gen_c11.py).
-/
import Derived.Test.YtjkccfnbepbmbaaSampS
namespace Go.Proofs.Ytjkccfnbepbmbaa
open Go.RowKit
set_option linter.unusedVariables false

/-- Choices made from the greatest factor on. -/
def pickTo (n : Nat) : Nat → Nat
  | 0 => 1
  | j + 1 => pickTo n j * (n - j) / (j + 1)
theorem pickTo_cnt : ((List.range 31).all fun n => (List.range (n + 1)).all fun k => Nat.ble (pickTo n k) 200000000 && Nat.beq (pickTo n k) (chooseN n k)) = true := by kernel_rfl
theorem pickTo_facts {n k : Nat} (hn : n ≤ 30) (hk : k ≤ n) : pickTo n k ≤ 200000000 ∧ pickTo n k = chooseN n k := by
  have a := all_range (all_range pickTo_cnt (k := n) (by omega)) (k := k) (by omega)
  obtain ⟨a, b⟩ := Bool.and_eq_true_iff.1 a
  exact ⟨Nat.le_of_ble_eq_true a, Nat.eq_of_beq_eq_true b⟩

theorem thingsOk_c (n : Int) (w : World) :
    Calls Try.prog 32 #[.int .i64 n] w fun e w' => e = .returned (.bool (decide (0 ≤ n ∧ n ≤ 30))) ∧ w = w' := by
  by_cases h1 : 0 ≤ n
  · by_cases h6 : n ≤ 30
    · have hd := hide (decide_eq_true (show 0 ≤ n ∧ n ≤ 30 from ⟨h1, h6⟩))
      go_enter Try.func32, Try.ntmps32
      go_wp2
      go_ret
      exact ⟨ret_bool hd.out.symm, rfl⟩
    · have hd := hide (decide_eq_false (show ¬(0 ≤ n ∧ n ≤ 30) by omega))
      go_enter Try.func32, Try.ntmps32
      go_wp2
      go_ret
      exact ⟨ret_bool (by simp <;> omega), rfl⟩
  · have hd := hide (decide_eq_false (show ¬(0 ≤ n ∧ n ≤ 30) by omega))
    go_enter Try.func32, Try.ntmps32
    go_wp2
    go_ret
    exact ⟨ret_bool (by simp <;> omega), rfl⟩
theorem thingsOk_yes (n : Int) (w : World) (h : 0 ≤ n ∧ n ≤ 30) : Calls Try.prog 32 #[.int .i64 n] w fun e w' => e = .returned (.bool true) ∧ w = w' := by
  have := thingsOk_c n w
  rwa [decide_eq_true h] at this
theorem thingsOk_no (n : Int) (w : World) (h : ¬(0 ≤ n ∧ n ≤ 30)) : Calls Try.prog 32 #[.int .i64 n] w fun e w' => e = .returned (.bool false) ∧ w = w' := by
  have := thingsOk_c n w
  rwa [decide_eq_false h] at this

set_option maxHeartbeats 800000 in
theorem pickWays_impl0 (n k : Int) (w : World) :
    Calls Try.prog 15 #[.int .i64 n, .int .i64 k] w fun e w' => e = .returned (.int .i64 (pickW n k)) ∧ w = w' := by
  by_cases hn : 0 ≤ n ∧ n ≤ 30
  · have HT := hide (thingsOk_yes n w hn)
    obtain ⟨n0, n1⟩ := hn
    by_cases h0 : k < 0
    · have he := hide (show pickW n k = -1 by unfold pickW; rw [if_neg (by omega)])
      go_enter Try.func15, Try.ntmps15
      go_wp2_with (go_at_call 32; refine HT.out.mono ?_; rintro e w' ⟨rfl, rfl⟩)
      go_ret
      exact ⟨ret_int he.out.symm, rfl⟩
    · have he0 := hide (show pickW n k = chooseI n k by unfold pickW; rw [if_pos (by omega)])
      by_cases h1 : k > n
      · have he := hide (he0.out.trans (chooseI_out (n := n) (.inr h1)))
        go_enter Try.func15, Try.ntmps15
        go_wp2_with (go_at_call 32; refine HT.out.mono ?_; rintro e w' ⟨rfl, rfl⟩)
        go_ret
        exact ⟨ret_int he.out.symm, rfl⟩
      · obtain ⟨N, rfl⟩ : ∃ N : Nat, n = (N : Int) := ⟨n.toNat, by omega⟩
        obtain ⟨K, rfl⟩ : ∃ K : Nat, k = (K : Int) := ⟨k.toNat, by omega⟩
        have hKN : K ≤ N := by omega
        have hN30 : N ≤ 30 := by omega
        have he := hide (he0.out.trans ((chooseI_in hKN).trans (congrArg (fun x : Nat => (x : Int)) (pickTo_facts hN30 hKN).2.symm)))
        have HB := hide (fun (j : Nat) (hj : j ≤ K) => (pickTo_facts hN30 (show j ≤ N by omega)).1)
        have HS := hide (fun (j : Nat) => show pickTo N (j + 1) = pickTo N j * (N - j) / (j + 1) from rfl)
        clear n0 n1 he0 h0
        go_enter Try.func15, Try.ntmps15
        go_wp2_with (go_at_call 32; refine HT.out.mono ?_; rintro e w' ⟨rfl, rfl⟩)
        go_loop [5, 18] (fun t i => ∃ j P : Nat, j ≤ K ∧ i = .int .i64 (j : Int) ∧ t = .int .i64 (P : Int) ∧ Hid (P = pickTo N j)) (fun _ i => K - (intOf i).toNat)
        case atStart => exact ⟨0, 1, Nat.zero_le _, rfl, rfl, hide rfl⟩
        case round =>
          obtain ⟨j, P, hj, rfl, rfl, hP⟩ := hrel
          by_cases hlt : j < K
          · have hPb := HB.out j hj
            have hQb := HB.out (j + 1) hlt
            rw [HS.out, ← hP.out] at hQb
            rw [← hP.out] at hPb
            obtain ⟨Q, hQ⟩ : ∃ Q : Nat, Hid (P * (N - j) / (j + 1) = Q) := ⟨_, hide rfl⟩
            rw [hQ.out] at hQb
            have hne : ((j : Int) + 1 == 0) = false := by simp; omega
            have hm := mul_bound (a := (P : Int)) (M := 200000000) (by omega) (by omega) (b := (N : Int) - (j : Int)) (N := 40) (by omega) (by omega)
            obtain ⟨q0, q1⟩ := hm
            have hw1 := hide (show (P : Int) * ((N : Int) - (j : Int)) / ((j : Int) + 1) = (Q : Int) by
              rw [← hQ.out, Int.natCast_ediv, Int.natCast_mul, Int.natCast_sub (show j ≤ N by omega)]
              rfl)
            have hQ2 := hide (show Q = pickTo N (j + 1) by rw [HS.out, ← hP.out, hQ.out])
            clear hQ
            go_wp2
            rw [hw1.out]
            go_round
            case rel => exact ⟨j + 1, Q, by omega, by go_num, rfl, hQ2⟩
            case measure => simp [intOf]; omega
          · obtain rfl : j = K := by omega
            go_wp2
            go_ret
            exact ⟨ret_int (by rw [he.out, hP.out]), rfl⟩
  · have HT := hide (thingsOk_no n w hn)
    have he := hide (show pickW n k = -1 by unfold pickW; rw [if_neg (by omega)])
    clear hn
    go_enter Try.func15, Try.ntmps15
    go_wp2_with (go_at_call 32; refine HT.out.mono ?_; rintro e w' ⟨rfl, rfl⟩)
    go_ret
    exact ⟨ret_int he.out.symm, rfl⟩

theorem sampleOk_impl0 (n m p : Int) (w : World) :
    Calls Try.prog 19 #[.int .i64 n, .int .i64 m, .int .i64 p] w fun e w' => e = .returned (.bool (sampleB n m p)) ∧ w = w' := by
  by_cases hn : 0 ≤ n ∧ n ≤ 30
  · have HT := hide (thingsOk_yes n w hn)
    by_cases h0 : 0 ≤ m
    · by_cases h1 : m ≤ n
      · by_cases h2 : 0 ≤ p
        · by_cases h3 : p ≤ n
          · have he := hide (show sampleB n m p = true from decide_eq_true (by omega))
            clear hn
            go_enter Try.func19, Try.ntmps19
            go_wp2_with (go_at_call 32; refine HT.out.mono ?_; rintro e w' ⟨rfl, rfl⟩)
            go_ret
            exact ⟨ret_bool (by rw [he.out]; try simp; try omega), rfl⟩
          · have he := hide (show sampleB n m p = false from decide_eq_false (by omega))
            clear hn
            go_enter Try.func19, Try.ntmps19
            go_wp2_with (go_at_call 32; refine HT.out.mono ?_; rintro e w' ⟨rfl, rfl⟩)
            go_ret
            exact ⟨ret_bool (by rw [he.out]; try simp; try omega), rfl⟩
        · have he := hide (show sampleB n m p = false from decide_eq_false (by omega))
          clear hn
          go_enter Try.func19, Try.ntmps19
          go_wp2_with (go_at_call 32; refine HT.out.mono ?_; rintro e w' ⟨rfl, rfl⟩)
          go_ret
          exact ⟨ret_bool (by rw [he.out]; try simp; try omega), rfl⟩
      · have he := hide (show sampleB n m p = false from decide_eq_false (by omega))
        clear hn
        go_enter Try.func19, Try.ntmps19
        go_wp2_with (go_at_call 32; refine HT.out.mono ?_; rintro e w' ⟨rfl, rfl⟩)
        go_ret
        exact ⟨ret_bool (by rw [he.out]; try simp; try omega), rfl⟩
    · have he := hide (show sampleB n m p = false from decide_eq_false (by omega))
      clear hn
      go_enter Try.func19, Try.ntmps19
      go_wp2_with (go_at_call 32; refine HT.out.mono ?_; rintro e w' ⟨rfl, rfl⟩)
      go_ret
      exact ⟨ret_bool (by rw [he.out]; try simp; try omega), rfl⟩
  · have HT := hide (thingsOk_no n w hn)
    have he := hide (show sampleB n m p = false from decide_eq_false (by omega))
    clear hn
    go_enter Try.func19, Try.ntmps19
    go_wp2_with (go_at_call 32; refine HT.out.mono ?_; rintro e w' ⟨rfl, rfl⟩)
    go_ret
    exact ⟨ret_bool (by rw [he.out]; try simp; try omega), rfl⟩

theorem bothOk_c (n m p b : Int) (w : World) :
    Calls Try.prog 37 #[.int .i64 n, .int .i64 m, .int .i64 p, .int .i64 b] w fun e w' => e = .returned (.bool (markB n m p b)) ∧ w = w' := by
  have HO := hide (sampleOk_impl0 n m p w)
  cases hs : sampleB n m p with
  | false =>
    have he := hide (show markB n m p b = false by unfold markB; rw [hs]; rfl)
    rw [hs] at HO
    clear hs
    go_enter Try.func37, Try.ntmps37
    go_wp2_with (go_at_call 19; refine HO.out.mono ?_; rintro e w' ⟨rfl, rfl⟩)
    go_ret
    exact ⟨ret_bool (by rw [he.out]; try rfl), rfl⟩
  | true =>
    rw [hs] at HO
    by_cases h0 : 0 ≤ b
    · by_cases h1 : b ≤ p
      · have he := hide (show markB n m p b = true by unfold markB; rw [hs, decide_eq_true ⟨h0, h1⟩]; rfl)
        clear hs
        go_enter Try.func37, Try.ntmps37
        go_wp2_with (go_at_call 19; refine HO.out.mono ?_; rintro e w' ⟨rfl, rfl⟩)
        go_ret
        exact ⟨ret_bool (by rw [he.out]; try simp; try omega), rfl⟩
      · have he := hide (show markB n m p b = false by unfold markB; rw [hs, decide_eq_false (by omega)]; rfl)
        clear hs
        go_enter Try.func37, Try.ntmps37
        go_wp2_with (go_at_call 19; refine HO.out.mono ?_; rintro e w' ⟨rfl, rfl⟩)
        go_ret
        exact ⟨ret_bool (by rw [he.out]; try simp; try omega), rfl⟩
    · have he := hide (show markB n m p b = false by unfold markB; rw [hs, decide_eq_false (by omega)]; rfl)
      clear hs
      go_enter Try.func37, Try.ntmps37
      go_wp2_with (go_at_call 19; refine HO.out.mono ?_; rintro e w' ⟨rfl, rfl⟩)
      go_ret
      exact ⟨ret_bool (by rw [he.out]; try simp; try omega), rfl⟩

theorem markedWays_impl0 (n m p b : Int) (w : World) :
    Calls Try.prog 22 #[.int .i64 n, .int .i64 m, .int .i64 p, .int .i64 b] w fun e w' => e = .returned (.int .i64 (markW n m p b)) ∧ w = w' := by
  have HO := hide (bothOk_c n m p b w)
  cases hmb : markB n m p b with
  | false =>
    have he := hide (show markW n m p b = -1 by unfold markW; rw [hmb]; rfl)
    rw [hmb] at HO
    clear hmb
    go_enter Try.func22, Try.ntmps22
    go_wp2_with (go_at_call 37; refine HO.out.mono ?_; rintro e w' ⟨rfl, rfl⟩)
    go_ret
    exact ⟨ret_int he.out.symm, rfl⟩
  | true =>
    rw [hmb] at HO
    have he := hide (show markW n m p b = chooseI m b * chooseI (n - m) (p - b) by unfold markW; rw [if_pos hmb]; rfl)
    obtain ⟨_, n0, n1, m0, m1, p0, p1, b0, b1⟩ := markB_yes hmb
    have HC1 := hide (show Calls Try.prog 15 #[.int .i64 m, .int .i64 b] w (fun e w' => e = .returned (.int .i64 (chooseI m b)) ∧ w = w') from by
      have := pickWays_impl0 m b w
      rwa [show pickW m b = chooseI m b by unfold pickW; rw [if_pos (by omega)]] at this)
    have HC2 := hide (show Calls Try.prog 15 #[.int .i64 (n - m), .int .i64 (p - b)] w (fun e w' => e = .returned (.int .i64 (chooseI (n - m) (p - b))) ∧ w = w') from by
      have := pickWays_impl0 (n - m) (p - b) w
      rwa [show pickW (n - m) (p - b) = chooseI (n - m) (p - b) by unfold pickW; rw [if_pos (by omega)]] at this)
    have c1 := chooseI_bound (n := m) (k := b) (by omega)
    have c2 := chooseI_bound (n := n - m) (k := p - b) (by omega)
    obtain ⟨X, hX⟩ : ∃ X, Hid (chooseI m b = X) := ⟨_, hide rfl⟩
    obtain ⟨Y, hY⟩ : ∃ Y, Hid (chooseI (n - m) (p - b) = Y) := ⟨_, hide rfl⟩
    rw [hX.out] at HC1 c1 he
    rw [hY.out] at HC2 c2 he
    obtain ⟨q0, q1⟩ := mul_bound c1.1 c1.2 c2.1 c2.2
    clear hmb c1 c2
    go_enter Try.func22, Try.ntmps22
    go_wp2_with (first | (go_at_call 37; refine HO.out.mono ?_; rintro e w' ⟨rfl, rfl⟩) | (go_at_call 15; (first | (with_reducible refine HC1.out.mono ?_) | (with_reducible refine HC2.out.mono ?_)); rintro e w' ⟨rfl, rfl⟩))
    go_ret
    exact ⟨ret_int he.out.symm, rfl⟩

set_option maxHeartbeats 1600000 in
theorem tailWays_impl0 (n m p b : Int) (w : World) :
    Calls Try.prog 25 #[.int .i64 n, .int .i64 m, .int .i64 p, .int .i64 b] w fun e w' => e = .returned (.int .i64 (tailW n m p b)) ∧ w = w' := by
  have HO := hide (bothOk_c n m p b w)
  cases hmb : markB n m p b with
  | false =>
    have he := hide (show tailW n m p b = -1 by unfold tailW; rw [hmb]; rfl)
    rw [hmb] at HO
    clear hmb
    go_enter Try.func25, Try.ntmps25
    go_wp2_with (go_at_call 37; refine HO.out.mono ?_; rintro e w' ⟨rfl, rfl⟩)
    go_ret
    exact ⟨ret_int he.out.symm, rfl⟩
  | true =>
    rw [hmb] at HO
    obtain ⟨hs, n0, n1, m0, m1, p0, p1, b0, b1⟩ := markB_yes hmb
    obtain ⟨J, hJ⟩ : ∃ J : Nat, p - b + 1 = (J : Int) := ⟨(p - b + 1).toNat, by omega⟩
    have he := hide (show tailW n m p b = tailTo n m p b J by unfold tailW; rw [if_pos hmb, hJ, Int.toNat_natCast])
    have HB := hide (fun (j : Nat) => tailTo_bound (p := p) (b := b) m0 m1 n1 j)
    have HM := hide (fun (c : Int) (h0 : 0 ≤ c) (h1 : c ≤ p) => show markW n m p c = markN n m p c by unfold markW markB; rw [hs, decide_eq_true ⟨h0, h1⟩]; rfl)
    have HK := hide (fun (c : Int) => markN_bound (p := p) (b := c) m0 m1 n1)
    have HW := hide (fun (c : Int) => markedWays_impl0 n m p c w)
    clear hs hmb
    rw [he.out]
    clear he
    go_enter Try.func25, Try.ntmps25
    go_wp2_with (go_at_call 37; refine HO.out.mono ?_; rintro e w' ⟨rfl, rfl⟩)
    go_loop [9, 10] (fun t i => ∃ j : Nat, ∃ Z c : Int, j ≤ J ∧ i = .int .i64 c ∧ t = .int .i64 Z ∧ c = b + (j : Int) ∧ Hid (Z = tailTo n m p b j)) (fun _ i => (p + 1 - intOf i).toNat)
    case atStart => exact ⟨0, 0, b, Nat.zero_le _, rfl, rfl, by simp, hide rfl⟩
    case round =>
      obtain ⟨j, Z, c, hj, rfl, rfl, hc, hZ⟩ := hrel
      by_cases hlt : j < J
      · obtain ⟨z0, z1⟩ := HB.out j
        rw [← hZ.out] at z0 z1
        obtain ⟨k0, k1⟩ := HK.out c
        have HWc := HW.out c
        rw [HM.out c (by omega) (by omega)] at HWc
        have hZn := hide (show Z + markN n m p c = tailTo n m p b (j + 1) by rw [hZ.out, hc]; rfl)
        obtain ⟨X, hX⟩ : ∃ X, Hid (markN n m p c = X) := ⟨_, hide rfl⟩
        rw [hX.out] at HWc hZn k0 k1
        have hcp : c ≤ p := by omega
        have hc0 : 0 ≤ c := by omega
        have hc1 := hide (show c + 1 = b + ((j + 1 : Nat) : Int) by omega)
        replace HWc := hide HWc
        have hj31 : j ≤ 31 := by omega
        replace hc := hide hc
        go_wp2_with fail
        refine HWc.out.mono ?_
        rintro e w' ⟨rfl, rfl⟩
        go_wp2_with fail
        go_round
        case rel => exact ⟨j + 1, Z + X, c + 1, by omega, rfl, rfl, hc1.out, hZn⟩
        case measure => simp [intOf]; omega
      · obtain rfl : j = J := by omega
        have hcp : ¬ (c ≤ p) := by omega
        go_wp2_with fail
        go_ret
        exact ⟨ret_int hZ.out, rfl⟩

theorem likeliest_impl0 (m p b : Int) (w : World) :
    Calls Try.prog 28 #[.int .i64 m, .int .i64 p, .int .i64 b] w fun e w' => e = .returned (.int .i64 (likeT m p b)) ∧ w = w' := by
  by_cases h1 : b < 1
  · have he := hide (show likeT m p b = -1 by unfold likeT; rw [show likeB m p b = false from decide_eq_false (by omega)]; rfl)
    go_enter Try.func28, Try.ntmps28
    go_wp2_with fail
    go_ret
    exact ⟨ret_int he.out.symm, rfl⟩
  · rcases (show m < p ∨ m = p ∨ p < m by omega) with hmp | hmp | hmp
    · skip
      by_cases h2 : b > m
      · have he := hide (show likeT m p b = -1 by unfold likeT; rw [show likeB m p b = false from decide_eq_false (by omega)]; rfl)
        go_enter Try.func28, Try.ntmps28
        go_wp2_with fail
        go_ret
        exact ⟨ret_int he.out.symm, rfl⟩
      · by_cases h3 : p > 9
        · have he := hide (show likeT m p b = -1 by unfold likeT; rw [show likeB m p b = false from decide_eq_false (by omega)]; rfl)
          go_enter Try.func28, Try.ntmps28
          go_wp2_with fail
          go_ret
          exact ⟨ret_int he.out.symm, rfl⟩
        · have hl : likeB m p b = true := decide_eq_true (by omega)
          obtain ⟨q0, q1⟩ := mul_bound (a := m) (M := 9) (by omega) (by omega) (b := p) (N := 9) (by omega) (by omega)
          have he := hide (show likeT m p b = m * p / b by unfold likeT; rw [hl]; rfl)
          have hw2 := hide (show wrap64 ((m * p).tdiv b) = m * p / b from by
            rw [Int.tdiv_eq_ediv_of_nonneg q0]
            exact IntWalk.wrap64_in _ (by
            have a := Int.ediv_nonneg q0 (show 0 ≤ b by omega)
            have c := Int.ediv_le_self b q0
            omega))
          have hB0 : (b == 0) = false := by simp; omega
          clear hl
          go_enter Try.func28, Try.ntmps28
          go_wp2_with fail
          go_ret
          exact ⟨ret_int (by rw [he.out]), rfl⟩
    · subst hmp
      by_cases h2 : b > m
      · have he := hide (show likeT m m b = -1 by unfold likeT; rw [show likeB m m b = false from decide_eq_false (by omega)]; rfl)
        go_enter Try.func28, Try.ntmps28
        go_wp2_with fail
        go_ret
        exact ⟨ret_int he.out.symm, rfl⟩
      · by_cases h3 : m > 9
        · have he := hide (show likeT m m b = -1 by unfold likeT; rw [show likeB m m b = false from decide_eq_false (by omega)]; rfl)
          go_enter Try.func28, Try.ntmps28
          go_wp2_with fail
          go_ret
          exact ⟨ret_int he.out.symm, rfl⟩
        · have hl : likeB m m b = true := decide_eq_true (by omega)
          obtain ⟨q0, q1⟩ := mul_bound (a := m) (M := 9) (by omega) (by omega) (b := m) (N := 9) (by omega) (by omega)
          have he := hide (show likeT m m b = m * m / b by unfold likeT; rw [hl]; rfl)
          have hw2 := hide (show wrap64 ((m * m).tdiv b) = m * m / b from by
            rw [Int.tdiv_eq_ediv_of_nonneg q0]
            exact IntWalk.wrap64_in _ (by
            have a := Int.ediv_nonneg q0 (show 0 ≤ b by omega)
            have c := Int.ediv_le_self b q0
            omega))
          have hB0 : (b == 0) = false := by simp; omega
          clear hl
          go_enter Try.func28, Try.ntmps28
          go_wp2_with fail
          go_ret
          exact ⟨ret_int (by rw [he.out]), rfl⟩
    · skip
      by_cases h2 : b > p
      · have he := hide (show likeT m p b = -1 by unfold likeT; rw [show likeB m p b = false from decide_eq_false (by omega)]; rfl)
        go_enter Try.func28, Try.ntmps28
        go_wp2_with fail
        go_ret
        exact ⟨ret_int he.out.symm, rfl⟩
      · by_cases h3 : m > 9
        · have he := hide (show likeT m p b = -1 by unfold likeT; rw [show likeB m p b = false from decide_eq_false (by omega)]; rfl)
          go_enter Try.func28, Try.ntmps28
          go_wp2_with fail
          go_ret
          exact ⟨ret_int he.out.symm, rfl⟩
        · have hl : likeB m p b = true := decide_eq_true (by omega)
          obtain ⟨q0, q1⟩ := mul_bound (a := m) (M := 9) (by omega) (by omega) (b := p) (N := 9) (by omega) (by omega)
          have he := hide (show likeT m p b = m * p / b by unfold likeT; rw [hl]; rfl)
          have hw2 := hide (show wrap64 ((m * p).tdiv b) = m * p / b from by
            rw [Int.tdiv_eq_ediv_of_nonneg q0]
            exact IntWalk.wrap64_in _ (by
            have a := Int.ediv_nonneg q0 (show 0 ≤ b by omega)
            have c := Int.ediv_le_self b q0
            omega))
          have hB0 : (b == 0) = false := by simp; omega
          clear hl
          go_enter Try.func28, Try.ntmps28
          go_wp2_with fail
          go_ret
          exact ⟨ret_int (by rw [he.out]), rfl⟩

theorem pickWays_impl (n k : Int) (w : World) (wf0 : (Lit.int .i64 n).wf = true) (wf1 : (Lit.int .i64 k).wf = true) :
    Calls Try.prog 15 #[.int .i64 n, .int .i64 k] w fun e w' => e = .returned (.int .i64 (pickW n k)) ∧ Below w.heap.size w w' :=
  (pickWays_impl0 n k w).mono (by rintro e w' ⟨rfl, rfl⟩; exact ⟨rfl, Below.refl _ _⟩)
theorem sampleOk_impl (n m p : Int) (w : World) (wf0 : (Lit.int .i64 n).wf = true) (wf1 : (Lit.int .i64 m).wf = true) (wf2 : (Lit.int .i64 p).wf = true) :
    Calls Try.prog 19 #[.int .i64 n, .int .i64 m, .int .i64 p] w fun e w' => e = .returned (.bool (sampleB n m p)) ∧ Below w.heap.size w w' :=
  (sampleOk_impl0 n m p w).mono (by rintro e w' ⟨rfl, rfl⟩; exact ⟨rfl, Below.refl _ _⟩)
theorem markedWays_impl (n m p b : Int) (w : World) (wf0 : (Lit.int .i64 n).wf = true) (wf1 : (Lit.int .i64 m).wf = true) (wf2 : (Lit.int .i64 p).wf = true) (wf3 : (Lit.int .i64 b).wf = true) :
    Calls Try.prog 22 #[.int .i64 n, .int .i64 m, .int .i64 p, .int .i64 b] w fun e w' => e = .returned (.int .i64 (markW n m p b)) ∧ Below w.heap.size w w' :=
  (markedWays_impl0 n m p b w).mono (by rintro e w' ⟨rfl, rfl⟩; exact ⟨rfl, Below.refl _ _⟩)
theorem tailWays_impl (n m p b : Int) (w : World) (wf0 : (Lit.int .i64 n).wf = true) (wf1 : (Lit.int .i64 m).wf = true) (wf2 : (Lit.int .i64 p).wf = true) (wf3 : (Lit.int .i64 b).wf = true) :
    Calls Try.prog 25 #[.int .i64 n, .int .i64 m, .int .i64 p, .int .i64 b] w fun e w' => e = .returned (.int .i64 (tailW n m p b)) ∧ Below w.heap.size w w' :=
  (tailWays_impl0 n m p b w).mono (by rintro e w' ⟨rfl, rfl⟩; exact ⟨rfl, Below.refl _ _⟩)
theorem likeliest_impl (m p b : Int) (w : World) (wf0 : (Lit.int .i64 m).wf = true) (wf1 : (Lit.int .i64 p).wf = true) (wf2 : (Lit.int .i64 b).wf = true) :
    Calls Try.prog 28 #[.int .i64 m, .int .i64 p, .int .i64 b] w fun e w' => e = .returned (.int .i64 (likeT m p b)) ∧ Below w.heap.size w w' :=
  (likeliest_impl0 m p b w).mono (by rintro e w' ⟨rfl, rfl⟩; exact ⟨rfl, Below.refl _ _⟩)
end Go.Proofs.Ytjkccfnbepbmbaa
