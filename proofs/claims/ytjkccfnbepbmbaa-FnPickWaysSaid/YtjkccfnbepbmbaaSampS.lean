/-
  Contracts of chapter 11, the specification's side: PickWays, SampleOk, MarkedWays, TailWays, LikeliestThings (written by wip/gen_a3.py).
-/
import Derived.Test.YtjkccfnbepbmbaaPlainAB
import Derived.Test.YtjkccfnbepbmbaaRunS
namespace Go.Proofs.Ytjkccfnbepbmbaa
open Go.RowKit
set_option linter.unusedVariables false

theorem pickWays_spec (n k : Int) (w : World) :
    Calls Try.prog 16 #[.int .i64 n, .int .i64 k] w fun e w' => e = .returned (.int .i64 (pickW n k)) ∧ w = w' := by
  by_cases hn : 0 ≤ n ∧ n ≤ 30
  · have hd := decide_eq_true hn
    by_cases hk : k < 0
    · have he := hide (show pickW n k = -1 by unfold pickW; rw [if_neg (by omega)])
      clear hn
      go_enter Try.func16, Try.ntmps16
      go_wp2_with (go_at_call 33; (with_reducible refine (l1In_c _ _ _ _).mono ?_); rintro e w' ⟨rfl, rfl⟩)
      go_ret
      exact ⟨ret_int he.out.symm, rfl⟩
    · have he := hide (show pickW n k = chooseI n k by unfold pickW; rw [if_pos (by omega)])
      have HC := hide (l7Choose_c n k w hn.2)
      clear hn
      go_enter Try.func16, Try.ntmps16
      go_wp2_with (first | (go_at_call 33; (with_reducible refine (l1In_c _ _ _ _).mono ?_); rintro e w' ⟨rfl, rfl⟩) | (go_at_call 34; (with_reducible refine HC.out.mono ?_); rintro e w' ⟨rfl, rfl⟩))
      go_ret
      exact ⟨ret_int he.out.symm, rfl⟩
  · have hd := decide_eq_false hn
    have he := hide (show pickW n k = -1 by unfold pickW; rw [if_neg (by omega)])
    clear hn
    go_enter Try.func16, Try.ntmps16
    go_wp2_with (go_at_call 33; (with_reducible refine (l1In_c _ _ _ _).mono ?_); rintro e w' ⟨rfl, rfl⟩)
    go_ret
    exact ⟨ret_int he.out.symm, rfl⟩

theorem sampleOk_spec (n m p : Int) (w : World) :
    Calls Try.prog 20 #[.int .i64 n, .int .i64 m, .int .i64 p] w fun e w' => e = .returned (.bool (sampleB n m p)) ∧ w = w' := by
  by_cases hn : 0 ≤ n ∧ n ≤ 30
  · have hd1 := decide_eq_true hn
    by_cases hm : 0 ≤ m ∧ m ≤ n
    · have hd2 := decide_eq_true hm
      by_cases hp : 0 ≤ p ∧ p ≤ n
      · have hd3 := decide_eq_true hp
        have he := hide (show sampleB n m p = true from decide_eq_true (by omega))
        clear hn hm hp
        go_enter Try.func20, Try.ntmps20
        go_wp2_with (go_at_call 33; (with_reducible refine (l1In_c _ _ _ _).mono ?_); rintro e w' ⟨rfl, rfl⟩)
        go_ret
        exact ⟨ret_bool (by rw [he.out]; try simp [hd1, hd2, hd3]), rfl⟩
      · have hd3 := decide_eq_false hp
        have he := hide (show sampleB n m p = false from decide_eq_false (by omega))
        clear hn hm hp
        go_enter Try.func20, Try.ntmps20
        go_wp2_with (go_at_call 33; (with_reducible refine (l1In_c _ _ _ _).mono ?_); rintro e w' ⟨rfl, rfl⟩)
        go_ret
        exact ⟨ret_bool (by rw [he.out]; try simp [hd1, hd2, hd3]), rfl⟩
    · have hd2 := decide_eq_false hm
      have he := hide (show sampleB n m p = false from decide_eq_false (by omega))
      clear hn hm
      go_enter Try.func20, Try.ntmps20
      go_wp2_with (go_at_call 33; (with_reducible refine (l1In_c _ _ _ _).mono ?_); rintro e w' ⟨rfl, rfl⟩)
      go_ret
      exact ⟨ret_bool (by rw [he.out]; try simp [hd1, hd2]), rfl⟩
  · have hd1 := decide_eq_false hn
    have he := hide (show sampleB n m p = false from decide_eq_false (by omega))
    clear hn
    go_enter Try.func20, Try.ntmps20
    go_wp2_with (go_at_call 33; (with_reducible refine (l1In_c _ _ _ _).mono ?_); rintro e w' ⟨rfl, rfl⟩)
    go_ret
    exact ⟨ret_bool (by rw [he.out]; try simp [hd1]), rfl⟩

theorem markB_yes {n m p b : Int} (h : markB n m p b = true) : sampleB n m p = true ∧ 0 ≤ n ∧ n ≤ 30 ∧ 0 ≤ m ∧ m ≤ n ∧ 0 ≤ p ∧ p ≤ n ∧ 0 ≤ b ∧ b ≤ p := by
  obtain ⟨a, c⟩ := Bool.and_eq_true_iff.1 h
  have h1 := of_decide_eq_true a
  have h2 := of_decide_eq_true c
  exact ⟨a, h1.1, h1.2.1, h1.2.2.1, h1.2.2.2.1, h1.2.2.2.2.1, h1.2.2.2.2.2, h2.1, h2.2⟩
theorem markN_bound {n m p b : Int} (h0 : 0 ≤ m) (h1 : m ≤ n) (h2 : n ≤ 30) : 0 ≤ markN n m p b ∧ markN n m p b ≤ 40000000000000000 := by
  have a := chooseI_bound (n := m) (k := b) (by omega)
  have c := chooseI_bound (n := n - m) (k := p - b) (by omega)
  have := mul_bound a.1 a.2 c.1 c.2
  unfold markN
  omega

theorem markedWays_spec (n m p b : Int) (w : World) :
    Calls Try.prog 23 #[.int .i64 n, .int .i64 m, .int .i64 p, .int .i64 b] w fun e w' => e = .returned (.int .i64 (markW n m p b)) ∧ w = w' := by
  have HO := hide (sampleOk_spec n m p w)
  cases hs : sampleB n m p with
  | false =>
    have he := hide (show markW n m p b = -1 by unfold markW markB; rw [hs]; rfl)
    rw [hs] at HO
    clear hs
    go_enter Try.func23, Try.ntmps23
    go_wp2_with (go_at_call 20; refine HO.out.mono ?_; rintro e w' ⟨rfl, rfl⟩)
    go_ret
    exact ⟨ret_int he.out.symm, rfl⟩
  | true =>
    rw [hs] at HO
    by_cases hb : 0 ≤ b ∧ b ≤ p
    · have hd := decide_eq_true hb
      have hmb : markB n m p b = true := by unfold markB; rw [hs, hd]; rfl
      have he := hide (show markW n m p b = chooseI m b * chooseI (n - m) (p - b) by unfold markW; rw [if_pos hmb]; rfl)
      obtain ⟨_, n0, n1, m0, m1, p0, p1, b0, b1⟩ := markB_yes hmb
      have HC1 := hide (l7Choose_c m b w (by omega))
      have HC2 := hide (l7Choose_c (n - m) (p - b) w (by omega))
      have c1 := chooseI_bound (n := m) (k := b) (by omega)
      have c2 := chooseI_bound (n := n - m) (k := p - b) (by omega)
      obtain ⟨X, hX⟩ : ∃ X, Hid (chooseI m b = X) := ⟨_, hide rfl⟩
      obtain ⟨Y, hY⟩ : ∃ Y, Hid (chooseI (n - m) (p - b) = Y) := ⟨_, hide rfl⟩
      rw [hX.out] at HC1 c1 he
      rw [hY.out] at HC2 c2 he
      obtain ⟨q0, q1⟩ := mul_bound c1.1 c1.2 c2.1 c2.2
      clear hs hmb hb c1 c2
      go_enter Try.func23, Try.ntmps23
      go_wp2_with (first | (go_at_call 33; (with_reducible refine (l1In_c _ _ _ _).mono ?_); rintro e w' ⟨rfl, rfl⟩) | (go_at_call 20; refine HO.out.mono ?_; rintro e w' ⟨rfl, rfl⟩) | (go_at_call 34; (with_reducible refine HC1.out.mono ?_); rintro e w' ⟨rfl, rfl⟩) | (go_at_call 34; (with_reducible refine HC2.out.mono ?_); rintro e w' ⟨rfl, rfl⟩))
      go_ret
      exact ⟨ret_int he.out.symm, rfl⟩
    · have hd := decide_eq_false hb
      have he := hide (show markW n m p b = -1 by unfold markW markB; rw [hs, hd]; rfl)
      clear hs hb
      go_enter Try.func23, Try.ntmps23
      go_wp2_with (first | (go_at_call 33; (with_reducible refine (l1In_c _ _ _ _).mono ?_); rintro e w' ⟨rfl, rfl⟩) | (go_at_call 20; refine HO.out.mono ?_; rintro e w' ⟨rfl, rfl⟩))
      go_ret
      exact ⟨ret_int he.out.symm, rfl⟩

theorem tailTo_bound {n m p b : Int} (h0 : 0 ≤ m) (h1 : m ≤ n) (h2 : n ≤ 30) (j : Nat) : 0 ≤ tailTo n m p b j ∧ tailTo n m p b j ≤ 40000000000000000 * (j : Int) := by
  induction j with
  | zero => simp [tailTo]
  | succ j ih =>
    have := markN_bound (p := p) (b := b + (j : Int)) h0 h1 h2
    rw [show tailTo n m p b (j + 1) = tailTo n m p b j + markN n m p (b + (j : Int)) from rfl]
    omega

set_option maxHeartbeats 1600000 in
theorem tailWays_spec (n m p b : Int) (w : World) :
    Calls Try.prog 26 #[.int .i64 n, .int .i64 m, .int .i64 p, .int .i64 b] w fun e w' => e = .returned (.int .i64 (tailW n m p b)) ∧ w = w' := by
  have HO := hide (sampleOk_spec n m p w)
  cases hs : sampleB n m p with
  | false =>
    have he := hide (show tailW n m p b = -1 by unfold tailW markB; rw [hs]; rfl)
    rw [hs] at HO
    clear hs
    go_enter Try.func26, Try.ntmps26
    go_wp2_with (go_at_call 20; refine HO.out.mono ?_; rintro e w' ⟨rfl, rfl⟩)
    go_ret
    exact ⟨ret_int he.out.symm, rfl⟩
  | true =>
    rw [hs] at HO
    by_cases hb : 0 ≤ b ∧ b ≤ p
    · have hd := decide_eq_true hb
      have hmb : markB n m p b = true := by unfold markB; rw [hs, hd]; rfl
      obtain ⟨_, n0, n1, m0, m1, p0, p1, b0, b1⟩ := markB_yes hmb
      obtain ⟨J, hJ⟩ : ∃ J : Nat, p - b + 1 = (J : Int) := ⟨(p - b + 1).toNat, by omega⟩
      have he := hide (show tailW n m p b = tailTo n m p b J by unfold tailW; rw [if_pos hmb, hJ, Int.toNat_natCast])
      have HB := hide (fun (j : Nat) => tailTo_bound (p := p) (b := b) m0 m1 n1 j)
      have HM := hide (fun (c : Int) (h0 : 0 ≤ c) (h1 : c ≤ p) => show markW n m p c = markN n m p c by unfold markW markB; rw [hs, decide_eq_true ⟨h0, h1⟩]; rfl)
      have HK := hide (fun (c : Int) => markN_bound (p := p) (b := c) m0 m1 n1)
      have HW := hide (fun (c : Int) => markedWays_spec n m p c w)
      clear hs hmb hb
      rw [he.out]
      clear he
      go_enter Try.func26, Try.ntmps26
      go_wp2_with (first | (go_at_call 33; (with_reducible refine (l1In_c _ _ _ _).mono ?_); rintro e w' ⟨rfl, rfl⟩) | (go_at_call 20; refine HO.out.mono ?_; rintro e w' ⟨rfl, rfl⟩))
      go_loop [9, 10] (fun t i => ∃ j : Nat, ∃ Z c : Int, j ≤ J ∧ i = .int .i64 c ∧ t = .int .i64 Z ∧ c = b + (j : Int) ∧ Hid (Z = tailTo n m p b j)) (fun _ i => (p + 1 - intOf i).toNat)
      case atStart => exact ⟨0, 0, b, Nat.zero_le _, rfl, rfl, by simp, hide rfl⟩
      case round =>
        obtain ⟨j, Z, c, hj, rfl, rfl, hc, hZ⟩ := hrel
        by_cases hlt : j < J
        · obtain ⟨z0, z1⟩ := HB.out j
          rw [← hZ.out] at z0 z1
          obtain ⟨k0, k1⟩ := HK.out c
          have HWc := HW.out c
          rw [HM.out c (by omega) (by omega)] at HWc
          have hZn := hide (show Z + markN n m p c = tailTo n m p b (j + 1) by rw [hZ.out, hc]; rfl)
          obtain ⟨X, hX⟩ : ∃ X, Hid (markN n m p c = X) := ⟨_, hide rfl⟩
          rw [hX.out] at HWc hZn k0 k1
          have hcp : c ≤ p := by omega
          have hc0 : 0 ≤ c := by omega
          have hc1 := hide (show c + 1 = b + ((j + 1 : Nat) : Int) by omega)
          replace HWc := hide HWc
          have hj31 : j ≤ 31 := by omega
          replace hc := hide hc
          go_wp2_with fail
          refine HWc.out.mono ?_
          rintro e w' ⟨rfl, rfl⟩
          go_wp2_with fail
          go_round
          case rel => exact ⟨j + 1, Z + X, c + 1, by omega, rfl, rfl, hc1.out, hZn⟩
          case measure => simp [intOf]; omega
        · obtain rfl : j = J := by omega
          have hcp : ¬ (c ≤ p) := by omega
          go_wp2_with fail
          go_ret
          exact ⟨ret_int hZ.out, rfl⟩
    · have hd := decide_eq_false hb
      have he := hide (show tailW n m p b = -1 by unfold tailW markB; rw [hs, hd]; rfl)
      clear hs hb
      go_enter Try.func26, Try.ntmps26
      go_wp2_with (first | (go_at_call 33; (with_reducible refine (l1In_c _ _ _ _).mono ?_); rintro e w' ⟨rfl, rfl⟩) | (go_at_call 20; refine HO.out.mono ?_; rintro e w' ⟨rfl, rfl⟩))
      go_ret
      exact ⟨ret_int he.out.symm, rfl⟩

theorem likeliest_spec (m p b : Int) (w : World) :
    Calls Try.prog 29 #[.int .i64 m, .int .i64 p, .int .i64 b] w fun e w' => e = .returned (.int .i64 (likeT m p b)) ∧ w = w' := by
  by_cases hm : 1 ≤ m ∧ m ≤ 9
  · have hd1 := decide_eq_true hm
    by_cases hp : 1 ≤ p ∧ p ≤ 9
    · have hd2 := decide_eq_true hp
      rcases (show m ≤ p ∨ p < m by omega) with hmp | hmp
      · by_cases hb : 1 ≤ b ∧ b ≤ m
        · have hd3 := decide_eq_true hb
          have hl : likeB m p b = true := decide_eq_true (by omega)
          obtain ⟨q0, q1⟩ := mul_bound (a := m) (M := 9) (by omega) (by omega) (b := p) (N := 9) (by omega) (by omega)
          have he := hide (show likeT m p b = m * p / b by unfold likeT; rw [hl]; rfl)
          have hw2 := hide (show wrap64 ((m * p).tdiv b) = m * p / b from by
            rw [Int.tdiv_eq_ediv_of_nonneg q0]
            exact IntWalk.wrap64_in _ (by
            have a := Int.ediv_nonneg q0 (show 0 ≤ b by omega)
            have c := Int.ediv_le_self b q0
            omega))
          have hB0 : (b == 0) = false := by simp; omega
          obtain ⟨hm1, hm2⟩ := hm
          obtain ⟨hp1, hp2⟩ := hp
          obtain ⟨hb1, hb2⟩ := hb
          clear hl hd1 hd2 hd3
          go_enter Try.func29, Try.ntmps29
          go_wp2_with (first | (go_at_call 33; (with_reducible refine (l1In_yes _ _ _ _ (by omega)).mono ?_); rintro e w' ⟨rfl, rfl⟩) | (go_at_call 33; (with_reducible refine (l1In_no _ _ _ _ (by omega)).mono ?_); rintro e w' ⟨rfl, rfl⟩))
          go_ret
          exact ⟨ret_int (by rw [he.out]), rfl⟩
        · have hd3 := decide_eq_false hb
          have he := hide (show likeT m p b = -1 by unfold likeT; rw [show likeB m p b = false from decide_eq_false (by omega)]; rfl)
          clear hd1 hd2 hd3
          go_enter Try.func29, Try.ntmps29
          go_wp2_with (first | (go_at_call 33; (with_reducible refine (l1In_yes _ _ _ _ (by omega)).mono ?_); rintro e w' ⟨rfl, rfl⟩) | (go_at_call 33; (with_reducible refine (l1In_no _ _ _ _ (by omega)).mono ?_); rintro e w' ⟨rfl, rfl⟩))
          go_ret
          exact ⟨ret_int he.out.symm, rfl⟩
      · by_cases hb : 1 ≤ b ∧ b ≤ p
        · have hd3 := decide_eq_true hb
          have hl : likeB m p b = true := decide_eq_true (by omega)
          obtain ⟨q0, q1⟩ := mul_bound (a := m) (M := 9) (by omega) (by omega) (b := p) (N := 9) (by omega) (by omega)
          have he := hide (show likeT m p b = m * p / b by unfold likeT; rw [hl]; rfl)
          have hw2 := hide (show wrap64 ((m * p).tdiv b) = m * p / b from by
            rw [Int.tdiv_eq_ediv_of_nonneg q0]
            exact IntWalk.wrap64_in _ (by
            have a := Int.ediv_nonneg q0 (show 0 ≤ b by omega)
            have c := Int.ediv_le_self b q0
            omega))
          have hB0 : (b == 0) = false := by simp; omega
          obtain ⟨hm1, hm2⟩ := hm
          obtain ⟨hp1, hp2⟩ := hp
          obtain ⟨hb1, hb2⟩ := hb
          clear hl hd1 hd2 hd3
          go_enter Try.func29, Try.ntmps29
          go_wp2_with (first | (go_at_call 33; (with_reducible refine (l1In_yes _ _ _ _ (by omega)).mono ?_); rintro e w' ⟨rfl, rfl⟩) | (go_at_call 33; (with_reducible refine (l1In_no _ _ _ _ (by omega)).mono ?_); rintro e w' ⟨rfl, rfl⟩))
          go_ret
          exact ⟨ret_int (by rw [he.out]), rfl⟩
        · have hd3 := decide_eq_false hb
          have he := hide (show likeT m p b = -1 by unfold likeT; rw [show likeB m p b = false from decide_eq_false (by omega)]; rfl)
          clear hd1 hd2 hd3
          go_enter Try.func29, Try.ntmps29
          go_wp2_with (first | (go_at_call 33; (with_reducible refine (l1In_yes _ _ _ _ (by omega)).mono ?_); rintro e w' ⟨rfl, rfl⟩) | (go_at_call 33; (with_reducible refine (l1In_no _ _ _ _ (by omega)).mono ?_); rintro e w' ⟨rfl, rfl⟩))
          go_ret
          exact ⟨ret_int he.out.symm, rfl⟩
    · have hd2 := decide_eq_false hp
      have he := hide (show likeT m p b = -1 by unfold likeT; rw [show likeB m p b = false from decide_eq_false (by omega)]; rfl)
      clear hd1 hd2
      go_enter Try.func29, Try.ntmps29
      go_wp2_with (first | (go_at_call 33; (with_reducible refine (l1In_yes _ _ _ _ (by omega)).mono ?_); rintro e w' ⟨rfl, rfl⟩) | (go_at_call 33; (with_reducible refine (l1In_no _ _ _ _ (by omega)).mono ?_); rintro e w' ⟨rfl, rfl⟩))
      go_ret
      exact ⟨ret_int he.out.symm, rfl⟩
  · have hd1 := decide_eq_false hm
    have he := hide (show likeT m p b = -1 by unfold likeT; rw [show likeB m p b = false from decide_eq_false (by omega)]; rfl)
    clear hd1
    go_enter Try.func29, Try.ntmps29
    go_wp2_with (first | (go_at_call 33; (with_reducible refine (l1In_yes _ _ _ _ (by omega)).mono ?_); rintro e w' ⟨rfl, rfl⟩) | (go_at_call 33; (with_reducible refine (l1In_no _ _ _ _ (by omega)).mono ?_); rintro e w' ⟨rfl, rfl⟩))
    go_ret
    exact ⟨ret_int he.out.symm, rfl⟩
end Go.Proofs.Ytjkccfnbepbmbaa
