/-
  Contracts of chapter 11, the specification's side: PickWays, SampleOk, MarkedWays, TailWays, LikeliestThings (written by wip/gen_a3.py).
-/
import Derived.Test.YtnfjajamafkjoaaPlainAB
import Derived.Test.YtnfjajamafkjoaaRunS
namespace Go.Proofs.Ytnfjajamafkjoaa
open Go.RowKit
set_option linter.unusedVariables false

theorem sampleOk_spec (n m p : Int) (w : World) :
    Calls Try.prog 44 #[.int .i64 n, .int .i64 m, .int .i64 p] w fun e w' => e = .returned (.bool (sampleB n m p)) ∧ w = w' := by
  by_cases hn : 0 ≤ n ∧ n ≤ 30
  · have hd1 := decide_eq_true hn
    by_cases hm : 0 ≤ m ∧ m ≤ n
    · have hd2 := decide_eq_true hm
      by_cases hp : 0 ≤ p ∧ p ≤ n
      · have hd3 := decide_eq_true hp
        have he := hide (show sampleB n m p = true from decide_eq_true (by omega))
        clear hn hm hp
        go_enter Try.func44, Try.ntmps44
        go_wp2_with (go_at_call 36; (with_reducible refine (l1In_c _ _ _ _).mono ?_); rintro e w' ⟨rfl, rfl⟩)
        go_ret
        exact ⟨ret_bool (by rw [he.out]; try simp [hd1, hd2, hd3]), rfl⟩
      · have hd3 := decide_eq_false hp
        have he := hide (show sampleB n m p = false from decide_eq_false (by omega))
        clear hn hm hp
        go_enter Try.func44, Try.ntmps44
        go_wp2_with (go_at_call 36; (with_reducible refine (l1In_c _ _ _ _).mono ?_); rintro e w' ⟨rfl, rfl⟩)
        go_ret
        exact ⟨ret_bool (by rw [he.out]; try simp [hd1, hd2, hd3]), rfl⟩
    · have hd2 := decide_eq_false hm
      have he := hide (show sampleB n m p = false from decide_eq_false (by omega))
      clear hn hm
      go_enter Try.func44, Try.ntmps44
      go_wp2_with (go_at_call 36; (with_reducible refine (l1In_c _ _ _ _).mono ?_); rintro e w' ⟨rfl, rfl⟩)
      go_ret
      exact ⟨ret_bool (by rw [he.out]; try simp [hd1, hd2]), rfl⟩
  · have hd1 := decide_eq_false hn
    have he := hide (show sampleB n m p = false from decide_eq_false (by omega))
    clear hn
    go_enter Try.func44, Try.ntmps44
    go_wp2_with (go_at_call 36; (with_reducible refine (l1In_c _ _ _ _).mono ?_); rintro e w' ⟨rfl, rfl⟩)
    go_ret
    exact ⟨ret_bool (by rw [he.out]; try simp [hd1]), rfl⟩

theorem markB_yes {n m p b : Int} (h : markB n m p b = true) : sampleB n m p = true ∧ 0 ≤ n ∧ n ≤ 30 ∧ 0 ≤ m ∧ m ≤ n ∧ 0 ≤ p ∧ p ≤ n ∧ 0 ≤ b ∧ b ≤ p := by
  obtain ⟨a, c⟩ := Bool.and_eq_true_iff.1 h
  have h1 := of_decide_eq_true a
  have h2 := of_decide_eq_true c
  exact ⟨a, h1.1, h1.2.1, h1.2.2.1, h1.2.2.2.1, h1.2.2.2.2.1, h1.2.2.2.2.2, h2.1, h2.2⟩
theorem markN_bound {n m p b : Int} (h0 : 0 ≤ m) (h1 : m ≤ n) (h2 : n ≤ 30) : 0 ≤ markN n m p b ∧ markN n m p b ≤ 40000000000000000 := by
  have a := chooseI_bound (n := m) (k := b) (by omega)
  have c := chooseI_bound (n := n - m) (k := p - b) (by omega)
  have := mul_bound a.1 a.2 c.1 c.2
  unfold markN
  omega

theorem markedWays_spec (n m p b : Int) (w : World) :
    Calls Try.prog 45 #[.int .i64 n, .int .i64 m, .int .i64 p, .int .i64 b] w fun e w' => e = .returned (.int .i64 (markW n m p b)) ∧ w = w' := by
  have HO := hide (sampleOk_spec n m p w)
  cases hs : sampleB n m p with
  | false =>
    have he := hide (show markW n m p b = -1 by unfold markW markB; rw [hs]; rfl)
    rw [hs] at HO
    clear hs
    go_enter Try.func45, Try.ntmps45
    go_wp2_with (go_at_call 44; refine HO.out.mono ?_; rintro e w' ⟨rfl, rfl⟩)
    go_ret
    exact ⟨ret_int he.out.symm, rfl⟩
  | true =>
    rw [hs] at HO
    by_cases hb : 0 ≤ b ∧ b ≤ p
    · have hd := decide_eq_true hb
      have hmb : markB n m p b = true := by unfold markB; rw [hs, hd]; rfl
      have he := hide (show markW n m p b = chooseI m b * chooseI (n - m) (p - b) by unfold markW; rw [if_pos hmb]; rfl)
      obtain ⟨_, n0, n1, m0, m1, p0, p1, b0, b1⟩ := markB_yes hmb
      have HC1 := hide (l7Choose_c m b w (by omega))
      have HC2 := hide (l7Choose_c (n - m) (p - b) w (by omega))
      have c1 := chooseI_bound (n := m) (k := b) (by omega)
      have c2 := chooseI_bound (n := n - m) (k := p - b) (by omega)
      obtain ⟨X, hX⟩ : ∃ X, Hid (chooseI m b = X) := ⟨_, hide rfl⟩
      obtain ⟨Y, hY⟩ : ∃ Y, Hid (chooseI (n - m) (p - b) = Y) := ⟨_, hide rfl⟩
      rw [hX.out] at HC1 c1 he
      rw [hY.out] at HC2 c2 he
      obtain ⟨q0, q1⟩ := mul_bound c1.1 c1.2 c2.1 c2.2
      clear hs hmb hb c1 c2
      go_enter Try.func45, Try.ntmps45
      go_wp2_with (first | (go_at_call 36; (with_reducible refine (l1In_c _ _ _ _).mono ?_); rintro e w' ⟨rfl, rfl⟩) | (go_at_call 44; refine HO.out.mono ?_; rintro e w' ⟨rfl, rfl⟩) | (go_at_call 55; (with_reducible refine HC1.out.mono ?_); rintro e w' ⟨rfl, rfl⟩) | (go_at_call 55; (with_reducible refine HC2.out.mono ?_); rintro e w' ⟨rfl, rfl⟩))
      go_ret
      exact ⟨ret_int he.out.symm, rfl⟩
    · have hd := decide_eq_false hb
      have he := hide (show markW n m p b = -1 by unfold markW markB; rw [hs, hd]; rfl)
      clear hs hb
      go_enter Try.func45, Try.ntmps45
      go_wp2_with (first | (go_at_call 36; (with_reducible refine (l1In_c _ _ _ _).mono ?_); rintro e w' ⟨rfl, rfl⟩) | (go_at_call 44; refine HO.out.mono ?_; rintro e w' ⟨rfl, rfl⟩))
      go_ret
      exact ⟨ret_int he.out.symm, rfl⟩

theorem tailTo_bound {n m p b : Int} (h0 : 0 ≤ m) (h1 : m ≤ n) (h2 : n ≤ 30) (j : Nat) : 0 ≤ tailTo n m p b j ∧ tailTo n m p b j ≤ 40000000000000000 * (j : Int) := by
  induction j with
  | zero => simp [tailTo]
  | succ j ih =>
    have := markN_bound (p := p) (b := b + (j : Int)) h0 h1 h2
    rw [show tailTo n m p b (j + 1) = tailTo n m p b j + markN n m p (b + (j : Int)) from rfl]
    omega

end Go.Proofs.Ytnfjajamafkjoaa
