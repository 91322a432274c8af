/-
  Contracts of chapter 8, the specification's side: FullWays, EmptyWays, ApartWays, GroupsOf, WaitWays, PairWays.
-/
import Derived.Test.YtfencbfjnifmjaaPlainZ
import Derived.Test.YtfencbfjnifmjaaRoomS
namespace Go.Proofs.Ytfencbfjnifmjaa
open Go.RowKit
set_option linter.unusedVariables false

theorem fallOk_no {n b : Int} (h : ¬(0 ≤ n ∧ n ≤ 7) ∨ ¬(1 ≤ b ∧ b ≤ 6)) : fallOk n b = false := decide_eq_false (by omega)
theorem l8Ok_c (n b : Int) (w : World) : Calls Try.prog 37 #[.int .i64 n, .int .i64 b] w fun e w' => e = .returned (.bool (fallOk n b)) ∧ w = w' := by
  by_cases hn : 0 ≤ n ∧ n ≤ 7
  · by_cases hb : 1 ≤ b ∧ b ≤ 6
    · have he := hide (show fallOk n b = true from decide_eq_true (by omega))
      have hn := hide hn
      have hb := hide hb
      go_enter Try.func37, Try.ntmps37
      go_wp2_with (go_at_call 43; (first | (with_reducible refine (l1In_yes _ _ _ _ hn.out).mono ?_) | (with_reducible refine (l1In_yes _ _ _ _ hb.out).mono ?_)); rintro e w' ⟨rfl, rfl⟩)
      go_ret
      exact ⟨ret_bool he.out.symm, rfl⟩
    · have he := hide (fallOk_no (n := n) (.inr hb))
      have hn := hide hn
      have hb := hide hb
      go_enter Try.func37, Try.ntmps37
      go_wp2_with (go_at_call 43; (first | (with_reducible refine (l1In_yes _ _ _ _ hn.out).mono ?_) | (with_reducible refine (l1In_no _ _ _ _ hb.out).mono ?_)); rintro e w' ⟨rfl, rfl⟩)
      go_ret
      exact ⟨ret_bool he.out.symm, rfl⟩
  · have he := hide (fallOk_no (b := b) (.inl hn))
    have hn := hide hn
    go_enter Try.func37, Try.ntmps37
    go_wp2_with (go_at_call 43; (with_reducible refine (l1In_no _ _ _ _ hn.out).mono ?_); rintro e w' ⟨rfl, rfl⟩)
    go_ret
    exact ⟨ret_bool he.out.symm, rfl⟩

theorem pow_box {b m : Nat} (hb : b ≤ 6) (hm : m ≤ 7) : b ^ m ≤ 279936 := by
  rcases Nat.eq_zero_or_pos b with h | h
  · subst h
    cases m with
    | zero => decide
    | succ m => rw [Nat.pow_succ]; omega
  · exact Nat.le_trans (Nat.pow_le_pow_left hb m) (Nat.pow_le_pow_right (n := 6) (by omega) hm)
set_option maxHeartbeats 400000 in
theorem l3PowerZ_c (z : Int) (b m : Nat) (w : World) (hz : z = (b : Int)) (hb : b ≤ 6) (hm : m ≤ 7) :
    Calls Try.prog 48 #[.int .i64 z, .int .i64 m] w fun e w' => e = .returned (.int .i64 ((b ^ m : Nat) : Int)) ∧ w = w' := by
  subst hz
  have HB := hide (fun k (hk : k ≤ m) => pow_box (m := k) hb (by omega))
  have HS := hide (fun k => Nat.pow_succ (n := b) (m := k))
  go_enter Try.func48, Try.ntmps48
  go_wp2
  go_loop [5, 6] (fun t i => ∃ k P : Nat, k ≤ m ∧ i = .int .i64 k ∧ t = .int .i64 P ∧ Hid (P = b ^ k)) (fun _ i => m - (intOf i).toNat)
  case atStart => exact ⟨0, 1, Nat.zero_le _, rfl, rfl, hide (by simp)⟩
  case round =>
    obtain ⟨k, P, hk, rfl, rfl, hP⟩ := hrel
    by_cases hlt : k < m
    · have b1 := HB.out k (by omega)
      have hst := hide (HS.out k)
      rw [← hP.out] at b1 hst
      obtain ⟨q1, q2⟩ := mul_bound (a := (P : Int)) (M := 279936) (by omega) (by omega) (b := (b : Int)) (by omega) (show (b : Int) ≤ 6 by omega)
      go_wp2
      go_round
      case rel => exact ⟨k + 1, P * b, by omega, by go_num, by rw [Int.natCast_mul], hst.out.symm⟩
      case measure => simp [intOf]; omega
    · obtain rfl : k = m := by omega
      go_wp2
      go_ret
      exact ⟨ret_int (by rw [hP.out]; exact Int.natCast_pow _ _), rfl⟩

set_option maxHeartbeats 1600000 in
theorem l8Full_c (n b : Int) (N B : Nat) (w : World) (hn : n = (N : Int)) (hb : b = (B : Int)) (hN : N ≤ 7) (hB : B ≤ 6) :
    Calls Try.prog 38 #[.int .i64 n, .int .i64 b] w fun e w' => e = .returned (.int .i64 (fullN N B)) ∧ w = w' := by
  subst hn
  subst hb
  have HB := hide (fun (k : Nat) (hk : k ≤ B + 1) => full_part (N := N) (B := B) (k := k) hN hB hk)
  have HS := hide (fun (k : Nat) => show fullTo N B (k + 1) = fullTo N B k + fullAt N B k from rfl)
  have he := hide (show fullN N B = fullTo N B (B + 1) from rfl)
  rw [he.out]
  go_enter Try.func38, Try.ntmps38
  go_wp2
  go_loop [5, 6] (fun t i => ∃ k : Nat, ∃ Z : Int, k ≤ B + 1 ∧ i = .int .i64 k ∧ t = .int .i64 Z ∧ Hid (Z = fullTo N B k)) (fun _ i => B + 1 - (intOf i).toNat)
  case atStart => exact ⟨0, 0, Nat.zero_le _, rfl, rfl, hide rfl⟩
  case round =>
    obtain ⟨k, Z, hk, rfl, rfl, hZ⟩ := hrel
    by_cases hlt : k < B + 1
    · obtain ⟨z0, z1, c1, p1, m1⟩ := HB.out k hk
      rw [← hZ.out] at z0 z1
      have hst := hide (HS.out k)
      rw [← hZ.out] at hst
      have hch := hide (chooseI_in (n := B) (k := k) (by omega))
      obtain ⟨C, hC⟩ : ∃ C : Nat, Hid (chooseN B k = C) := ⟨_, hide rfl⟩
      obtain ⟨P, hP⟩ : ∃ P : Nat, Hid ((B - k) ^ N = P) := ⟨_, hide rfl⟩
      rw [hC.out] at c1 m1 hch
      rw [hP.out] at p1 m1
      have hat := hide (show fullAt N B k = if k % 2 = 1 then -((C * P : Nat) : Int) else ((C * P : Nat) : Int) by unfold fullAt; rw [hC.out, hP.out])
      have hm0 : 0 ≤ (C : Int) * (P : Int) ∧ (C : Int) * (P : Int) ≤ 2000000 := by
        rw [← Int.natCast_mul]; omega
      obtain ⟨q0, q1⟩ := hm0
      have hk0 : (k : Int) % 2 = ((k % 2 : Nat) : Int) := by omega
      by_cases hodd : k % 2 = 1
      · have ho1 : ((k : Int) % 2 == 1) = true := by simp; omega
        have hnx := hide (show Z + -((C : Int) * (P : Int)) = fullTo N B (k + 1) by rw [hst.out, hat.out, if_pos hodd, Int.natCast_mul])
        clear hk0
        go_wp2_with (first | (go_at_call 44; (with_reducible refine (l7Choose_c _ _ _ (by omega)).mono ?_); rw [hch.out]; rintro e w' ⟨rfl, rfl⟩) | (go_at_call 48; (with_reducible refine (l3PowerZ_c _ (B - k) N _ (by omega) (by omega) (by omega)).mono ?_); rw [hP.out]; rintro e w' ⟨rfl, rfl⟩))
        go_round
        case rel => exact ⟨k + 1, _, by omega, by go_num, rfl, hnx⟩
        case measure => simp [intOf]; omega
      · have ho1 : ((k : Int) % 2 == 1) = false := by simp; omega
        have hnx := hide (show Z + (C : Int) * (P : Int) = fullTo N B (k + 1) by rw [hst.out, hat.out, if_neg hodd, Int.natCast_mul])
        clear hk0
        go_wp2_with (first | (go_at_call 44; (with_reducible refine (l7Choose_c _ _ _ (by omega)).mono ?_); rw [hch.out]; rintro e w' ⟨rfl, rfl⟩) | (go_at_call 48; (with_reducible refine (l3PowerZ_c _ (B - k) N _ (by omega) (by omega) (by omega)).mono ?_); rw [hP.out]; rintro e w' ⟨rfl, rfl⟩))
        go_round
        case rel => exact ⟨k + 1, _, by omega, by go_num, rfl, hnx⟩
        case measure => simp [intOf]; omega
    · obtain rfl : k = B + 1 := by omega
      go_wp2
      go_ret
      exact ⟨ret_int hZ.out, rfl⟩

theorem groupsN_over : ∀ (n k : Nat), n < k → groupsN n k = 0
  | 0, k + 1, _ => rfl
  | n + 1, k + 1, h => by
    show (k + 1) * groupsN n (k + 1) + groupsN n k = 0
    rw [groupsN_over n (k + 1) (by omega), groupsN_over n k (by omega), Nat.mul_zero]
set_option maxHeartbeats 1600000 in
theorem l8Groups_c (N : Nat) : ∀ (K : Nat) (n k : Int) (w : World), n = (N : Int) → k = (K : Int) → N ≤ 7 → K ≤ 6 →
    Calls Try.prog 46 #[.int .i64 n, .int .i64 k] w fun e w' => e = .returned (.int .i64 (groupsN N K : Int)) ∧ w = w' := by
  induction N with
  | zero =>
    intro K n k w hn hk hN hK
    subst hn
    subst hk
    cases K with
    | zero =>
      go_enter Try.func46, Try.ntmps46
      go_wp2
      go_ret
      exact ⟨rfl, rfl⟩
    | succ K =>
      have hg : (0 : Int) < ((K + 1 : Nat) : Int) := by omega
      go_enter Try.func46, Try.ntmps46
      go_wp2
      go_ret
      exact ⟨rfl, rfl⟩
  | succ N ih =>
    intro K n k w hn hk hN hK
    have hn0 : (n == 0) = false := by simp; omega
    by_cases hlt : N + 1 < K
    · have hg : n < k := by omega
      have he := hide (groupsN_over (N + 1) K hlt)
      clear hn hk
      go_enter Try.func46, Try.ntmps46
      go_wp2
      go_ret
      exact ⟨ret_int (by rw [he.out]; rfl), rfl⟩
    · have hg : ¬ n < k := by omega
      have hnN : n ≤ 7 := by omega
      have hkK : k ≤ 6 := by omega
      have hkn : k ≤ n := by omega
      cases K with
      | zero =>
        obtain rfl : k = 0 := hk
        clear hn
        go_enter Try.func46, Try.ntmps46
        go_wp2
        go_ret
        exact ⟨rfl, rfl⟩
      | succ K =>
        have hk0 : (k == 0) = false := by simp; omega
        have h1 := (full_bound (N := N) (B := K + 1) (by omega) hK).2.2.2.1
        have h2 := (full_bound (N := N) (B := K) (by omega) (by omega)).2.2.2.1
        have he := hide (show groupsN (N + 1) (K + 1) = (K + 1) * groupsN N (K + 1) + groupsN N K from rfl)
        have H1 := hide (fun w => ih (K + 1) (n - 1) k w (by omega) hk (by omega) hK)
        have H2 := hide (fun w => ih K (n - 1) (k - 1) w (by omega) (by omega) (by omega) (by omega))
        obtain ⟨X, hX⟩ : ∃ X : Nat, Hid (groupsN N (K + 1) = X) := ⟨_, hide rfl⟩
        obtain ⟨Y, hY⟩ : ∃ Y : Nat, Hid (groupsN N K = Y) := ⟨_, hide rfl⟩
        rw [hX.out] at h1 H1 he
        rw [hY.out] at h2 H2 he
        have hk1 : 1 ≤ k := by omega
        have hn1 : 1 ≤ n := by omega
        obtain ⟨q0, q1⟩ := mul_bound (a := k) (M := 6) (by omega) (by omega) (b := (X : Int)) (N := 2000) (by omega) (by omega)
        have hfin := hide (show k * (X : Int) + (Y : Int) = (groupsN (N + 1) (K + 1) : Int) by
          rw [he.out, Int.natCast_add, Int.natCast_mul, hk])
        clear hn hk ih
        go_enter Try.func46, Try.ntmps46
        go_wp2_with (go_at_call 46; (first | (with_reducible refine (H1.out _).mono ?_) | (with_reducible refine (H2.out _).mono ?_)); rintro e w' ⟨rfl, rfl⟩)
        go_ret
        exact ⟨ret_int hfin.out, rfl⟩

theorem fullWays_spec (n b : Int) (w : World) :
    Calls Try.prog 14 #[.int .i64 n, .int .i64 b] w fun e w' => e = .returned (.int .i64 (fullW n b)) ∧ w = w' := by
  have HO := hide (l8Ok_c n b w)
  by_cases hok : fallOk n b = true
  · rw [hok] at HO
    obtain ⟨N, B, rfl, rfl, hN, h1, h6⟩ := fallOk_yes hok
    have he := hide (fullW_in hN h1 h6)
    clear hok
    go_enter Try.func14, Try.ntmps14
    go_wp2_with (first | (go_at_call 37; refine (HO.out).mono ?_; rintro e w' ⟨rfl, rfl⟩) | (go_at_call 38; refine (l8Full_c _ _ N B _ rfl rfl hN h6).mono ?_; rintro e w' ⟨rfl, rfl⟩))
    go_ret
    exact ⟨ret_int he.out.symm, rfl⟩
  · have hok : fallOk n b = false := by simpa using hok
    rw [hok] at HO
    have he := hide (fullW_out hok)
    clear hok
    go_enter Try.func14, Try.ntmps14
    go_wp2_with (go_at_call 37; refine (HO.out).mono ?_; rintro e w' ⟨rfl, rfl⟩)
    go_ret
    exact ⟨ret_int he.out.symm, rfl⟩

set_option maxHeartbeats 800000 in
theorem emptyWays_spec (n b e : Int) (w : World) :
    Calls Try.prog 20 #[.int .i64 n, .int .i64 b, .int .i64 e] w fun e' w' => e' = .returned (.int .i64 (emptyW n b e)) ∧ w = w' := by
  have HO := hide (l8Ok_c n b w)
  by_cases hok : fallOk n b = true
  · rw [hok] at HO
    by_cases hE : 0 ≤ e ∧ e ≤ b
    · obtain ⟨N, B, rfl, rfl, hN, h1, h6⟩ := fallOk_yes hok
      obtain ⟨E, rfl⟩ : ∃ E : Nat, e = (E : Int) := ⟨e.toNat, by omega⟩
      have hEB : E ≤ B := by omega
      have he := hide (emptyW_in hN h1 h6 hEB)
      have hch := hide (chooseI_in hEB)
      obtain ⟨_, _, c1, _, _⟩ := full_part (N := N) (B := B) (k := E) hN h6 (by omega)
      obtain ⟨f0, f1, _⟩ := full_bound (N := N) (B := B - E) hN (by omega)
      obtain ⟨C, hC⟩ : ∃ C : Nat, Hid (chooseN B E = C) := ⟨_, hide rfl⟩
      obtain ⟨X, hX⟩ : ∃ X : Int, Hid (fullN N (B - E) = X) := ⟨_, hide rfl⟩
      rw [hC.out] at c1 hch
      rw [hX.out] at f0 f1
      obtain ⟨q0, q1⟩ := mul_bound (a := (C : Int)) (M := 20) (by omega) (by omega) f0 f1
      have hEh := hide hE
      clear hok hE
      go_enter Try.func20, Try.ntmps20
      go_wp2_with (first | (go_at_call 37; refine (HO.out).mono ?_; rintro e w' ⟨rfl, rfl⟩) | (go_at_call 43; (with_reducible refine (l1In_yes _ _ _ _ hEh.out).mono ?_); rintro e w' ⟨rfl, rfl⟩) | (go_at_call 44; (with_reducible refine (l7Choose_c _ _ _ (by omega)).mono ?_); rw [hch.out]; rintro e w' ⟨rfl, rfl⟩) | (go_at_call 38; refine (l8Full_c _ _ N (B - E) _ rfl (by omega) hN (by omega)).mono ?_; rw [hX.out]; rintro e w' ⟨rfl, rfl⟩))
      go_ret
      exact ⟨ret_int (by rw [he.out]; unfold emptyN; rw [hC.out, hX.out]), rfl⟩
    · have he := hide (show emptyW n b e = -1 from emptyW_out (by unfold emptyOk; rw [decide_eq_false hE, Bool.and_false]))
      have hE := hide hE
      clear hok
      go_enter Try.func20, Try.ntmps20
      go_wp2_with (first | (go_at_call 37; refine (HO.out).mono ?_; rintro e w' ⟨rfl, rfl⟩) | (go_at_call 43; (with_reducible refine (l1In_no _ _ _ _ hE.out).mono ?_); rintro e w' ⟨rfl, rfl⟩))
      go_ret
      exact ⟨ret_int he.out.symm, rfl⟩
  · have hok : fallOk n b = false := by simpa using hok
    rw [hok] at HO
    have he := hide (show emptyW n b e = -1 from emptyW_out (by unfold emptyOk; rw [hok, Bool.false_and]))
    clear hok
    go_enter Try.func20, Try.ntmps20
    go_wp2_with (go_at_call 37; refine (HO.out).mono ?_; rintro e w' ⟨rfl, rfl⟩)
    go_ret
    exact ⟨ret_int he.out.symm, rfl⟩

theorem fallN_box {B k : Nat} (hB : B ≤ 6) (hk : k ≤ 7) : fallN B k ≤ 300000 := (full_bound hk hB).2.2.1
set_option maxHeartbeats 800000 in
theorem apartWays_spec (n b : Int) (w : World) :
    Calls Try.prog 24 #[.int .i64 n, .int .i64 b] w fun e w' => e = .returned (.int .i64 (apartW n b)) ∧ w = w' := by
  have HO := hide (l8Ok_c n b w)
  by_cases hok : fallOk n b = true
  · rw [hok] at HO
    obtain ⟨N, B, rfl, rfl, hN, h1, h6⟩ := fallOk_yes hok
    have he := hide (apartW_in hN h1 h6)
    have HB := hide (fun (k : Nat) (hk : k ≤ 7) => fallN_box (B := B) h6 hk)
    have HS := hide (fun k => fallN_snoc B k)
    clear hok
    go_enter Try.func24, Try.ntmps24
    go_wp2_with (go_at_call 37; refine (HO.out).mono ?_; rintro e w' ⟨rfl, rfl⟩)
    go_loop [5, 6] (fun t i => ∃ k P : Nat, k ≤ N ∧ i = .int .i64 k ∧ t = .int .i64 P ∧ Hid (P = fallN B k)) (fun _ i => N - (intOf i).toNat)
    case atStart => exact ⟨0, 1, Nat.zero_le _, rfl, rfl, hide rfl⟩
    case round =>
      obtain ⟨k, P, hk, rfl, rfl, hP⟩ := hrel
      by_cases hlt : k < N
      · have b1 := HB.out k (by omega)
        have hst := hide (HS.out k)
        rw [← hP.out] at b1 hst
        by_cases hneg : (B : Int) - (k : Int) < 0
        · have hnx := hide (show ((P * 0 : Nat) : Int) = ((fallN B (k + 1) : Nat) : Int) by rw [hst.out, show B - k = 0 by omega])
          go_wp2
          go_round
          case rel => exact ⟨k + 1, P * 0, by omega, by go_num, by simp, by have := hnx.out; exact hide (by omega)⟩
          case measure => simp [intOf]; omega
        · obtain ⟨q0, q1⟩ := mul_bound (a := (P : Int)) (M := 300000) (by omega) (by omega) (b := (B : Int) - (k : Int)) (N := 6) (by omega) (by omega)
          have hnx := hide (show (P : Int) * ((B : Int) - (k : Int)) = ((P * (B - k) : Nat) : Int) by rw [Int.natCast_mul, Int.natCast_sub (by omega)])
          go_wp2
          go_round
          case rel => exact ⟨k + 1, P * (B - k), by omega, by go_num, by rw [hnx.out], hide hst.out.symm⟩
          case measure => simp [intOf]; omega
      · obtain rfl : k = N := by omega
        go_wp2
        go_ret
        exact ⟨ret_int (by rw [he.out, hP.out]), rfl⟩
  · have hok : fallOk n b = false := by simpa using hok
    rw [hok] at HO
    have he := hide (apartW_out hok)
    clear hok
    go_enter Try.func24, Try.ntmps24
    go_wp2_with (go_at_call 37; refine (HO.out).mono ?_; rintro e w' ⟨rfl, rfl⟩)
    go_ret
    exact ⟨ret_int he.out.symm, rfl⟩

theorem groupsOf_spec (n g : Int) (w : World) :
    Calls Try.prog 26 #[.int .i64 n, .int .i64 g] w fun e w' => e = .returned (.int .i64 (groupsW n g)) ∧ w = w' := by
  by_cases hn : 0 ≤ n ∧ n ≤ 7
  · by_cases hg : 0 ≤ g ∧ g ≤ 6
    · obtain ⟨N, K, rfl, rfl, hN, hK⟩ := groupsOk_yes (n := n) (g := g) (decide_eq_true (by omega))
      have he := hide (groupsW_in hN hK)
      have hn := hide hn
      have hg := hide hg
      go_enter Try.func26, Try.ntmps26
      go_wp2_with (first | (go_at_call 43; (first | (with_reducible refine (l1In_yes _ _ _ _ hn.out).mono ?_) | (with_reducible refine (l1In_yes _ _ _ _ hg.out).mono ?_)); rintro e w' ⟨rfl, rfl⟩) | (go_at_call 46; refine (l8Groups_c N K _ _ _ rfl rfl hN hK).mono ?_; rintro e w' ⟨rfl, rfl⟩))
      go_ret
      exact ⟨ret_int he.out.symm, rfl⟩
    · have he := hide (groupsW_out (n := n) (g := g) (decide_eq_false (by omega)))
      have hn := hide hn
      have hg := hide hg
      go_enter Try.func26, Try.ntmps26
      go_wp2_with (go_at_call 43; (first | (with_reducible refine (l1In_yes _ _ _ _ hn.out).mono ?_) | (with_reducible refine (l1In_no _ _ _ _ hg.out).mono ?_)); rintro e w' ⟨rfl, rfl⟩)
      go_ret
      exact ⟨ret_int he.out.symm, rfl⟩
  · have he := hide (groupsW_out (n := n) (g := g) (decide_eq_false (by omega)))
    have hn := hide hn
    go_enter Try.func26, Try.ntmps26
    go_wp2_with (go_at_call 43; (with_reducible refine (l1In_no _ _ _ _ hn.out).mono ?_); rintro e w' ⟨rfl, rfl⟩)
    go_ret
    exact ⟨ret_int he.out.symm, rfl⟩

set_option maxHeartbeats 800000 in
theorem waitWays_spec (n b : Int) (w : World) :
    Calls Try.prog 29 #[.int .i64 n, .int .i64 b] w fun e w' => e = .returned (.int .i64 (waitW n b)) ∧ w = w' := by
  have HO := hide (l8Ok_c n b w)
  by_cases hok : fallOk n b = true
  · rw [hok] at HO
    obtain ⟨N, B, rfl, rfl, hN, h1, h6⟩ := fallOk_yes hok
    have he := hide (waitW_in hN h1 h6)
    clear hok
    cases N with
    | zero =>
      go_enter Try.func29, Try.ntmps29
      go_wp2_with (go_at_call 37; refine (HO.out).mono ?_; rintro e w' ⟨rfl, rfl⟩)
      go_ret
      exact ⟨ret_int (by rw [he.out]; rfl), rfl⟩
    | succ N =>
      obtain ⟨n, hn⟩ : ∃ n : Int, n = ((N + 1 : Nat) : Int) := ⟨_, rfl⟩
      rw [← hn] at he HO ⊢
      have hn0 : (n == 0) = false := by simp; omega
      have hn1 : 1 ≤ n := by omega
      have hn7 : n ≤ 7 := by omega
      obtain ⟨f0, f1, _⟩ := full_bound (N := N + 1) (B := B) hN h6
      obtain ⟨g0, g1, _⟩ := full_bound (N := N) (B := B) (by omega) h6
      have H1 := hide (fun w => l8Full_c n (B : Int) (N + 1) B w hn rfl hN h6)
      have H2 := hide (fun w => l8Full_c (n - 1) (B : Int) N B w (by omega) rfl (by omega) h6)
      obtain ⟨X, hX⟩ : ∃ X : Int, Hid (fullN (N + 1) B = X) := ⟨_, hide rfl⟩
      obtain ⟨Y, hY⟩ : ∃ Y : Int, Hid (fullN N B = Y) := ⟨_, hide rfl⟩
      rw [hX.out] at f0 f1 H1
      rw [hY.out] at g0 g1 H2
      obtain ⟨q0, q1⟩ := mul_bound (a := (B : Int)) (M := 6) (by omega) (by omega) g0 g1
      clear hn
      go_enter Try.func29, Try.ntmps29
      go_wp2_with (first | (go_at_call 37; refine (HO.out).mono ?_; rintro e w' ⟨rfl, rfl⟩) | (go_at_call 38; (first | (with_reducible refine (H1.out _).mono ?_) | (with_reducible refine (H2.out _).mono ?_)); rintro e w' ⟨rfl, rfl⟩))
      go_ret
      exact ⟨ret_int (by rw [he.out]; unfold waitN; rw [if_neg (by omega), hX.out, show N + 1 - 1 = N by omega, hY.out]), rfl⟩
  · have hok : fallOk n b = false := by simpa using hok
    rw [hok] at HO
    have he := hide (waitW_out hok)
    clear hok
    go_enter Try.func29, Try.ntmps29
    go_wp2_with (go_at_call 37; refine (HO.out).mono ?_; rintro e w' ⟨rfl, rfl⟩)
    go_ret
    exact ⟨ret_int he.out.symm, rfl⟩

set_option maxHeartbeats 800000 in
theorem pairWays_spec (n b : Int) (w : World) :
    Calls Try.prog 32 #[.int .i64 n, .int .i64 b] w fun e w' => e = .returned (.int .i64 (pairW n b)) ∧ w = w' := by
  have HO := hide (l8Ok_c n b w)
  by_cases hok : fallOk n b = true
  · rw [hok] at HO
    obtain ⟨N, B, rfl, rfl, hN, h1, h6⟩ := fallOk_yes hok
    have he := hide (pairW_in hN h1 h6)
    have H1 := hide (fun w => l3PowerZ_c (B : Int) B N w rfl h6 hN)
    have H2 := hide (fun w => apartWays_spec (N : Int) (B : Int) w)
    rw [apartW_in hN h1 h6] at H2
    obtain ⟨_, _, a1, _, p1⟩ := full_bound (N := N) (B := B) hN h6
    obtain ⟨X, hX⟩ : ∃ X : Nat, Hid (B ^ N = X) := ⟨_, hide rfl⟩
    obtain ⟨Y, hY⟩ : ∃ Y : Nat, Hid (fallN B N = Y) := ⟨_, hide rfl⟩
    rw [hX.out] at p1 H1
    rw [hY.out] at a1 H2
    clear hok
    go_enter Try.func32, Try.ntmps32
    go_wp2_with (first | (go_at_call 37; refine (HO.out).mono ?_; rintro e w' ⟨rfl, rfl⟩) | (go_at_call 48; refine (H1.out _).mono ?_; rintro e w' ⟨rfl, rfl⟩) | (go_at_call 24; refine (H2.out _).mono ?_; rintro e w' ⟨rfl, rfl⟩))
    go_ret
    exact ⟨ret_int (by rw [he.out]; unfold pairN; rw [hX.out, hY.out]), rfl⟩
  · have hok : fallOk n b = false := by simpa using hok
    rw [hok] at HO
    have he := hide (pairW_out hok)
    clear hok
    go_enter Try.func32, Try.ntmps32
    go_wp2_with (go_at_call 37; refine (HO.out).mono ?_; rintro e w' ⟨rfl, rfl⟩)
    go_ret
    exact ⟨ret_int he.out.symm, rfl⟩
end Go.Proofs.Ytfencbfjnifmjaa
