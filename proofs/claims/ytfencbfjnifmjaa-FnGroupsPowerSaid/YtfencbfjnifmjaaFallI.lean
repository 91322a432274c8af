/-
  Contracts of chapter 8, the program's side: FullWays, EmptyWays, ApartWays, GroupsOf, WaitWays, PairWays.
-/
import Derived.Test.YtfencbfjnifmjaaFallS
import Derived.Test.YtfencbfjnifmjaaRoomI
import Derived.Test.YtfencbfjnifmjaaBoxI
import Derived.RegionTactic
namespace Go.Proofs.Ytfencbfjnifmjaa
open Go.RowKit
set_option linter.unusedVariables false

theorem ballsOk_c (m : Int) (w : World) :
    Calls Try.prog 40 #[.int .i64 m] w fun e w' => e = .returned (.bool (decide (0 ≤ m ∧ m ≤ 7))) ∧ w = w' := by
  by_cases h1 : 0 ≤ m
  · by_cases h6 : m ≤ 7
    · have hd := hide (decide_eq_true (show 0 ≤ m ∧ m ≤ 7 from ⟨h1, h6⟩))
      go_enter Try.func40, Try.ntmps40
      go_wp2
      go_ret
      exact ⟨ret_bool hd.out.symm, rfl⟩
    · have hd := hide (decide_eq_false (show ¬(0 ≤ m ∧ m ≤ 7) by omega))
      go_enter Try.func40, Try.ntmps40
      go_wp2
      go_ret
      exact ⟨ret_bool (by simp <;> omega), rfl⟩
  · have hd := hide (decide_eq_false (show ¬(0 ≤ m ∧ m ≤ 7) by omega))
    go_enter Try.func40, Try.ntmps40
    go_wp2
    go_ret
    exact ⟨ret_bool (by simp <;> omega), rfl⟩
theorem ballsOk_yes (m : Int) (w : World) (h : 0 ≤ m ∧ m ≤ 7) : Calls Try.prog 40 #[.int .i64 m] w fun e w' => e = .returned (.bool true) ∧ w = w' := by
  have := ballsOk_c m w
  rwa [decide_eq_true h] at this
theorem ballsOk_no (m : Int) (w : World) (h : ¬(0 ≤ m ∧ m ≤ 7)) : Calls Try.prog 40 #[.int .i64 m] w fun e w' => e = .returned (.bool false) ∧ w = w' := by
  have := ballsOk_c m w
  rwa [decide_eq_false h] at this
theorem fallsOk_c (n b : Int) (w : World) :
    Calls Try.prog 35 #[.int .i64 n, .int .i64 b] w fun e w' => e = .returned (.bool (fallOk n b)) ∧ w = w' := by
  by_cases hn : 0 ≤ n ∧ n ≤ 7
  · have HB := hide (ballsOk_yes n w hn)
    by_cases h1 : 1 ≤ b
    · by_cases h6 : b ≤ 6
      · have he := hide (show fallOk n b = true from decide_eq_true (by omega))
        clear hn
        go_enter Try.func35, Try.ntmps35
        go_wp2_with fail
        refine HB.out.mono ?_
        rintro e w' ⟨rfl, rfl⟩
        go_wp2_with fail
        go_ret
        exact ⟨ret_bool (by rw [he.out]), rfl⟩
      · have he := hide (fallOk_no (n := n) (b := b) (.inr (by omega)))
        clear hn
        go_enter Try.func35, Try.ntmps35
        go_wp2_with fail
        refine HB.out.mono ?_
        rintro e w' ⟨rfl, rfl⟩
        go_wp2_with fail
        go_ret
        exact ⟨ret_bool (by rw [he.out]; exact decide_eq_false (by omega)), rfl⟩
    · have he := hide (fallOk_no (n := n) (b := b) (.inr (by omega)))
      clear hn
      go_enter Try.func35, Try.ntmps35
      go_wp2_with fail
      refine HB.out.mono ?_
      rintro e w' ⟨rfl, rfl⟩
      go_wp2_with fail
      go_ret
      exact ⟨ret_bool (by rw [he.out]), rfl⟩
  · have HB := hide (ballsOk_no n w hn)
    have he := hide (fallOk_no (n := n) (b := b) (.inl hn))
    clear hn
    go_enter Try.func35, Try.ntmps35
    go_wp2_with fail
    refine HB.out.mono ?_
    rintro e w' ⟨rfl, rfl⟩
    go_wp2_with fail
    go_ret
    exact ⟨ret_bool (by rw [he.out]), rfl⟩
theorem fallsOk_in {n b : Int} {v : Bool} (h : fallOk n b = v) (w : World) : Calls Try.prog 35 #[.int .i64 n, .int .i64 b] w fun e w' => e = .returned (.bool v) ∧ w = w' := by
  have := fallsOk_c n b w
  rwa [h] at this

set_option maxHeartbeats 400000 in
theorem powerB_c (z n : Int) (b m : Nat) (w : World) (hz : z = (b : Int)) (hn : n = (m : Int)) (hb : b ≤ 6) (hm : m ≤ 7) :
    Calls Try.prog 47 #[.int .i64 z, .int .i64 n] w fun e w' => e = .returned (.int .i64 ((b ^ m : Nat) : Int)) ∧ w = w' := by
  subst hz
  subst hn
  have HB := hide (fun k (hk : k ≤ m) => pow_box (m := k) hb (by omega))
  have HS := hide (fun k => Nat.pow_succ (n := b) (m := k))
  go_enter Try.func47, Try.ntmps47
  go_wp2
  go_loop [5, 7] (fun t i => ∃ k P : Nat, k ≤ m ∧ i = .int .i64 k ∧ t = .int .i64 P ∧ Hid (P = b ^ k)) (fun _ i => m - (intOf i).toNat)
  case atStart => exact ⟨0, 1, Nat.zero_le _, rfl, rfl, hide (by simp)⟩
  case round =>
    obtain ⟨k, P, hk, rfl, rfl, hP⟩ := hrel
    by_cases hlt : k < m
    · have b1 := HB.out k (by omega)
      have hst := hide (HS.out k)
      rw [← hP.out] at b1 hst
      obtain ⟨q1, q2⟩ := mul_bound (a := (P : Int)) (M := 279936) (by omega) (by omega) (b := (b : Int)) (by omega) (show (b : Int) ≤ 6 by omega)
      go_wp2
      go_round
      case rel => exact ⟨k + 1, P * b, by omega, by go_num, by rw [Int.natCast_mul], hst.out.symm⟩
      case measure => simp [intOf]; omega
    · obtain rfl : k = m := by omega
      go_wp2
      go_ret
      exact ⟨ret_int (by rw [hP.out]; exact Int.natCast_pow _ _), rfl⟩

theorem full_turn {N B k : Nat} (hk : k < B + 1) (h6 : B ≤ 6) : fullAt N B k = (if k % 2 = 1 then -1 else 1) * (chooseN B k : Int) * (((B - k) ^ N : Nat) : Int) := by
  unfold fullAt
  split
  · rw [Int.natCast_mul, Int.neg_mul, Int.one_mul, Int.neg_mul]
  · rw [Int.natCast_mul, Int.one_mul]
set_option maxHeartbeats 1600000 in
theorem filling_c (n b : Int) (N B : Nat) (w : World) (hn : n = (N : Int)) (hb : b = (B : Int)) (hN : N ≤ 7) (hB : B ≤ 6) :
    Calls Try.prog 36 #[.int .i64 n, .int .i64 b] w fun e w' => e = .returned (.int .i64 (fullN N B)) ∧ Below w.heap.size w w' := by
  subst hn
  subst hb
  have HC := hide (choicesRow_c B w hB)
  have HB := hide (fun (k : Nat) (hk : k ≤ B + 1) => full_part (N := N) (B := B) (k := k) hN hB hk)
  have HS := hide (fun (k : Nat) => show fullTo N B (k + 1) = fullTo N B k + fullAt N B k from rfl)
  have HT := hide (fun (k : Nat) (hk : k < B + 1) => full_turn (N := N) hk hB)
  have he := hide (show fullN N B = fullTo N B (B + 1) from rfl)
  rw [he.out]
  go_enter Try.func36, Try.ntmps36
  go_wp2_with fail
  refine HC.out.mono ?_
  rintro e w1 ⟨A, nn, c, rfl, ho, hq⟩
  have hnn : nn = B + 1 := by have := ho.len; rwa [restL_len] at this
  subst hnn
  have hi1 := hide ho.ints
  have hq := hide hq
  clear ho HC
  go_wp2_with fail
  go_loop [5, 6, 12] (fun t s i => ∃ k : Nat, ∃ Z S : Int, k ≤ B + 1 ∧ i = .int .i64 k ∧ t = .int .i64 Z ∧ s = .int .i64 S ∧ Hid (Z = fullTo N B k) ∧ Hid (S = if k % 2 = 1 then -1 else 1)) (fun _ _ i => B + 1 - (intOf i).toNat)
  case atStart => exact ⟨0, 0, 1, Nat.zero_le _, rfl, rfl, rfl, hide rfl, hide rfl⟩
  case round =>
    obtain ⟨k, Z, S, hk, rfl, rfl, rfl, hZ, hS⟩ := hrel
    by_cases hlt : k < B + 1
    · obtain ⟨g, off, x, rfl, hbB, hx, hcell⟩ := hi1.out.look hlt
      have hxe : x = (chooseN B k : Int) := by
        have := hx.out
        rw [restL_at hlt] at this
        injection this with this
        exact this.symm
      subst hxe
      clear hx
      obtain ⟨z0, z1, c1, p1, m1⟩ := HB.out k hk
      rw [← hZ.out] at z0 z1
      have hst := hide (HS.out k)
      have htn := hide (HT.out k hlt)
      rw [← hZ.out, htn.out, ← hS.out] at hst
      have HP := hide (fun w => powerB_c ((B : Int) - (k : Int)) (N : Int) (B - k) N w (by omega) rfl (by omega) hN)
      obtain ⟨C, hC⟩ : ∃ C : Nat, Hid (chooseN B k = C) := ⟨_, hide rfl⟩
      obtain ⟨P, hP⟩ : ∃ P : Nat, Hid ((B - k) ^ N = P) := ⟨_, hide rfl⟩
      rw [hC.out] at c1 m1 hst hcell
      rw [hP.out] at p1 m1 hst HP
      have hm0 : 0 ≤ (C : Int) * (P : Int) ∧ (C : Int) * (P : Int) ≤ 2000000 := by
        rw [← Int.natCast_mul]; omega
      have hS1 : S = 1 ∨ S = -1 := by
        rw [hS.out]; split
        · exact .inr rfl
        · exact .inl rfl
      have hSn := hide (show -S = if (k + 1) % 2 = 1 then -1 else 1 by
        rw [hS.out]
        rcases Nat.mod_two_eq_zero_or_one k with h | h
        · rw [if_neg (by omega), if_pos (by omega)]
        · rw [if_pos (by omega), if_neg (by omega)]; rfl)
      have hSC : -20 ≤ S * (C : Int) ∧ S * (C : Int) ≤ 20 := by
        rcases hS1 with h | h <;> subst h <;> omega
      have hSP : -2000000 ≤ S * (C : Int) * (P : Int) ∧ S * (C : Int) * (P : Int) ≤ 2000000 := by
        rcases hS1 with h | h <;> subst h
        · rw [Int.one_mul]; omega
        · rw [Int.neg_mul, Int.one_mul, Int.neg_mul]; omega
      obtain ⟨q0, q1⟩ := hSC
      obtain ⟨r0, r1⟩ := hSP
      have hs0 : -1 ≤ S ∧ S ≤ 1 := by omega
      obtain ⟨s0, s1⟩ := hs0
      clear hS1 hm0 htn hS
      go_wp2_with (go_at_call 47; (with_reducible refine (HP.out _).mono ?_); rintro e w' ⟨rfl, rfl⟩)
      go_round
      case rel => exact ⟨k + 1, _, _, by omega, by go_num, rfl, rfl, hide hst.out.symm, hSn⟩
      case measure => simp [intOf]; omega
    · obtain rfl : k = B + 1 := by omega
      go_wp2
      go_ret
      exact ⟨ret_int hZ.out, hq.out⟩

theorem fullWays_impl (n b : Int) (w : World) (wf0 : (Lit.int .i64 n).wf = true) (wf1 : (Lit.int .i64 b).wf = true) :
    Calls Try.prog 13 #[.int .i64 n, .int .i64 b] w fun e w' => e = .returned (.int .i64 (fullW n b)) ∧ Below w.heap.size w w' := by
  by_cases hok : fallOk n b = true
  · have HO := hide (fallsOk_in hok w)
    obtain ⟨N, B, rfl, rfl, hN, h1, h6⟩ := fallOk_yes hok
    have he := hide (fullW_in hN h1 h6)
    have HF := hide (filling_c _ _ N B w rfl rfl hN h6)
    clear hok
    go_enter Try.func13, Try.ntmps13
    go_wp2_with fail
    refine HO.out.mono ?_
    rintro e w' ⟨rfl, rfl⟩
    go_wp2_with fail
    refine HF.out.mono ?_
    rintro e w2 ⟨rfl, hq⟩
    go_wp2_with fail
    go_ret
    exact ⟨ret_int he.out.symm, hq⟩
  · have hok : fallOk n b = false := by simpa using hok
    have HO := hide (fallsOk_in hok w)
    have he := hide (fullW_out hok)
    clear hok
    go_enter Try.func13, Try.ntmps13
    go_wp2_with fail
    refine HO.out.mono ?_
    rintro e w' ⟨rfl, rfl⟩
    go_wp2_with fail
    go_ret
    exact ⟨ret_int he.out.symm, Below.refl _ _⟩

set_option maxHeartbeats 1600000 in
theorem emptyWays_impl (n b e : Int) (w : World) (wf0 : (Lit.int .i64 n).wf = true) (wf1 : (Lit.int .i64 b).wf = true) (wf2 : (Lit.int .i64 e).wf = true) :
    Calls Try.prog 19 #[.int .i64 n, .int .i64 b, .int .i64 e] w fun e' w' => e' = .returned (.int .i64 (emptyW n b e)) ∧ Below w.heap.size w w' := by
  by_cases hok : fallOk n b = true
  · have HO := hide (fallsOk_in hok w)
    by_cases h0 : 0 ≤ e
    · by_cases hE : e ≤ b
      · obtain ⟨N, B, rfl, rfl, hN, h1, h6⟩ := fallOk_yes hok
        obtain ⟨E, rfl⟩ : ∃ E : Nat, e = (E : Int) := ⟨e.toNat, by omega⟩
        have hEB : E ≤ B := by omega
        have he := hide (emptyW_in hN h1 h6 hEB)
        obtain ⟨_, _, c1, _, _⟩ := full_part (N := N) (B := B) (k := E) hN h6 (by omega)
        obtain ⟨f0, f1, _⟩ := full_bound (N := N) (B := B - E) hN (by omega)
        have HC := hide (fun (W : World) (hq : Below w.heap.size w W) => show Calls Try.prog 42 #[.int .i64 (B : Int)] W (fun e w' => ∃ g c, e = .returned (.slice (some ⟨g, 0, none⟩) (B + 1) c) ∧ B + 1 ≤ c ∧ g < w'.heap.size ∧ w'.cell? ⟨g, E, none⟩ = some (.int .i64 (chooseN B E : Int)) ∧ Below w.heap.size w w') from
          (choicesRow_c B W h6).mono fun e w' ⟨A, nn, c, e1, ho, hq'⟩ => by
            have hnn : nn = B + 1 := by have := ho.len; rwa [restL_len] at this
            subst hnn
            obtain ⟨g, hA, hg, hgl, hcy, hfy⟩ := ho.at2 (restL_at (show E < B + 1 by omega))
            subst hA
            exact ⟨g, c, e1, ho.ints.le, hgl, hcy, upB hq hq'⟩)
        have HF := hide (fun (g : Nat) (v : Value) (W : World) (hc : W.cell? ⟨g, E, none⟩ = some v) (hg : g < W.heap.size) (hq : Below w.heap.size w W) => show Calls Try.prog 36 #[.int .i64 (N : Int), .int .i64 ((B : Int) - (E : Int))] W (fun e w' => e = .returned (.int .i64 (fullN N (B - E))) ∧ w'.cell? ⟨g, E, none⟩ = some v ∧ Below w.heap.size w w') from
          (filling_c _ _ N (B - E) W rfl (by omega) hN (by omega)).mono fun e w' ⟨e1, hq'⟩ => ⟨e1, (hq'.cell (p := ⟨g, E, none⟩) hg).trans hc, upB hq hq'⟩)
        obtain ⟨C, hC⟩ : ∃ C : Nat, Hid (chooseN B E = C) := ⟨_, hide rfl⟩
        obtain ⟨X, hX⟩ : ∃ X : Int, Hid (fullN N (B - E) = X) := ⟨_, hide rfl⟩
        rw [hC.out] at c1 HC
        rw [hX.out] at f0 f1 HF
        obtain ⟨q0, q1⟩ := mul_bound (a := (C : Int)) (M := 20) (by omega) (by omega) f0 f1
        have hw2 : IntKind.i64.wrap ((B : Int) - (E : Int)) = (B : Int) - (E : Int) := IntWalk.i64_in _ (by omega)
        have hw1 : IntKind.i64.wrap ((C : Int) * X) = (C : Int) * X := IntWalk.i64_in _ (by omega)
        have hfin := hide (show (C : Int) * X = emptyW (N : Int) (B : Int) (E : Int) by rw [he.out]; unfold emptyN; rw [hC.out, hX.out])
        clear hok
        go_enter Try.func19, Try.ntmps19
        go_wp2_with fail
        refine HO.out.mono ?_
        rintro e w' ⟨rfl, rfl⟩
        go_wp2_with fail
        go_region_with (first | (go_at_call 42; (with_reducible refine (HC.out _ ?_).mono ?_); (focus (repeat (first | assumption | exact Below.refl _ _ | refine Below.drew ?_)); done); rintro e w' ⟨g, c, rfl, hc1, hg, hce, hq⟩) | (go_at_call 36; (with_reducible refine (HF.out _ _ _ hce hg ?_).mono ?_); (focus (repeat (first | assumption | exact Below.refl _ _ | refine Below.drew ?_)); done); rintro e w' ⟨rfl, hce2, hq⟩))
        all_goals
          go_wp2_with fail
          go_ret
          exact ⟨ret_int hfin.out, by assumption⟩
      · have he := hide (show emptyW n b e = -1 from emptyW_out (by unfold emptyOk; rw [decide_eq_false (by omega), Bool.and_false]))
        clear hok
        go_enter Try.func19, Try.ntmps19
        go_wp2_with fail
        refine HO.out.mono ?_
        rintro e w' ⟨rfl, rfl⟩
        go_wp2_with fail
        go_ret
        exact ⟨ret_int he.out.symm, Below.refl _ _⟩
    · have he := hide (show emptyW n b e = -1 from emptyW_out (by unfold emptyOk; rw [decide_eq_false (by omega), Bool.and_false]))
      clear hok
      go_enter Try.func19, Try.ntmps19
      go_wp2_with fail
      refine HO.out.mono ?_
      rintro e w' ⟨rfl, rfl⟩
      go_wp2_with fail
      go_ret
      exact ⟨ret_int he.out.symm, Below.refl _ _⟩
  · have hok : fallOk n b = false := by simpa using hok
    have HO := hide (fallsOk_in hok w)
    have he := hide (show emptyW n b e = -1 from emptyW_out (by unfold emptyOk; rw [hok, Bool.false_and]))
    clear hok
    go_enter Try.func19, Try.ntmps19
    go_wp2_with fail
    refine HO.out.mono ?_
    rintro e w' ⟨rfl, rfl⟩
    go_wp2_with fail
    go_ret
    exact ⟨ret_int he.out.symm, Below.refl _ _⟩

theorem apartWays_impl0 (n b : Int) (w : World) :
    Calls Try.prog 23 #[.int .i64 n, .int .i64 b] w fun e w' => e = .returned (.int .i64 (apartW n b)) ∧ w = w' := by
  by_cases hok : fallOk n b = true
  · have HO := hide (fallsOk_in hok w)
    obtain ⟨N, B, rfl, rfl, hN, h1, h6⟩ := fallOk_yes hok
    have he := hide (apartW_in hN h1 h6)
    have HF := hide (stepB_c B N w (by omega) (by omega))
    clear hok
    go_enter Try.func23, Try.ntmps23
    go_wp2_with fail
    refine HO.out.mono ?_
    rintro e w' ⟨rfl, rfl⟩
    go_wp2_with fail
    refine HF.out.mono ?_
    rintro e w2 ⟨rfl, rfl⟩
    go_wp2_with fail
    go_ret
    exact ⟨ret_int he.out.symm, rfl⟩
  · have hok : fallOk n b = false := by simpa using hok
    have HO := hide (fallsOk_in hok w)
    have he := hide (apartW_out hok)
    clear hok
    go_enter Try.func23, Try.ntmps23
    go_wp2_with fail
    refine HO.out.mono ?_
    rintro e w' ⟨rfl, rfl⟩
    go_wp2_with fail
    go_ret
    exact ⟨ret_int he.out.symm, rfl⟩
theorem apartWays_impl (n b : Int) (w : World) (wf0 : (Lit.int .i64 n).wf = true) (wf1 : (Lit.int .i64 b).wf = true) :
    Calls Try.prog 23 #[.int .i64 n, .int .i64 b] w fun e w' => e = .returned (.int .i64 (apartW n b)) ∧ Below w.heap.size w w' := sameB (apartWays_impl0 n b w)

set_option maxHeartbeats 1600000 in
theorem groupsI_c (N : Nat) : ∀ (K : Nat) (n k : Int) (w : World), n = (N : Int) → k = (K : Int) → N ≤ 7 → K ≤ 6 →
    Calls Try.prog 16 #[.int .i64 n, .int .i64 k] w fun e w' => e = .returned (.int .i64 (groupsN N K : Int)) ∧ w = w' := by
  induction N with
  | zero =>
    intro K n k w hn hk hN hK
    subst hn
    subst hk
    have HO := hide (ballsOk_yes ((0 : Nat) : Int) w (by decide))
    cases K with
    | zero =>
      go_enter Try.func16, Try.ntmps16
      go_wp2_with fail
      refine HO.out.mono ?_
      rintro e w' ⟨rfl, rfl⟩
      go_wp2_with fail
      go_ret
      exact ⟨rfl, rfl⟩
    | succ K =>
      obtain ⟨k, hk⟩ : ∃ k : Int, k = ((K + 1 : Nat) : Int) := ⟨_, rfl⟩
      rw [← hk]
      have h0 : ¬ k < 0 := by omega
      have h6 : k ≤ 6 := by omega
      have hk0 : (k == 0) = false := by simp; omega
      clear hk
      go_enter Try.func16, Try.ntmps16
      go_wp2_with fail
      refine HO.out.mono ?_
      rintro e w' ⟨rfl, rfl⟩
      go_wp2_with fail
      go_ret
      exact ⟨rfl, rfl⟩
  | succ N ih =>
    intro K n k w hn hk hN hK
    have HO := hide (ballsOk_yes n w (by omega))
    have hn0 : (n == 0) = false := by simp; omega
    have hn1 : 1 ≤ n := by omega
    have hn7 : n ≤ 7 := by omega
    cases K with
    | zero =>
      obtain rfl : k = 0 := hk
      clear hn
      go_enter Try.func16, Try.ntmps16
      go_wp2_with fail
      refine HO.out.mono ?_
      rintro e w' ⟨rfl, rfl⟩
      go_wp2_with fail
      go_ret
      exact ⟨rfl, rfl⟩
    | succ K =>
      have hk0 : (k == 0) = false := by simp; omega
      have h1 := (full_bound (N := N) (B := K + 1) (by omega) hK).2.2.2.1
      have h2 := (full_bound (N := N) (B := K) (by omega) (by omega)).2.2.2.1
      have he := hide (show groupsN (N + 1) (K + 1) = (K + 1) * groupsN N (K + 1) + groupsN N K from rfl)
      have H1 := hide (fun w => ih (K + 1) (n - 1) k w (by omega) hk (by omega) hK)
      have H2 := hide (fun w => ih K (n - 1) (k - 1) w (by omega) (by omega) (by omega) (by omega))
      obtain ⟨X, hX⟩ : ∃ X : Nat, Hid (groupsN N (K + 1) = X) := ⟨_, hide rfl⟩
      obtain ⟨Y, hY⟩ : ∃ Y : Nat, Hid (groupsN N K = Y) := ⟨_, hide rfl⟩
      rw [hX.out] at h1 H1 he
      rw [hY.out] at h2 H2 he
      have hk1 : 1 ≤ k := by omega
      have hk6 : k ≤ 6 := by omega
      obtain ⟨q0, q1⟩ := mul_bound (a := k) (M := 6) (by omega) (by omega) (b := (X : Int)) (N := 2000) (by omega) (by omega)
      have hfin := hide (show k * (X : Int) + (Y : Int) = (groupsN (N + 1) (K + 1) : Int) by
        rw [he.out, Int.natCast_add, Int.natCast_mul, hk])
      clear hn hk ih
      go_enter Try.func16, Try.ntmps16
      go_wp2_with fail
      refine HO.out.mono ?_
      rintro e w' ⟨rfl, rfl⟩
      go_wp2_with (go_at_call 16; (first | (with_reducible refine (H1.out _).mono ?_) | (with_reducible refine (H2.out _).mono ?_)); rintro e w' ⟨rfl, rfl⟩)
      go_ret
      exact ⟨ret_int hfin.out, rfl⟩
theorem groupsOf_impl (n g : Int) (w : World) (wf0 : (Lit.int .i64 n).wf = true) (wf1 : (Lit.int .i64 g).wf = true) :
    Calls Try.prog 16 #[.int .i64 n, .int .i64 g] w fun e w' => e = .returned (.int .i64 (groupsW n g)) ∧ Below w.heap.size w w' := by
  by_cases hok : groupsOk n g = true
  · obtain ⟨N, K, rfl, rfl, hN, hK⟩ := groupsOk_yes hok
    rw [groupsW_in hN hK]
    exact sameB (groupsI_c N K _ _ w rfl rfl hN hK)
  · have hok : groupsOk n g = false := by simpa using hok
    have he := hide (groupsW_out hok)
    have hno := of_decide_eq_false hok
    apply sameB
    by_cases hn : 0 ≤ n ∧ n ≤ 7
    · have HO := hide (ballsOk_yes n w hn)
      by_cases h0 : g < 0
      · clear hok hno hn
        go_enter Try.func16, Try.ntmps16
        go_wp2_with fail
        refine HO.out.mono ?_
        rintro e w' ⟨rfl, rfl⟩
        go_wp2_with fail
        go_ret
        exact ⟨ret_int he.out.symm, rfl⟩
      · have h6 : 6 < g := by omega
        clear hok hno hn
        go_enter Try.func16, Try.ntmps16
        go_wp2_with fail
        refine HO.out.mono ?_
        rintro e w' ⟨rfl, rfl⟩
        go_wp2_with fail
        go_ret
        exact ⟨ret_int he.out.symm, rfl⟩
    · have HO := hide (ballsOk_no n w hn)
      clear hok hno hn
      go_enter Try.func16, Try.ntmps16
      go_wp2_with fail
      refine HO.out.mono ?_
      rintro e w' ⟨rfl, rfl⟩
      go_wp2_with fail
      go_ret
      exact ⟨ret_int he.out.symm, rfl⟩

theorem wait_cnt : allFall (fun N B => Nat.beq N 0 || Nat.beq B 0 || decide (waitN N B = (B : Int) * fullN (N - 1) (B - 1))) = true := by kernel_rfl
theorem wait_less {N B : Nat} (hN : N ≤ 7) (h6 : B ≤ 6) (hn : 1 ≤ N) (h1 : 1 ≤ B) : waitN N B = (B : Int) * fullN (N - 1) (B - 1) := by
  have h := allFall_at wait_cnt hN h6
  have h := h
  rcases Bool.or_eq_true_iff.1 h with h | h
  · rcases Bool.or_eq_true_iff.1 h with h | h
    · have := Nat.eq_of_beq_eq_true h; omega
    · have := Nat.eq_of_beq_eq_true h; omega
  · exact of_decide_eq_true h
set_option maxHeartbeats 800000 in
theorem waitWays_impl (n b : Int) (w : World) (wf0 : (Lit.int .i64 n).wf = true) (wf1 : (Lit.int .i64 b).wf = true) :
    Calls Try.prog 28 #[.int .i64 n, .int .i64 b] w fun e w' => e = .returned (.int .i64 (waitW n b)) ∧ Below w.heap.size w w' := by
  by_cases hok : fallOk n b = true
  · have HO := hide (fallsOk_in hok w)
    obtain ⟨N, B, rfl, rfl, hN, h1, h6⟩ := fallOk_yes hok
    have he := hide (waitW_in hN h1 h6)
    by_cases hn1 : 1 ≤ N
    · have HF := hide (filling_c ((N : Int) - 1) ((B : Int) - 1) (N - 1) (B - 1) w (by omega) (by omega) (by omega) (by omega))
      have hl := hide (wait_less hN h6 hn1 h1)
      obtain ⟨f0, f1, _⟩ := full_bound (N := N - 1) (B := B - 1) (by omega) (by omega)
      obtain ⟨X, hX⟩ : ∃ X : Int, Hid (fullN (N - 1) (B - 1) = X) := ⟨_, hide rfl⟩
      rw [hX.out] at f0 f1 HF hl
      obtain ⟨q0, q1⟩ := mul_bound (a := (B : Int)) (M := 6) (by omega) (by omega) f0 f1
      clear hok
      go_enter Try.func28, Try.ntmps28
      go_wp2_with fail
      refine HO.out.mono ?_
      rintro e w' ⟨rfl, rfl⟩
      go_wp2_with fail
      refine HF.out.mono ?_
      rintro e w2 ⟨rfl, hq⟩
      go_wp2_with fail
      go_ret
      exact ⟨ret_int (by rw [he.out, hl.out]), hq⟩
    · obtain rfl : N = 0 := by omega
      clear hok
      go_enter Try.func28, Try.ntmps28
      go_wp2_with fail
      refine HO.out.mono ?_
      rintro e w' ⟨rfl, rfl⟩
      go_wp2_with fail
      go_ret
      exact ⟨ret_int (by rw [he.out]; rfl), Below.refl _ _⟩
  · have hok : fallOk n b = false := by simpa using hok
    have HO := hide (fallsOk_in hok w)
    have he := hide (waitW_out hok)
    clear hok
    go_enter Try.func28, Try.ntmps28
    go_wp2_with fail
    refine HO.out.mono ?_
    rintro e w' ⟨rfl, rfl⟩
    go_wp2_with fail
    go_ret
    exact ⟨ret_int he.out.symm, Below.refl _ _⟩

set_option maxHeartbeats 800000 in
theorem pairWays_impl (n b : Int) (w : World) (wf0 : (Lit.int .i64 n).wf = true) (wf1 : (Lit.int .i64 b).wf = true) :
    Calls Try.prog 31 #[.int .i64 n, .int .i64 b] w fun e w' => e = .returned (.int .i64 (pairW n b)) ∧ Below w.heap.size w w' := by
  apply sameB
  by_cases hok : fallOk n b = true
  · have HO := hide (fallsOk_in hok w)
    have HA := hide (apartWays_impl0 n b w)
    obtain ⟨N, B, rfl, rfl, hN, h1, h6⟩ := fallOk_yes hok
    have he := hide (pairW_in hN h1 h6)
    have hp := hide (show pairN N B = ((B ^ N : Nat) : Int) - (fallN B N : Int) from rfl)
    rw [apartW_in hN h1 h6] at HA
    have HP := hide (powerB_c (B : Int) (N : Int) B N w rfl rfl h6 hN)
    obtain ⟨_, _, b1, _, b2⟩ := full_bound (N := N) (B := B) hN h6
    obtain ⟨P, hP⟩ : ∃ P : Nat, Hid (B ^ N = P) := ⟨_, hide rfl⟩
    obtain ⟨F, hF⟩ : ∃ F : Nat, Hid (fallN B N = F) := ⟨_, hide rfl⟩
    rw [hP.out] at b2 HP hp
    rw [hF.out] at b1 HA hp
    clear hok
    go_enter Try.func31, Try.ntmps31
    go_wp2_with fail
    refine HO.out.mono ?_
    rintro e w' ⟨rfl, rfl⟩
    go_wp2_with fail
    refine HP.out.mono ?_
    rintro e w' ⟨rfl, rfl⟩
    go_wp2_with fail
    refine HA.out.mono ?_
    rintro e w' ⟨rfl, rfl⟩
    go_wp2_with fail
    go_ret
    exact ⟨ret_int (by rw [he.out, hp.out]), rfl⟩
  · have hok : fallOk n b = false := by simpa using hok
    have HO := hide (fallsOk_in hok w)
    have he := hide (pairW_out hok)
    clear hok
    go_enter Try.func31, Try.ntmps31
    go_wp2_with fail
    refine HO.out.mono ?_
    rintro e w' ⟨rfl, rfl⟩
    go_wp2_with fail
    go_ret
    exact ⟨ret_int he.out.symm, rfl⟩
end Go.Proofs.Ytfencbfjnifmjaa
