/-
  Contracts of chapter 2, the program's side: WordOk, CountRowOk, AllWays, SameApart.
-/
import Derived.Test.YtaocbiocpklbmaaTotalI
import Derived.Test.YtaocbiocpklbmaaPlainS
namespace Go.Proofs.Ytaocbiocpklbmaa
open Go.RowKit

theorem coloursOk_c (a : Int) (w : World) : Calls Try.prog 59 #[.int .i64 a] w fun e w' => e = .returned (.bool (decide (1 ≤ a ∧ a ≤ 3))) ∧ w = w' := by
  by_cases h1 : 1 ≤ a
  · by_cases h2 : a ≤ 3
    · go_enter Try.func59, Try.ntmps59
      go_wp2
      go_ret
      exact ⟨ret_bool (by simp; omega), rfl⟩
    · go_enter Try.func59, Try.ntmps59
      go_wp2
      go_ret
      exact ⟨ret_bool (by simp; omega), rfl⟩
  · go_enter Try.func59, Try.ntmps59
    go_wp2
    go_ret
    exact ⟨ret_bool (by simp; omega), rfl⟩

theorem drawsOk_c (a : Int) (w : World) : Calls Try.prog 41 #[.int .i64 a] w fun e w' => e = .returned (.bool (decide (0 ≤ a ∧ a ≤ 6))) ∧ w = w' := by
  by_cases h1 : 0 ≤ a
  · by_cases h2 : a ≤ 6
    · go_enter Try.func41, Try.ntmps41
      go_wp2
      go_ret
      exact ⟨ret_bool (by simp; omega), rfl⟩
    · go_enter Try.func41, Try.ntmps41
      go_wp2
      go_ret
      exact ⟨ret_bool (by simp; omega), rfl⟩
  · go_enter Try.func41, Try.ntmps41
    go_wp2
    go_ret
    exact ⟨ret_bool (by simp; omega), rfl⟩

set_option maxHeartbeats 800000 in
theorem wordOk_impl0 (cl : Int) (A : Option Addr) (n c B : Nat) (ws : List Int) (w : World) (h : Ints w B A n c ws) :
    Calls Try.prog 36 #[.int .i64 cl, .slice A n c] w fun e w' => e = .returned (.bool (wordOk cl ws)) ∧ w = w' := by
  have hl := hide h.len
  have hn := h.nb
  have HC := hide (fun w => coloursOk_c cl w)
  by_cases hc : 1 ≤ cl ∧ cl ≤ 3
  · have hd := decide_eq_true hc
    rw [hd] at HC
    have hc := hide hc
    by_cases h6 : 6 < n
    · have hy := hide (wordOk_size (c := cl) (ws := ws) (.inr (.inr (by have := hl.out; omega))))
      go_enter Try.func36, Try.ntmps36
      go_wp2_with (go_at_call 59; refine (HC.out _).mono ?_; rintro e w' ⟨rfl, rfl⟩)
      go_ret
      exact ⟨ret_bool hy.out.symm, rfl⟩
    · go_enter Try.func36, Try.ntmps36
      go_wp2_with (go_at_call 59; refine (HC.out _).mono ?_; rintro e w' ⟨rfl, rfl⟩)
      go_loop [17] (fun i => ∃ k : Nat, k ≤ n ∧ i = .int .i64 k ∧ Hid (∀ j x, j < k → ws[j]? = some x → 0 ≤ x ∧ x < cl)) (fun i => n - (intOf i).toNat)
      case atStart => exact ⟨0, Nat.zero_le _, rfl, fun j x hj _ => absurd hj (by omega)⟩
      case round =>
        obtain ⟨k, hk, rfl, hall⟩ := hrel
        by_cases hlt : k < n
        · obtain ⟨b, off, x, rfl, hb, hx, hcell⟩ := h.look hlt
          by_cases hx0 : x < 0
          · go_wp2
            go_ret
            exact ⟨ret_bool (wordOk_bad hx.out (.inl hx0)).symm, rfl⟩
          · by_cases hx1 : cl ≤ x
            · go_wp2
              go_ret
              exact ⟨ret_bool (wordOk_bad hx.out (.inr hx1)).symm, rfl⟩
            · go_wp2
              go_round
              case rel => exact ⟨k + 1, by omega, by go_num, fun j y hj hy => by
                rcases Nat.lt_or_ge j k with hjk | hjk
                · exact hall.out j y hjk hy
                · obtain rfl : j = k := by omega
                  rw [hx.out] at hy; injection hy with hy; omega⟩
              case measure => simp [intOf]; omega
        · have hy := hide (wordOk_mk hc.out.1 hc.out.2 (by have := hl.out; omega) (fun j x (hj : j < ws.length) hx => hall.out j x (by have := hl.out; omega) hx))
          go_wp2
          go_ret
          exact ⟨ret_bool hy.out.symm, rfl⟩
  · have hd := decide_eq_false hc
    have hy := hide (wordOk_size (c := cl) (ws := ws) (by omega))
    rw [hd] at HC
    clear hc
    go_enter Try.func36, Try.ntmps36
    go_wp2_with (go_at_call 59; refine (HC.out _).mono ?_; rintro e w' ⟨rfl, rfl⟩)
    go_ret
    exact ⟨ret_bool hy.out.symm, rfl⟩

theorem isum_take_le {cs : List Int} (h : ∀ x ∈ cs, 0 ≤ x ∧ x ≤ 6) (k : Nat) : isum (cs.take k) ≤ isum cs := by
  have e := isum_append (cs.take k) (cs.drop k)
  rw [List.take_append_drop] at e
  have := (isum_bounds 6 (cs.drop k) (fun x hx => h x (List.mem_of_mem_drop hx))).1
  omega
theorem countRowOk_far {c : Int} {cs : List Int} {k : Nat} {x : Int} (hx : cs[k]? = some x) (h : 6 - isum (cs.take k) < x) : countRowOk c cs = false := by
  rw [Bool.eq_false_iff]
  intro hh
  obtain ⟨_, _, _, h4, h5⟩ := countRowOk_yes hh
  have h1 := isum_take_le h4 (k + 1)
  rw [isum_take_succ hx] at h1
  omega

set_option maxHeartbeats 800000 in
theorem countRowOk_impl0 (cl : Int) (A : Option Addr) (n c B : Nat) (cs : List Int) (w : World) (h : Ints w B A n c cs) :
    Calls Try.prog 48 #[.int .i64 cl, .slice A n c] w fun e w' => e = .returned (.bool (countRowOk cl cs)) ∧ w = w' := by
  have hl := hide h.len
  have hn := h.nb
  have HC := hide (fun w => coloursOk_c cl w)
  by_cases hc : 1 ≤ cl ∧ cl ≤ 3
  · have hd := decide_eq_true hc
    rw [hd] at HC
    by_cases h6 : (n : Int) = cl
    · have hne : ((n : Int) != cl) = false := by simpa using h6
      have h6 := hide h6
      have hc := hide hc
      go_enter Try.func48, Try.ntmps48
      go_wp2_with (go_at_call 59; refine (HC.out _).mono ?_; rintro e w' ⟨rfl, rfl⟩)
      clear hne
      go_loop [5, 19] (fun t i => ∃ k : Nat, ∃ s : Int, k ≤ n ∧ i = .int .i64 k ∧ t = .int .i64 s ∧ 0 ≤ s ∧ s ≤ 6 ∧ Hid (s = 6 - isum (cs.take k)) ∧ Hid (∀ j x, j < k → cs[j]? = some x → 0 ≤ x ∧ x ≤ 6)) (fun _ i => n - (intOf i).toNat)
      case atStart => exact ⟨0, 6, Nat.zero_le _, rfl, rfl, by omega, by omega, by simp [isum, hide], fun j x hj _ => absurd hj (by omega)⟩
      case round =>
        obtain ⟨k, s, hk, rfl, rfl, hs0, hs6, hs, hall⟩ := hrel
        by_cases hlt : k < n
        · obtain ⟨b, off, x, rfl, hb, hx, hcell⟩ := h.look hlt
          by_cases hx0 : x < 0
          · go_wp2
            go_ret
            exact ⟨ret_bool (countRowOk_no (.inr (.inr (.inr (.inl ⟨k, x, hx.out, .inl hx0⟩))))).symm, rfl⟩
          · by_cases hx1 : s < x
            · have hy := hide (countRowOk_far (c := cl) hx.out (by have := hs.out; omega))
              go_wp2
              go_ret
              exact ⟨ret_bool hy.out.symm, rfl⟩
            · have hst := hide (isum_take_succ hx.out)
              go_wp2
              go_round
              case rel => exact ⟨k + 1, s - x, by omega, by go_num, rfl, by omega, by omega, by have h1 := hs.out; have h2 := hst.out; exact hide (by omega), fun j y hj hy => by
                rcases Nat.lt_or_ge j k with hjk | hjk
                · exact hall.out j y hjk hy
                · obtain rfl : j = k := by omega
                  rw [hx.out] at hy; injection hy with hy; omega⟩
              case measure => simp [intOf]; omega
        · have hy := hide (countRowOk_mk hc.out.1 hc.out.2 (by have := hl.out; have := h6.out; omega) (fun j x (hj : j < cs.length) hx => hall.out j x (by have := hl.out; omega) hx) (by have h1 := hs.out; rw [List.take_of_length_le (by have := hl.out; omega)] at h1; omega))
          go_wp2
          go_ret
          exact ⟨ret_bool hy.out.symm, rfl⟩
    · have hne : ((n : Int) != cl) = true := by simpa using h6
      have hy := hide (countRowOk_no (c := cl) (cs := cs) (.inr (.inr (.inl (by have := hl.out; omega)))))
      clear h6 hc
      go_enter Try.func48, Try.ntmps48
      go_wp2_with (go_at_call 59; refine (HC.out _).mono ?_; rintro e w' ⟨rfl, rfl⟩)
      go_ret
      exact ⟨ret_bool hy.out.symm, rfl⟩
  · have hd := decide_eq_false hc
    have hy := hide (countRowOk_no (c := cl) (cs := cs) (by omega))
    rw [hd] at HC
    clear hc
    go_enter Try.func48, Try.ntmps48
    go_wp2_with (go_at_call 59; refine (HC.out _).mono ?_; rintro e w' ⟨rfl, rfl⟩)
    go_ret
    exact ⟨ret_bool hy.out.symm, rfl⟩

theorem fall_next {s : Int} (h : 0 ≤ s) (k : Nat) : fall s (k + 1) = fall s k * (s - (k : Int)) := by
  rw [fall_snoc]
  rcases Int.lt_or_le s (k : Int) with h1 | h1
  · rw [(fall_zero h).2 h1, Int.zero_mul, Int.zero_mul]
  · rw [Int.max_eq_left (by omega)]

set_option maxHeartbeats 400000 in
theorem fallP_c (s : Int) (m : Nat) (w : World) (h0 : 0 ≤ s) (h1 : s ≤ 120) (hm : m ≤ 6) :
    Calls Try.prog 46 #[.int .i64 s, .int .i64 m] w fun e w' => e = .returned (.int .i64 (fall s m)) ∧ w = w' := by
  have HN := hide (fall_next h0)
  have HB := hide (fun k (hk : k ≤ 5) => (⟨fall_nonneg s k, Int.le_trans (fall_le 120 s k h1 (by omega)) (pow_small k hk)⟩ : 0 ≤ fall s k ∧ fall s k ≤ 1000000000000))
  go_enter Try.func46, Try.ntmps46
  go_wp2
  go_loop [5, 8] (fun t i => ∃ k : Nat, k ≤ m ∧ i = .int .i64 k ∧ t = .int .i64 (fall s k)) (fun _ i => m - (intOf i).toNat)
  case atStart => exact ⟨0, Nat.zero_le _, rfl, rfl⟩
  case round =>
    obtain ⟨k, hk, rfl, rfl⟩ := hrel
    by_cases hlt : k < m
    · obtain ⟨b0, b1⟩ := HB.out k (by omega)
      have hst := hide (HN.out k)
      obtain ⟨F, hF⟩ : ∃ F, Hid (fall s k = F) := ⟨_, rfl⟩
      rw [hF.out] at b0 b1 hst ⊢
      have hp := mul_bound b0 b1 (b := s - (k : Int) + 6) (by omega) (show s - (k : Int) + 6 ≤ 126 by omega)
      have hp2 : F * (s - (k : Int)) = F * (s - (k : Int) + 6) - F * 6 := by rw [Int.mul_add]; omega
      have hp3 := hide (show -9000000000000 ≤ F * (s - (k : Int)) ∧ F * (s - (k : Int)) ≤ 126000000000000 by rw [hp2]; omega)
      clear hp hp2
      obtain ⟨q1, q2⟩ := hp3.out
      go_wp2
      go_round
      case rel => exact ⟨k + 1, by omega, by go_num, by rw [hst.out]⟩
      case measure => simp [intOf]; omega
    · obtain rfl : k = m := by omega
      go_wp2
      go_ret
      exact ⟨rfl, rfl⟩

theorem allWays_impl0 (A : Option Addr) (n c B : Nat) (zs : List Int) (m : Int) (w : World) (h : Ints w B A n c zs) :
    Calls Try.prog 21 #[.slice A n c, .int .i64 m] w fun e w' => e = .returned (.int .i64 (allWays zs m)) ∧ w = w' := by
  have HI := hide (urnOk_impl _ _ _ _ _ w h)
  have HD := hide (drawsOk_c m w)
  by_cases hok : urnOk zs = true
  · by_cases hm : 0 ≤ m ∧ m ≤ 6
    · have hd := decide_eq_true hm
      have HT := hide (totalOf_impl _ _ _ _ _ w h)
      obtain ⟨s1, s2⟩ := urnOk_sum hok
      rw [totalF_ok hok] at HT
      rw [hd] at HD
      have he := hide (show allWays zs m = fall (isum zs) m.toNat by unfold allWays; rw [hok, hd]; rfl)
      have HF := hide (fallP_c (isum zs) m.toNat w s1 s2 (by omega))
      rw [show ((m.toNat : Nat) : Int) = m by omega] at HF
      rw [hok] at HI
      clear hok hd hm s1 s2
      go_enter Try.func21, Try.ntmps21
      go_wp2_with (first | (go_at_call 30; refine (HI.out).mono ?_; rintro e w' ⟨rfl, rfl⟩) | (go_at_call 41; refine (HD.out).mono ?_; rintro e w' ⟨rfl, rfl⟩) | (go_at_call 31; refine (HT.out).mono ?_; rintro e w' ⟨rfl, rfl⟩) | (go_at_call 46; refine (HF.out).mono ?_; rintro e w' ⟨rfl, rfl⟩))
      go_ret
      exact ⟨ret_int he.out.symm, rfl⟩
    · have hd := decide_eq_false hm
      rw [hd] at HD
      have he := hide (show allWays zs m = -1 by unfold allWays; rw [hd, Bool.and_false]; rfl)
      rw [hok] at HI
      clear hok hd hm
      go_enter Try.func21, Try.ntmps21
      go_wp2_with (first | (go_at_call 30; refine (HI.out).mono ?_; rintro e w' ⟨rfl, rfl⟩) | (go_at_call 41; refine (HD.out).mono ?_; rintro e w' ⟨rfl, rfl⟩))
      go_ret
      exact ⟨ret_int he.out.symm, rfl⟩
  · have hok : urnOk zs = false := by simpa using hok
    have he := hide (show allWays zs m = -1 by unfold allWays; rw [hok]; rfl)
    rw [hok] at HI
    clear hok
    go_enter Try.func21, Try.ntmps21
    go_wp2_with (first | (go_at_call 30; refine (HI.out).mono ?_; rintro e w' ⟨rfl, rfl⟩))
    go_ret
    exact ⟨ret_int he.out.symm, rfl⟩
end Go.Proofs.Ytaocbiocpklbmaa
