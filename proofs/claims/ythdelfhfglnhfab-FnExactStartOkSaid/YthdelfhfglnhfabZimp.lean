/-
  Contracts of chapter 2, the program's side: WordOk, CountRowOk, AllWays, SameApart.
-/
import Derived.Test.YthdelfhfglnhfabZoks
import Derived.Test.YthdelfhfglnhfabZpl
namespace Go.Proofs.Ythdelfhfglnhfab
open Go.RowKit

theorem coloursOk_c (a : Int) (w : World) : Calls Try.prog 37 #[.int .i64 a] w fun e w' => e = .returned (.bool (decide (1 ≤ a ∧ a ≤ 3))) ∧ w = w' := by
  by_cases h1 : 1 ≤ a
  · by_cases h2 : a ≤ 3
    · go_enter Try.func37, Try.ntmps37
      go_wp2
      go_ret
      exact ⟨ret_bool (by simp; omega), rfl⟩
    · go_enter Try.func37, Try.ntmps37
      go_wp2
      go_ret
      exact ⟨ret_bool (by simp; omega), rfl⟩
  · go_enter Try.func37, Try.ntmps37
    go_wp2
    go_ret
    exact ⟨ret_bool (by simp; omega), rfl⟩

theorem drawsOk_c (a : Int) (w : World) : Calls Try.prog 48 #[.int .i64 a] w fun e w' => e = .returned (.bool (decide (0 ≤ a ∧ a ≤ 6))) ∧ w = w' := by
  by_cases h1 : 0 ≤ a
  · by_cases h2 : a ≤ 6
    · go_enter Try.func48, Try.ntmps48
      go_wp2
      go_ret
      exact ⟨ret_bool (by simp; omega), rfl⟩
    · go_enter Try.func48, Try.ntmps48
      go_wp2
      go_ret
      exact ⟨ret_bool (by simp; omega), rfl⟩
  · go_enter Try.func48, Try.ntmps48
    go_wp2
    go_ret
    exact ⟨ret_bool (by simp; omega), rfl⟩

set_option maxHeartbeats 800000 in
theorem wordOk_impl0 (cl : Int) (A : Option Addr) (n c B : Nat) (ws : List Int) (w : World) (h : Ints w B A n c ws) :
    Calls Try.prog 45 #[.int .i64 cl, .slice A n c] w fun e w' => e = .returned (.bool (wordOk cl ws)) ∧ w = w' := by
  have hl := hide h.len
  have hn := h.nb
  have HC := hide (fun w => coloursOk_c cl w)
  by_cases hc : 1 ≤ cl ∧ cl ≤ 3
  · have hd := decide_eq_true hc
    rw [hd] at HC
    have hc := hide hc
    by_cases h6 : 6 < n
    · have hy := hide (wordOk_size (c := cl) (ws := ws) (.inr (.inr (by have := hl.out; omega))))
      go_enter Try.func45, Try.ntmps45
      go_wp2_with (go_at_call 37; refine (HC.out _).mono ?_; rintro e w' ⟨rfl, rfl⟩)
      go_ret
      exact ⟨ret_bool hy.out.symm, rfl⟩
    · go_enter Try.func45, Try.ntmps45
      go_wp2_with (go_at_call 37; refine (HC.out _).mono ?_; rintro e w' ⟨rfl, rfl⟩)
      go_loop [17] (fun i => ∃ k : Nat, k ≤ n ∧ i = .int .i64 k ∧ Hid (∀ j x, j < k → ws[j]? = some x → 0 ≤ x ∧ x < cl)) (fun i => n - (intOf i).toNat)
      case atStart => exact ⟨0, Nat.zero_le _, rfl, fun j x hj _ => absurd hj (by omega)⟩
      case round =>
        obtain ⟨k, hk, rfl, hall⟩ := hrel
        by_cases hlt : k < n
        · obtain ⟨b, off, x, rfl, hb, hx, hcell⟩ := h.look hlt
          by_cases hx0 : x < 0
          · go_wp2
            go_ret
            exact ⟨ret_bool (wordOk_bad hx.out (.inl hx0)).symm, rfl⟩
          · by_cases hx1 : cl ≤ x
            · go_wp2
              go_ret
              exact ⟨ret_bool (wordOk_bad hx.out (.inr hx1)).symm, rfl⟩
            · go_wp2
              go_round
              case rel => exact ⟨k + 1, by omega, by go_num, fun j y hj hy => by
                rcases Nat.lt_or_ge j k with hjk | hjk
                · exact hall.out j y hjk hy
                · obtain rfl : j = k := by omega
                  rw [hx.out] at hy; injection hy with hy; omega⟩
              case measure => simp [intOf]; omega
        · have hy := hide (wordOk_mk hc.out.1 hc.out.2 (by have := hl.out; omega) (fun j x (hj : j < ws.length) hx => hall.out j x (by have := hl.out; omega) hx))
          go_wp2
          go_ret
          exact ⟨ret_bool hy.out.symm, rfl⟩
  · have hd := decide_eq_false hc
    have hy := hide (wordOk_size (c := cl) (ws := ws) (by omega))
    rw [hd] at HC
    clear hc
    go_enter Try.func45, Try.ntmps45
    go_wp2_with (go_at_call 37; refine (HC.out _).mono ?_; rintro e w' ⟨rfl, rfl⟩)
    go_ret
    exact ⟨ret_bool hy.out.symm, rfl⟩

theorem isum_take_le {cs : List Int} (h : ∀ x ∈ cs, 0 ≤ x ∧ x ≤ 6) (k : Nat) : isum (cs.take k) ≤ isum cs := by
  have e := isum_append (cs.take k) (cs.drop k)
  rw [List.take_append_drop] at e
  have := (isum_bounds 6 (cs.drop k) (fun x hx => h x (List.mem_of_mem_drop hx))).1
  omega
theorem countRowOk_far {c : Int} {cs : List Int} {k : Nat} {x : Int} (hx : cs[k]? = some x) (h : 6 - isum (cs.take k) < x) : countRowOk c cs = false := by
  rw [Bool.eq_false_iff]
  intro hh
  obtain ⟨_, _, _, h4, h5⟩ := countRowOk_yes hh
  have h1 := isum_take_le h4 (k + 1)
  rw [isum_take_succ hx] at h1
  omega

theorem fall_next {s : Int} (h : 0 ≤ s) (k : Nat) : fall s (k + 1) = fall s k * (s - (k : Int)) := by
  rw [fall_snoc]
  rcases Int.lt_or_le s (k : Int) with h1 | h1
  · rw [(fall_zero h).2 h1, Int.zero_mul, Int.zero_mul]
  · rw [Int.max_eq_left (by omega)]

end Go.Proofs.Ythdelfhfglnhfab
