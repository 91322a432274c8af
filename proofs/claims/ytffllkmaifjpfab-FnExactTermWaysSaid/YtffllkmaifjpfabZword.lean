/-
  Words, plain lemmas and contracts that belong together, joined into one file.
-/
import Derived.Test.YtffllkmaifjpfabZoks
import Derived.Test.YtffllkmaifjpfabZpl
import Derived.StillTailTactics
namespace Go.Proofs.Ytffllkmaifjpfab
open Go.RowKit

set_option maxHeartbeats 800000 in
theorem wordOk_spec (cl : Int) (A : Option Addr) (n c B : Nat) (ws : List Int) (w : World) (h : Ints w B A n c ws) :
    Calls Try.prog 52 #[.int .i64 cl, .slice A n c] w fun e w' => e = .returned (.bool (wordOk cl ws)) ∧ w = w' := by
  have hl := hide h.len
  have hn := h.nb
  go_enter Try.func52, Try.ntmps52
  go_wp2
  go_loop [5] (fun i => ∃ k : Nat, k ≤ n ∧ i = .int .i64 k ∧ Hid (∀ j x, j < k → ws[j]? = some x → 0 ≤ x ∧ x < cl)) (fun i => n - (intOf i).toNat)
  case atStart => exact ⟨0, Nat.zero_le _, rfl, fun j x hj _ => absurd hj (by omega)⟩
  case round =>
    obtain ⟨k, hk, rfl, hall⟩ := hrel
    by_cases hlt : k < n
    · obtain ⟨b, off, x, rfl, hb, hx, hcell⟩ := h.look hlt
      by_cases hx0 : x < 0
      · go_wp2
        go_ret
        exact ⟨ret_bool (wordOk_bad hx.out (.inl hx0)).symm, rfl⟩
      · by_cases hx1 : cl ≤ x
        · go_wp2
          go_ret
          exact ⟨ret_bool (wordOk_bad hx.out (.inr hx1)).symm, rfl⟩
        · go_wp2
          go_round
          case rel => exact ⟨k + 1, by omega, by go_num, fun j y hj hy => by
            rcases Nat.lt_or_ge j k with hjk | hjk
            · exact hall.out j y hjk hy
            · obtain rfl : j = k := by omega
              rw [hx.out] at hy; injection hy with hy; omega⟩
          case measure => simp [intOf]; omega
    · by_cases hc : 1 ≤ cl ∧ cl ≤ 3
      · have hd : decide (1 ≤ cl ∧ cl ≤ 3) = true := decide_eq_true hc
        have hc := hide hc
        by_cases h6 : n ≤ 6
        · go_wp2_with (go_at_call 43; refine (l1In_c _ _ _ _).mono ?_; rintro e w' ⟨rfl, rfl⟩)
          go_ret
          refine ⟨ret_bool ?_, rfl⟩
          rw [wordOk_mk hc.out.1 hc.out.2 (by have := hl.out; omega) (fun j x hj hx => hall.out j x (by have := hl.out; omega) hx)]
          try (simp; done)
          try (simp; omega)
        · go_wp2_with (go_at_call 43; refine (l1In_c _ _ _ _).mono ?_; rintro e w' ⟨rfl, rfl⟩)
          go_ret
          refine ⟨ret_bool ?_, rfl⟩
          rw [wordOk_size (.inr (.inr (by have := hl.out; omega)))]
          try (simp; done)
          try (simp; omega)
      · have hd : decide (1 ≤ cl ∧ cl ≤ 3) = false := decide_eq_false hc
        have hc := hide hc
        go_wp2_with (go_at_call 43; refine (l1In_c _ _ _ _).mono ?_; rintro e w' ⟨rfl, rfl⟩)
        go_ret
        exact ⟨ret_bool (wordOk_size (by have := hc.out; omega)).symm, rfl⟩

set_option maxHeartbeats 800000 in
theorem allWays_spec (A : Option Addr) (n c B : Nat) (zs : List Int) (m : Int) (w : World) (h : Ints w B A n c zs) :
    Calls Try.prog 37 #[.slice A n c, .int .i64 m] w fun e w' => e = .returned (.int .i64 (allWays zs m)) ∧ w = w' := by
  have HI := hide (urnOk_spec _ _ _ _ _ w h)
  by_cases hok : urnOk zs = true
  · rw [hok] at HI
    by_cases hm : 0 ≤ m ∧ m ≤ 6
    · have hd : decide (0 ≤ m ∧ m ≤ 6) = true := decide_eq_true hm
      have HT := hide (l1Total_c _ _ _ _ _ w h hok)
      obtain ⟨s1, s2⟩ := urnOk_sum hok
      have he := hide (show allWays zs m = fall (isum zs) m.toNat by unfold allWays; rw [hok, hd]; rfl)
      obtain ⟨S, hS⟩ : ∃ S, Hid (S = isum zs) := ⟨_, rfl⟩
      rw [← hS.out] at HT s1 s2 he
      have hB := hide (fun k => fall_le 120 S k (by omega) (by omega))
      have hP := hide (fun k => fall_nonneg S k)
      obtain ⟨m0, m6⟩ := hm
      clear hok
      go_enter Try.func37, Try.ntmps37
      go_wp2_with (first | (go_at_call 75; refine (HI.out).mono ?_; rintro e w' ⟨rfl, rfl⟩) | (go_at_call 43; refine (l1In_c _ _ _ _).mono ?_; rintro e w' ⟨rfl, rfl⟩))
      go_loop [5, 6] (fun t i => ∃ k : Nat, (k : Int) ≤ m ∧ i = .int .i64 k ∧ t = .int .i64 (fall S k)) (fun _ i => (m - intOf i).toNat)
      case atStart => exact ⟨0, by omega, rfl, rfl⟩
      case round =>
        obtain ⟨k, hk, rfl, rfl⟩ := hrel
        by_cases hlt : (k : Int) < m
        · have hf0 := hP.out k
          have hf1 : fall S k ≤ 1000000000000 := Int.le_trans (hB.out k) (pow_small k (by omega))
          have hst := hide (fall_snoc S k)
          by_cases hmax : 0 ≤ S - (k : Int)
          · have hq := hide (Int.max_eq_left hmax)
            have hp := mul_bound hf0 hf1 hmax (show S - (k : Int) ≤ 120 by omega)
            obtain ⟨hp1, hp2⟩ := hp
            go_wp2_with (go_at_call 76; refine (HT.out).mono ?_; rintro e w' ⟨rfl, rfl⟩)
            go_round
            case rel => exact ⟨k + 1, by omega, by go_num, by rw [hst.out, hq.out]⟩
            case measure => simp [intOf]; omega
          · have hq := hide (show max (S - (k : Int)) 0 = 0 by omega)
            go_wp2_with (go_at_call 76; refine (HT.out).mono ?_; rintro e w' ⟨rfl, rfl⟩)
            go_round
            case rel => exact ⟨k + 1, by omega, by go_num, by rw [hst.out, hq.out]; simp⟩
            case measure => simp [intOf]; omega
        · have hkm := hide (show m.toNat = k by omega)
          go_wp2
          go_ret
          exact ⟨ret_int (by rw [he.out, hkm.out]), rfl⟩
    · have hd : decide (0 ≤ m ∧ m ≤ 6) = false := decide_eq_false hm
      have he := hide (show allWays zs m = -1 by unfold allWays; rw [hd, Bool.and_false]; rfl)
      clear hm hok
      go_enter Try.func37, Try.ntmps37
      go_wp2_with (first | (go_at_call 75; refine (HI.out).mono ?_; rintro e w' ⟨rfl, rfl⟩) | (go_at_call 43; refine (l1In_c _ _ _ _).mono ?_; rintro e w' ⟨rfl, rfl⟩))
      go_ret
      exact ⟨ret_int he.out.symm, rfl⟩
  · have hok : urnOk zs = false := by simpa using hok
    rw [hok] at HI
    have he := hide (show allWays zs m = -1 by unfold allWays; rw [hok]; rfl)
    clear hok
    go_enter Try.func37, Try.ntmps37
    go_wp2_with (first | (go_at_call 75; refine (HI.out).mono ?_; rintro e w' ⟨rfl, rfl⟩))
    go_ret
    exact ⟨ret_int he.out.symm, rfl⟩
end Go.Proofs.Ytffllkmaifjpfab

namespace Go.Proofs.Ytffllkmaifjpfab
open Go.RowKit

end Go.Proofs.Ytffllkmaifjpfab

namespace Go.Proofs.Ytffllkmaifjpfab
open Go.RowKit

end Go.Proofs.Ytffllkmaifjpfab
