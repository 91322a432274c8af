/-
  Words, plain lemmas and contracts that belong together, joined into one file.
-/
import Derived.Test.YtghaajcpmepdoaaZoks
import Derived.Test.YtghaajcpmepdoaaZpl
namespace Go.Proofs.Ytghaajcpmepdoaa
open Go.RowKit

set_option maxHeartbeats 800000 in
theorem wordOk_spec (cl : Int) (A : Option Addr) (n c B : Nat) (ws : List Int) (w : World) (h : Ints w B A n c ws) :
    Calls Try.prog 34 #[.int .i64 cl, .slice A n c] w fun e w' => e = .returned (.bool (wordOk cl ws)) ∧ w = w' := by
  have hl := hide h.len
  have hn := h.nb
  go_enter Try.func34, Try.ntmps34
  go_wp2
  go_loop [5] (fun i => ∃ k : Nat, k ≤ n ∧ i = .int .i64 k ∧ Hid (∀ j x, j < k → ws[j]? = some x → 0 ≤ x ∧ x < cl)) (fun i => n - (intOf i).toNat)
  case atStart => exact ⟨0, Nat.zero_le _, rfl, fun j x hj _ => absurd hj (by omega)⟩
  case round =>
    obtain ⟨k, hk, rfl, hall⟩ := hrel
    by_cases hlt : k < n
    · obtain ⟨b, off, x, rfl, hb, hx, hcell⟩ := h.look hlt
      by_cases hx0 : x < 0
      · go_wp2
        go_ret
        exact ⟨ret_bool (wordOk_bad hx.out (.inl hx0)).symm, rfl⟩
      · by_cases hx1 : cl ≤ x
        · go_wp2
          go_ret
          exact ⟨ret_bool (wordOk_bad hx.out (.inr hx1)).symm, rfl⟩
        · go_wp2
          go_round
          case rel => exact ⟨k + 1, by omega, by go_num, fun j y hj hy => by
            rcases Nat.lt_or_ge j k with hjk | hjk
            · exact hall.out j y hjk hy
            · obtain rfl : j = k := by omega
              rw [hx.out] at hy; injection hy with hy; omega⟩
          case measure => simp [intOf]; omega
    · by_cases hc : 1 ≤ cl ∧ cl ≤ 3
      · have hd : decide (1 ≤ cl ∧ cl ≤ 3) = true := decide_eq_true hc
        have hc := hide hc
        by_cases h6 : n ≤ 6
        · go_wp2_with (go_at_call 49; refine (l1In_c _ _ _ _).mono ?_; rintro e w' ⟨rfl, rfl⟩)
          go_ret
          refine ⟨ret_bool ?_, rfl⟩
          rw [wordOk_mk hc.out.1 hc.out.2 (by have := hl.out; omega) (fun j x hj hx => hall.out j x (by have := hl.out; omega) hx)]
          try (simp; done)
          try (simp; omega)
        · go_wp2_with (go_at_call 49; refine (l1In_c _ _ _ _).mono ?_; rintro e w' ⟨rfl, rfl⟩)
          go_ret
          refine ⟨ret_bool ?_, rfl⟩
          rw [wordOk_size (.inr (.inr (by have := hl.out; omega)))]
          try (simp; done)
          try (simp; omega)
      · have hd : decide (1 ≤ cl ∧ cl ≤ 3) = false := decide_eq_false hc
        have hc := hide hc
        go_wp2_with (go_at_call 49; refine (l1In_c _ _ _ _).mono ?_; rintro e w' ⟨rfl, rfl⟩)
        go_ret
        exact ⟨ret_bool (wordOk_size (by have := hc.out; omega)).symm, rfl⟩

end Go.Proofs.Ytghaajcpmepdoaa

namespace Go.Proofs.Ytghaajcpmepdoaa
open Go.RowKit

set_option maxHeartbeats 800000 in
theorem countRowOk_spec (cl : Int) (A : Option Addr) (n c B : Nat) (cs : List Int) (w : World) (h : Ints w B A n c cs) :
    Calls Try.prog 41 #[.int .i64 cl, .slice A n c] w fun e w' => e = .returned (.bool (countRowOk cl cs)) ∧ w = w' := by
  have hl := hide h.len
  have hn := h.nb
  go_enter Try.func41, Try.ntmps41
  go_wp2
  go_loop [5] (fun i => ∃ k : Nat, k ≤ n ∧ i = .int .i64 k ∧ Hid (∀ j x, j < k → cs[j]? = some x → 0 ≤ x ∧ x ≤ 6)) (fun i => n - (intOf i).toNat)
  case atStart => exact ⟨0, Nat.zero_le _, rfl, fun j x hj _ => absurd hj (by omega)⟩
  case round =>
    obtain ⟨k, hk, rfl, hall⟩ := hrel
    by_cases hlt : k < n
    · obtain ⟨b, off, x, rfl, hb, hx, hcell⟩ := h.look hlt
      by_cases hx0 : 0 ≤ x ∧ x ≤ 6
      · have hd : decide (0 ≤ x ∧ x ≤ 6) = true := decide_eq_true hx0
        have hx0 := hide hx0
        go_wp2_with (go_at_call 49; refine (l1In_c _ _ _ _).mono ?_; rintro e w' ⟨rfl, rfl⟩)
        go_round
        case rel => exact ⟨k + 1, by omega, by go_num, fun j y hj hy => by
          rcases Nat.lt_or_ge j k with hjk | hjk
          · exact hall.out j y hjk hy
          · obtain rfl : j = k := by omega
            rw [hx.out] at hy; injection hy with hy; have := hx0.out; omega⟩
        case measure => simp [intOf]; omega
      · have hd : decide (0 ≤ x ∧ x ≤ 6) = false := decide_eq_false hx0
        have hx0 := hide hx0
        go_wp2_with (go_at_call 49; refine (l1In_c _ _ _ _).mono ?_; rintro e w' ⟨rfl, rfl⟩)
        go_ret
        exact ⟨ret_bool (countRowOk_no (.inr (.inr (.inr (.inl ⟨k, x, hx.out, by have := hx0.out; omega⟩))))).symm, rfl⟩
    · have hall2 := hide (fun j x (hj : j < cs.length) hx => hall.out j x (by have := hl.out; omega) hx)
      by_cases hc : 1 ≤ cl ∧ cl ≤ 3
      · have hd : decide (1 ≤ cl ∧ cl ≤ 3) = true := decide_eq_true hc
        have hc' := hide hc
        obtain ⟨hc1, hc2⟩ := hc
        by_cases hcn : (n : Int) = cl
        · have hu := row_urn hc1 hc2 (by have := hl.out; omega) hall2.out
          have HT := hide (l1Total_c _ _ _ _ _ w h hu)
          have hdn : ((n : Int) == cl) = true := by simpa using hcn
          have hcn := hide hcn
          by_cases hs : isum cs ≤ 6
          · have hy := hide (countRowOk_mk hc1 hc2 (by have := hl.out; have := hcn.out; omega) hall2.out hs)
            clear hu
            go_wp2_with (first | (go_at_call 49; refine (l1In_c _ _ _ _).mono ?_; rintro e w' ⟨rfl, rfl⟩) | (go_at_call 51; refine (HT.out).mono ?_; rintro e w' ⟨rfl, rfl⟩))
            go_ret
            rw [hy.out]
            exact ⟨ret_bool (by first | rfl | (simp; done) | (simp; omega)), rfl⟩
          · have hy := hide (countRowOk_no (c := cl) (cs := cs) (.inr (.inr (.inr (.inr (by omega))))))
            clear hu
            go_wp2_with (first | (go_at_call 49; refine (l1In_c _ _ _ _).mono ?_; rintro e w' ⟨rfl, rfl⟩) | (go_at_call 51; refine (HT.out).mono ?_; rintro e w' ⟨rfl, rfl⟩))
            go_ret
            rw [hy.out]
            exact ⟨ret_bool (by first | rfl | (simp; done) | (simp; omega)), rfl⟩
        · have hdn : ((n : Int) == cl) = false := by simpa using hcn
          have hy := hide (countRowOk_no (c := cl) (cs := cs) (.inr (.inr (.inl (by have := hl.out; omega)))))
          clear hcn
          go_wp2_with (first | (go_at_call 49; refine (l1In_c _ _ _ _).mono ?_; rintro e w' ⟨rfl, rfl⟩))
          go_ret
          rw [hy.out]
          exact ⟨rfl, rfl⟩
      · have hd : decide (1 ≤ cl ∧ cl ≤ 3) = false := decide_eq_false hc
        have hy := hide (countRowOk_no (c := cl) (cs := cs) (by omega))
        clear hc
        go_wp2_with (go_at_call 49; refine (l1In_c _ _ _ _).mono ?_; rintro e w' ⟨rfl, rfl⟩)
        go_ret
        rw [hy.out]
        exact ⟨rfl, rfl⟩

end Go.Proofs.Ytghaajcpmepdoaa
