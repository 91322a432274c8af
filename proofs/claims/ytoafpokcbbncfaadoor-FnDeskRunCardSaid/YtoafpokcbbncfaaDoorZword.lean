/-
  Words, plain lemmas and contracts that belong together, joined into one file.
-/
import Derived.Test.YtoafpokcbbncfaaDoorZoks
import Derived.Test.YtoafpokcbbncfaaDoorZpl
import Derived.StillTailTactics
namespace Go.Proofs.YtoafpokcbbncfaaDoor
open Go.RowKit

set_option maxHeartbeats 800000 in
theorem wordOk_spec (cl : Int) (A : Option Addr) (n c B : Nat) (ws : List Int) (w : World) (h : Ints w B A n c ws) :
    Calls Tryd.prog 111 #[.int .i64 cl, .slice A n c] w fun e w' => e = .returned (.bool (wordOk cl ws)) ∧ w = w' := by
  have hl := hide h.len
  have hn := h.nb
  go_enter Tryd.func111, Tryd.ntmps111
  go_wp2
  go_loop [5] (fun i => ∃ k : Nat, k ≤ n ∧ i = .int .i64 k ∧ Hid (∀ j x, j < k → ws[j]? = some x → 0 ≤ x ∧ x < cl)) (fun i => n - (intOf i).toNat)
  case atStart => exact ⟨0, Nat.zero_le _, rfl, fun j x hj _ => absurd hj (by omega)⟩
  case round =>
    obtain ⟨k, hk, rfl, hall⟩ := hrel
    by_cases hlt : k < n
    · obtain ⟨b, off, x, rfl, hb, hx, hcell⟩ := h.look hlt
      by_cases hx0 : x < 0
      · go_wp2
        go_ret
        exact ⟨ret_bool (wordOk_bad hx.out (.inl hx0)).symm, rfl⟩
      · by_cases hx1 : cl ≤ x
        · go_wp2
          go_ret
          exact ⟨ret_bool (wordOk_bad hx.out (.inr hx1)).symm, rfl⟩
        · go_wp2
          go_round
          case rel => exact ⟨k + 1, by omega, by go_num, fun j y hj hy => by
            rcases Nat.lt_or_ge j k with hjk | hjk
            · exact hall.out j y hjk hy
            · obtain rfl : j = k := by omega
              rw [hx.out] at hy; injection hy with hy; omega⟩
          case measure => simp [intOf]; omega
    · by_cases hc : 1 ≤ cl ∧ cl ≤ 3
      · have hd : decide (1 ≤ cl ∧ cl ≤ 3) = true := decide_eq_true hc
        have hc := hide hc
        by_cases h6 : n ≤ 6
        · go_wp2_with (go_at_call 80; refine (l1In_c _ _ _ _).mono ?_; rintro e w' ⟨rfl, rfl⟩)
          go_ret
          refine ⟨ret_bool ?_, rfl⟩
          rw [wordOk_mk hc.out.1 hc.out.2 (by have := hl.out; omega) (fun j x hj hx => hall.out j x (by have := hl.out; omega) hx)]
          try (simp; done)
          try (simp; omega)
        · go_wp2_with (go_at_call 80; refine (l1In_c _ _ _ _).mono ?_; rintro e w' ⟨rfl, rfl⟩)
          go_ret
          refine ⟨ret_bool ?_, rfl⟩
          rw [wordOk_size (.inr (.inr (by have := hl.out; omega)))]
          try (simp; done)
          try (simp; omega)
      · have hd : decide (1 ≤ cl ∧ cl ≤ 3) = false := decide_eq_false hc
        have hc := hide hc
        go_wp2_with (go_at_call 80; refine (l1In_c _ _ _ _).mono ?_; rintro e w' ⟨rfl, rfl⟩)
        go_ret
        exact ⟨ret_bool (wordOk_size (by have := hc.out; omega)).symm, rfl⟩

end Go.Proofs.YtoafpokcbbncfaaDoor

namespace Go.Proofs.YtoafpokcbbncfaaDoor
open Go.RowKit

end Go.Proofs.YtoafpokcbbncfaaDoor

namespace Go.Proofs.YtoafpokcbbncfaaDoor
open Go.RowKit

end Go.Proofs.YtoafpokcbbncfaaDoor
