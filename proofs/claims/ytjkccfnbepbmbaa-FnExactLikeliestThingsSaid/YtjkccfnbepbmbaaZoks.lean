/-
  Words, plain lemmas and contracts that belong together, joined into one file.
-/
import Derived.Test.YtjkccfnbepbmbaaProg
import Derived.Test.YtjkccfnbepbmbaaZpl
import Derived.Deep.QuietTactic
import Derived.BigQuiet
import Derived.RegionTactic
namespace Go.Proofs.Ytjkccfnbepbmbaa
open Go.RowKit

theorem infoInt : (Try.prog.info? 3).map (fun i => (i.zero, i.size, i.bytes)) = some (some (.int .i64 0), 1, 8) := by kernel_rfl

theorem l1In_c (a lo hi : Int) (w : World) : Calls Try.prog 33 #[.int .i64 a, .int .i64 lo, .int .i64 hi] w fun e w' => e = .returned (.bool (decide (lo ≤ a ∧ a ≤ hi))) ∧ w = w' := by
  by_cases h1 : lo ≤ a
  · by_cases h2 : a ≤ hi
    · go_enter Try.func33, Try.ntmps33
      go_wp2
      go_ret
      exact ⟨ret_bool (by simp; omega), rfl⟩
    · go_enter Try.func33, Try.ntmps33
      go_wp2
      go_ret
      exact ⟨ret_bool (by simp; omega), rfl⟩
  · go_enter Try.func33, Try.ntmps33
    go_wp2
    go_ret
    exact ⟨ret_bool (by simp; omega), rfl⟩

set_option maxHeartbeats 400000 in
theorem urnOk_impl (A : Option Addr) (n c B : Nat) (zs : List Int) (w : World) (h : Ints w B A n c zs) :
    Calls Try.prog 35 #[.slice A n c] w fun e w' => e = .returned (.bool (urnOk zs)) ∧ w = w' := by
  have hl := hide h.len
  have hn := h.nb
  by_cases h1 : n < 1
  · go_enter Try.func35, Try.ntmps35
    go_wp2
    go_ret
    exact ⟨ret_bool (urnOk_len (by have := hl.out; omega)).symm, rfl⟩
  · by_cases h3 : 3 < n
    · go_enter Try.func35, Try.ntmps35
      go_wp2
      go_ret
      exact ⟨ret_bool (urnOk_len (by have := hl.out; omega)).symm, rfl⟩
    · go_enter Try.func35, Try.ntmps35
      go_wp2
      go_loop [15] (fun i => ∃ k : Nat, k ≤ n ∧ i = .int .i64 k ∧ Hid (∀ j x, j < k → zs[j]? = some x → 0 ≤ x ∧ x ≤ 40)) (fun i => n - (intOf i).toNat)
      case atStart => exact ⟨0, Nat.zero_le _, rfl, fun j x hj _ => absurd hj (by omega)⟩
      case round =>
        obtain ⟨k, hk, rfl, hall⟩ := hrel
        by_cases hlt : k < n
        · obtain ⟨b, off, x, rfl, hb, hx, hcell⟩ := h.look hlt
          by_cases hx0 : x < 0
          · go_wp2
            go_ret
            exact ⟨ret_bool (urnOk_bad hx.out (.inl hx0)).symm, rfl⟩
          · by_cases hx1 : 40 < x
            · go_wp2
              go_ret
              exact ⟨ret_bool (urnOk_bad hx.out (.inr hx1)).symm, rfl⟩
            · go_wp2
              go_round
              case rel => exact ⟨k + 1, by omega, by go_num, fun j y hj hy => by
                rcases Nat.lt_or_ge j k with hjk | hjk
                · exact hall.out j y hjk hy
                · obtain rfl : j = k := by omega
                  rw [hx.out] at hy; injection hy with hy; omega⟩
              case measure => simp [intOf]; omega
        · go_wp2
          go_ret
          exact ⟨ret_bool (urnOk_good (by have := hl.out; omega) (fun j x hj hx => hall.out j x (by have := hl.out; omega) hx)).symm, rfl⟩

end Go.Proofs.Ytjkccfnbepbmbaa

namespace Go.Proofs.Ytjkccfnbepbmbaa
open Go.RowKit

end Go.Proofs.Ytjkccfnbepbmbaa

namespace Go.Proofs.Ytjkccfnbepbmbaa
open Go.RowKit

end Go.Proofs.Ytjkccfnbepbmbaa

namespace Go.Proofs.Ytjkccfnbepbmbaa
open Go.RowKit

/-- The element that a colour's index names. -/
theorem Ints.lookI {w : World} {B n c : Nat} {A : Option Addr} {zs : List Int} {k : Int} (h : Ints w B A n c zs) (h0 : 0 ≤ k) (hk : k < n) :
    ∃ b off x, A = some ⟨b, off, none⟩ ∧ b < B ∧ Hid (zs[k.toNat]? = some x) ∧ w.cell? ⟨b, off + k.toNat, none⟩ = some (.int .i64 x) := h.look (by omega)

end Go.Proofs.Ytjkccfnbepbmbaa
