/-
  Contracts of chapter 1: TotalOf, ChanceOf (impl and spec).
-/
import Derived.Test.YthdelfhfglnhfabOks
import Derived.Test.YthdelfhfglnhfabTotalI
namespace Go.Proofs.Ythdelfhfglnhfab
open Go.RowKit

theorem hasColour_c (A : Option Addr) (n c : Nat) (k : Int) (w : World) :
    Calls Try.prog 54 #[.slice A n c, .int .i64 k] w fun e w' => e = .returned (.bool (decide (0 ≤ k ∧ k < n))) ∧ w = w' := by
  by_cases h1 : 0 ≤ k
  · by_cases h2 : k < n
    · go_enter Try.func54, Try.ntmps54
      go_wp2
      go_ret
      exact ⟨ret_bool (by simp; omega), rfl⟩
    · go_enter Try.func54, Try.ntmps54
      go_wp2
      go_ret
      exact ⟨ret_bool (by simp; omega), rfl⟩
  · go_enter Try.func54, Try.ntmps54
    go_wp2
    go_ret
    exact ⟨ret_bool (by simp; omega), rfl⟩

/-- The element that a colour's index names. -/
theorem Ints.lookI {w : World} {B n c : Nat} {A : Option Addr} {zs : List Int} {k : Int} (h : Ints w B A n c zs) (h0 : 0 ≤ k) (hk : k < n) :
    ∃ b off x, A = some ⟨b, off, none⟩ ∧ b < B ∧ Hid (zs[k.toNat]? = some x) ∧ w.cell? ⟨b, off + k.toNat, none⟩ = some (.int .i64 x) := h.look (by omega)

end Go.Proofs.Ythdelfhfglnhfab
