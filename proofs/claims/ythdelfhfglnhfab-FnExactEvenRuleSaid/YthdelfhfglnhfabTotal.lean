/-
  Contract: spec.l1Total over a row that is an urn.
-/
import Derived.Test.YthdelfhfglnhfabOks
import Derived.Test.YthdelfhfglnhfabPlain
namespace Go.Proofs.Ythdelfhfglnhfab
open Go.RowKit

set_option maxHeartbeats 400000 in
theorem l1Total_c (A : Option Addr) (n c B : Nat) (zs : List Int) (w : World) (h : Ints w B A n c zs) (hok : urnOk zs = true) :
    Calls Try.prog 51 #[.slice A n c] w fun e w' => e = .returned (.int .i64 (isum zs)) ∧ w = w' := by
  have hl := hide h.len
  have hn := h.nb
  have HT := hide (take_sum hok)
  have hok := hide hok
  go_enter Try.func51, Try.ntmps51
  go_wp2
  go_loop [3, 4] (fun t i => ∃ k : Nat, k ≤ n ∧ i = .int .i64 k ∧ t = .int .i64 (isum (zs.take k))) (fun _ i => n - (intOf i).toNat)
  case atStart => exact ⟨0, Nat.zero_le _, rfl, rfl⟩
  case round =>
    obtain ⟨k, hk, rfl, rfl⟩ := hrel
    obtain ⟨hs1, hs2⟩ := HT.out k
    by_cases hlt : k < n
    · obtain ⟨b, off, x, rfl, hb, hx, hcell⟩ := h.look hlt
      obtain ⟨hx1, hx2⟩ := urnOk_elem hok.out hx.out
      have hst := hide (isum_take_succ hx.out)
      go_wp2
      go_round
      case rel => exact ⟨k + 1, by omega, by go_num, by rw [hst.out]⟩
      case measure => simp [intOf]; omega
    · go_wp2
      go_ret
      exact ⟨ret_int (by rw [List.take_of_length_le (by have := hl.out; omega)]), rfl⟩

end Go.Proofs.Ythdelfhfglnhfab
