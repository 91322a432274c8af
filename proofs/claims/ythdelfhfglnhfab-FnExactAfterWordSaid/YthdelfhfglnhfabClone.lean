/-
  Contract: slices.Clone of ints.
-/
import Derived.Test.YthdelfhfglnhfabOks
import Derived.Test.YthdelfhfglnhfabApp
import Derived.Lib.SliceRun
namespace Go.Proofs.Ythdelfhfglnhfab
open Go.RowKit

set_option maxHeartbeats 400000 in
theorem clone_c (A : Option Addr) (n c B : Nat) (zs : List Int) (w : World) (h : Ints w B A n c zs) (h0 : 0 < n) (hn : n ≤ 1048576) (hB : B ≤ w.heap.size) :
    Calls Try.prog 58 #[.slice A n c] w fun e w' => ∃ A' n' c', e = .returned (.slice A' n' c') ∧ Own w' w.heap.size (.slice A' n' c') zs ∧ Below w.heap.size w w' := by
  obtain ⟨b, off, x, rfl, hbB, _, _⟩ := h.look h0
  obtain ⟨i0, hi, hz0, hz1, hz2⟩ := info_parts infoInt
  have hnil := fun w => Lib.run_eql_slice_nil (P := Try.prog) w 27 3 (some ⟨b, off, none⟩) n c 0 0 Try.underlying27
  go_enter Try.func58, Try.ntmps58
  go_wp2_with (at_builtin; refine wpList_app _ rfl _ _ 27 rfl i0 Try.underlying27 hi hz0 hz1 hz2 _ _ rfl (own_empty (base := w.heap.size) (Nat.le_refl _)) _ n c _ zs rfl (h.alloc hB _) (by simp) (by simp; omega) ?_; intro A' n' c' w1 ho hg)
  go_ret
  exact ⟨A', n', c', rfl, ho, (below_empty (Below.refl _ _) _).grown hg (by simp) (fun k hk => Nat.le_of_eq (Option.some.inj hk))⟩
end Go.Proofs.Ythdelfhfglnhfab
