/-
  Laws of chapter 7 walked: FnRoomRowOk (written by wip/gen_v1.py).
-/
import Derived.Test.YtfencbfjnifmjabZdraw
import Derived.Test.YtfencbfjnifmjabDrawCh7
import Derived.Test.YtfencbfjnifmjabRoomI
namespace Go.Proofs.Ytfencbfjnifmjab
open Go.RowKit
set_option linter.unusedVariables false

theorem roomOk_no {m : Int} {row : List Int} (h : ¬(1 ≤ m ∧ m ≤ 6)) : roomOk m row = false := by
  unfold roomOk
  rw [decide_eq_false (by omega), Bool.false_and]
theorem roomStep_yes {m : Int} {zs : List Int} (h : roomStep m zs ≠ []) : ∃ M : Nat, m = (M : Int) ∧ 1 ≤ M ∧ M ≤ 6 ∧ zs.length = M + 1 ∧ (∀ (k : Nat) x, zs[k]? = some x → 0 ≤ x ∧ x ≤ 10000000) ∧ roomStep m zs = stepL M zs ∧ (∀ (k : Nat) x, (stepL M zs)[k]? = some x → 0 ≤ x ∧ x ≤ 10000000) := by
  unfold roomStep at *
  by_cases hc : roomOk m zs = true ∧ roomOk m (stepL m.toNat zs) = true
  · obtain ⟨M, rfl, h1, h6, hl, hb⟩ := roomOk_yes hc.1
    obtain ⟨M', e, _, _, _, hb'⟩ := roomOk_yes hc.2
    rw [if_pos hc]
    rw [Int.toNat_natCast] at *
    exact ⟨M, rfl, h1, h6, hl, hb, rfl, hb'⟩
  · rw [if_neg hc] at h
    exact absurd rfl h
theorem part_bound {zs : List Int} (hl : zs.length ≤ 7) (h : ∀ (k : Nat) x, zs[k]? = some x → 0 ≤ x ∧ x ≤ 10000000) {k : Nat} : 0 ≤ isum (zs.take k) ∧ isum (zs.take k) ≤ 70000000 := by
  have := isum_bounds 10000000 (zs.take k) (fun z hz => by
    obtain ⟨j, hj, rfl⟩ := List.getElem_of_mem (List.mem_of_mem_take hz)
    exact h j _ (List.getElem?_eq_getElem hj))
  have hlen : (zs.take k).length ≤ 7 := by rw [List.length_take]; omega
  omega

end Go.Proofs.Ytfencbfjnifmjab
