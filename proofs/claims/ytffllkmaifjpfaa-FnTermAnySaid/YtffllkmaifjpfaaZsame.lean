/-
  Words, plain lemmas and contracts that belong together, joined into one file.
-/
import Derived.Test.YtffllkmaifjpfaaZrule
import Derived.Test.YtffllkmaifjpfaaZpl
import Derived.Test.YtffllkmaifjpfaaZword
import Derived.Test.YtffllkmaifjpfaaZrows
import Derived.Test.YtffllkmaifjpfaaRuleW
namespace Go.Proofs.Ytffllkmaifjpfaa
open Go.RowKit

theorem sameRule_no {c s : Int} (h : ¬(1 ≤ c ∧ c ≤ 3) ∨ ¬(-1 ≤ s ∧ s ≤ 3)) : sameRule c s = [] := by
  unfold sameRule
  rcases h with h | h
  · rw [decide_eq_false h]; rfl
  · rw [stepB_no h, Bool.and_false]; rfl
theorem sameRule_yes {C : Nat} {s : Int} (h : 1 ≤ C ∧ C ≤ 3) (hs : -1 ≤ s ∧ s ≤ 3) : sameRule (C : Int) s = sameR C s := by
  unfold sameRule
  rw [stepB_mk hs, decide_eq_true (show 1 ≤ (C : Int) ∧ (C : Int) ≤ 3 by omega)]; rfl

end Go.Proofs.Ytffllkmaifjpfaa

namespace Go.Proofs.Ytffllkmaifjpfaa
open Go.RowKit

theorem stepB_eq {s : Int} {b : Bool} (h : decide (-1 ≤ s ∧ s ≤ 3) = b) : stepB s = b := h
theorem risingOf_def (z m s : Int) : risingOf z m s = if decide (0 ≤ z ∧ z ≤ 40) && decide (0 ≤ m ∧ m ≤ 6) && stepB s then ris s z m.toNat else -1 := rfl

theorem sameCounts_def {zs cs : List Int} {s : Int} {n : Nat} (hl : zs.length = n) : sameCounts zs s cs = if startOk zs && countRowOk (n : Int) cs && stepB s then mult cs * risK s zs cs cs.length else -1 := by unfold sameCounts; rw [hl]
theorem sameCounts_bound {c s : Int} {zs cs : List Int} {W : Int} (hs : s ≤ 3) (hz : ∀ z ∈ zs, 0 ≤ z ∧ z ≤ 10) (h : countRowOk c cs = true) (h0 : 0 ≤ W) (h1 : W ≤ 720) (k : Nat) : 0 ≤ W * risK s zs cs k ∧ W * risK s zs cs k ≤ 346961018880 := by
  obtain ⟨p0, p1⟩ := risK_bound hs hz h k
  have := mul_bound h0 h1 p0 p1
  omega

theorem shareSum_def {zs : List Int} {s m col : Int} {n : Nat} (hl : zs.length = n) : shareSum zs s m col = if startOk zs && stepB s && decide (0 ≤ m ∧ m ≤ 6) && decide (0 ≤ col ∧ col ≤ (n : Int) - 1) then bsum (sameR n s) col.toNat m.toNat zs else -1 := by
  unfold shareSum
  rw [hl, show decide (0 ≤ col ∧ col < (n : Int)) = decide (0 ≤ col ∧ col ≤ (n : Int) - 1) from by simp only [decide_eq_decide]; omega]

end Go.Proofs.Ytffllkmaifjpfaa
