/-
  Contracts of chapter 14, the specification's side: l1Cut.
-/
import Derived.Test.YtokokbfcnjkcoaaDoorTextW
import Derived.Test.YtokokbfcnjkcoaaDoorPush
namespace Go.Proofs.YtokokbfcnjkcoaaDoor
open Go.RowKit
set_option linter.unusedVariables false

/-- The pieces found as far as byte k, and where the next one begins. -/
def cutTo (c : UInt8) (l : Bs) : Nat → List Bs × Nat
  | 0 => ([], 0)
  | k + 1 => if l[k]? = some c then ((cutTo c l k).1 ++ [(l.take k).drop (cutTo c l k).2], k + 1) else cutTo c l k
theorem cutTo_le (c : UInt8) (l : Bs) (k : Nat) : (cutTo c l k).2 ≤ k := by
  induction k with
  | zero => exact Nat.le_refl _
  | succ k ih =>
    unfold cutTo
    split
    · exact Nat.le_refl _
    · exact Nat.le_succ_of_le ih
theorem cutTo_len (c : UInt8) (l : Bs) (k : Nat) : (cutTo c l k).1.length ≤ k := by
  induction k with
  | zero => exact Nat.le_refl _
  | succ k ih =>
    unfold cutTo
    split
    · simp; exact ih
    · exact Nat.le_succ_of_le ih
theorem cutTo_free (c : UInt8) (l : Bs) (k : Nat) : c ∉ (l.take k).drop (cutTo c l k).2 := by
  induction k with
  | zero => simp
  | succ k ih =>
    unfold cutTo
    split
    · simp
    · next h =>
      rw [List.take_add_one]
      intro hm
      have hle := cutTo_le c l k
      by_cases hk : k < l.length
      · rw [List.getElem?_eq_getElem hk] at hm h
        simp only [Option.toList_some] at hm
        rw [List.drop_append_of_le_length (by rw [List.length_take]; omega)] at hm
        rcases List.mem_append.1 hm with hm | hm
        · exact ih hm
        · simp at hm; exact h (by rw [hm])
      · rw [List.getElem?_eq_none (by omega)] at hm
        simp only [Option.toList_none, List.append_nil] at hm
        exact ih hm
theorem cutTo_all (c : UInt8) (l : Bs) (k : Nat) (hk : k ≤ l.length) : cutT c l = (cutTo c l k).1 ++ cutT c (l.drop (cutTo c l k).2) := by
  induction k with
  | zero => rfl
  | succ k ih =>
    have ih := ih (by omega)
    unfold cutTo
    split
    · next h =>
      rw [ih]
      have hle := cutTo_le c l k
      have hk' : k < l.length := by omega
      have hsp : l.drop (cutTo c l k).2 = (l.take k).drop (cutTo c l k).2 ++ c :: l.drop (k + 1) := by
        have h1 : l = l.take k ++ c :: l.drop (k + 1) := by
          have h2 := List.take_append_drop k l
          rw [List.drop_eq_getElem_cons hk'] at h2
          rw [List.getElem?_eq_getElem hk'] at h
          injection h with h
          rw [h] at h2
          exact h2.symm
        generalize (cutTo c l k).2 = q at hle ⊢
        have h2 : l.drop q = (l.take k ++ c :: l.drop (k + 1)).drop q := congrArg (List.drop q) h1
        rw [h2, List.drop_append_of_le_length (by rw [List.length_take]; omega)]
      rw [hsp, cutT_sep (cutTo_free c l k)]
      simp
    · exact ih
theorem cutTo_end (c : UInt8) (l : Bs) : cutT c l = (cutTo c l l.length).1 ++ [l.drop (cutTo c l l.length).2] := by
  have hf := cutTo_free c l l.length
  rw [List.take_length] at hf
  rw [cutTo_all c l l.length (Nat.le_refl _), cutT_none hf]
theorem cutT_len (c : UInt8) (l : Bs) : (cutT c l).length ≤ l.length + 1 := by
  rw [cutTo_end]
  have := cutTo_len c l l.length
  simp; omega

theorem cutTo_hit {c : UInt8} {l : Bs} {k : Nat} (h : l[k]? = some c) : cutTo c l (k + 1) = ((cutTo c l k).1 ++ [(l.take k).drop (cutTo c l k).2], k + 1) := by
  show (if l[k]? = some c then _ else _) = _
  rw [if_pos h]
theorem cutTo_miss {c : UInt8} {l : Bs} {k : Nat} (h : l[k]? ≠ some c) : cutTo c l (k + 1) = cutTo c l k := by
  show (if l[k]? = some c then _ else _) = _
  rw [if_neg h]
end Go.Proofs.YtokokbfcnjkcoaaDoor
