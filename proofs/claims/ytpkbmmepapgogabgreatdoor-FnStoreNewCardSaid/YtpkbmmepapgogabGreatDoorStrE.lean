/-
  A string that is not empty, in the walk's spellings. No program is named here.
-/
import Derived.Test.YtpkbmmepapgogabGreatDoorZpb
namespace Go.Proofs.YtpkbmmepapgogabGreatDoor
open Go.RowKit
set_option linter.unusedVariables false

theorem str_ne {T : ByteArray} (h : T ≠ ⟨#[]⟩) : T.toList.isEmpty = false ∧ (T.toList == []) = false := by
  have hn : T.toList ≠ [] := by
    intro e
    apply h
    rw [ByteArray.toList_eq] at e
    rw [← strB_bts T]
    unfold bts
    rw [e]
    rfl
  constructor
  · rw [List.isEmpty_eq_false_iff]; exact hn
  · simpa using hn
theorem str_neq {S T : ByteArray} (h : S ≠ T) : (S.toList == T.toList) = false ∧ (S.toList != T.toList) = true := by
  have hn : S.toList ≠ T.toList := by
    intro e
    apply h
    rw [ByteArray.toList_eq, ByteArray.toList_eq] at e
    rw [← strB_bts S, ← strB_bts T]
    unfold bts
    rw [e]
  constructor
  · simpa using hn
  · simpa using hn
end Go.Proofs.YtpkbmmepapgogabGreatDoor
