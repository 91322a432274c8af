/-
  Strings as lists of bytes. No program is named here.
-/
import Derived.Test.YtkgfbmlhplclfaaGreatDoorZpl
namespace Go.Proofs.YtkgfbmlhplclfaaGreatDoor
open Go.RowKit
set_option linter.unusedVariables false

/-- The string of some bytes. -/
def strB (l : List UInt8) : ByteArray := ⟨l.toArray⟩
theorem strB_append (a b : List UInt8) : strB (a ++ b) = strB a ++ strB b := by
  unfold strB
  apply ByteArray.ext
  simp
theorem strB_size (l : List UInt8) : (strB l).size = l.length := by simp [strB, ByteArray.size]
theorem strB_cons (c : UInt8) (l : List UInt8) : strB (c :: l) = ⟨#[c]⟩ ++ strB l := strB_append [c] l
def bts (s : ByteArray) : List UInt8 := s.data.toList
theorem bts_len (s : ByteArray) : (bts s).length = s.size := by unfold bts; exact Array.length_toList
theorem bts_drop (s : ByteArray) (k : Nat) (h : k < s.size) : (bts s).drop k = s[k] :: (bts s).drop (k + 1) := by
  rw [List.drop_eq_getElem_cons (by rw [bts_len]; exact h)]; rfl
theorem bts_end (s : ByteArray) (k : Nat) (h : s.size ≤ k) : (bts s).drop k = [] := List.drop_of_length_le (by rw [bts_len]; exact h)
theorem strB_bts (s : ByteArray) : strB (bts s) = s := by
  cases s with
  | mk d => unfold strB bts; rw [Array.toArray_toList]
theorem bts_strB (l : List UInt8) : bts (strB l) = l := by simp [strB, bts]
theorem bts_inj {a b : ByteArray} (h : a.data.toList = b.data.toList) : a = b := by
  rw [← strB_bts a, ← strB_bts b]
  exact congrArg strB h
theorem strB_inj {a b : List UInt8} (h : strB a = strB b) : a = b := by rw [← bts_strB a, ← bts_strB b, h]
theorem strB_take (s : ByteArray) (j k : Nat) : s.extract j k = strB (((bts s).take k).drop j) := by
  apply bts_inj
  show (s.extract j k).data.toList = ((bts s).take k).drop j
  rw [ByteArray.data_extract]
  unfold bts
  simp [List.drop_take]
theorem bts_at (s : ByteArray) (k : Nat) (h : k < s.size) : (bts s)[k]? = some s[k] := by
  unfold bts
  rw [Array.getElem?_toList]
  exact Array.getElem?_eq_getElem h
theorem size_strB (l : List UInt8) : (strB l).size = l.length := strB_size l
end Go.Proofs.YtkgfbmlhplclfaaGreatDoor
