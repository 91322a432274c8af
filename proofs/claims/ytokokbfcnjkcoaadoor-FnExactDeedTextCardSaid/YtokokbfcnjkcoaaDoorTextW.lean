/-
  Contracts of chapter 14, the specification's side: l15Signed, l1Cut.
-/
import Derived.Test.YtokokbfcnjkcoaaDoorTextU
namespace Go.Proofs.YtokokbfcnjkcoaaDoor
open Go.RowKit
set_option linter.unusedVariables false

theorem bts_extract (s : ByteArray) (j k : Nat) : bts (s.extract j k) = ((bts s).take k).drop j := by rw [strB_take, bts_strB]
theorem bts_tail (s : ByteArray) : bts (s.extract 1 s.size) = (bts s).tail := by
  rw [bts_extract, List.take_of_length_le (by rw [bts_len]; exact Nat.le_refl _), List.drop_one]
theorem signP_minus {l : Bs} (h : 1 < l.length ∧ l.head? = some 45) (h2 : 0 < digP l.tail) : signP l = -digP l.tail := by
  unfold signP; rw [if_pos ⟨h.1, h.2, h2⟩]
theorem signP_plain {l : Bs} (h : ¬(1 < l.length ∧ l.head? = some 45 ∧ 0 < digP l.tail)) : signP l = if digP l < 0 then -100 else digP l := by
  unfold signP; rw [if_neg h]
end Go.Proofs.YtokokbfcnjkcoaaDoor
