/-
  Contracts of chapter 14, the specification's side: l1Digits, l15Signed.
-/
import Derived.Test.YtokokbfcnjkcoaaDoorTextT
namespace Go.Proofs.YtokokbfcnjkcoaaDoor
open Go.RowKit
set_option linter.unusedVariables false

theorem digA_step {m : Nat} {c : UInt8} {r : Bs} (h0 : 48 ≤ c.toNat) (h1 : c.toNat ≤ 57) : digA m (c :: r) = digA (10 * m + (c.toNat - 48)) r := by
  show (if 48 ≤ c ∧ c ≤ 57 then _ else _) = _
  rw [if_pos ⟨UInt8.le_iff_toNat_le.2 h0, UInt8.le_iff_toNat_le.2 h1⟩]
theorem digA_bad {m : Nat} {c : UInt8} {r : Bs} (h : c.toNat < 48 ∨ 57 < c.toNat) : digA m (c :: r) = -1 := by
  show (if 48 ≤ c ∧ c ≤ 57 then _ else _) = _
  rw [if_neg (fun hh => by
    have a := UInt8.le_iff_toNat_le.1 hh.1
    have b := UInt8.le_iff_toNat_le.1 hh.2
    simp at a b
    omega)]
end Go.Proofs.YtokokbfcnjkcoaaDoor
