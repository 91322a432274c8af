/-
  Contracts of the exact laws' helpers over slices of places: toPlaceS, szPlaceS, eqPlaceS (written by wip/gen_e9.py).
-/
import Derived.Test.YtkgfbmlhplclfaaGreatDoorPlsO
namespace Go.Proofs.YtkgfbmlhplclfaaGreatDoor
open Go.RowKit
set_option linter.unusedVariables false

def cpyP (ps : List Plc) (k : Nat) : List Plc := ps.take k ++ List.replicate (ps.length - k) noPlc
theorem cpyP_len {ps : List Plc} {k : Nat} (h : k ≤ ps.length) : (cpyP ps k).length = ps.length := by simp [cpyP]; omega
theorem cpyP_zero (ps : List Plc) : cpyP ps 0 = List.replicate ps.length noPlc := by simp [cpyP]
theorem cpyP_all (ps : List Plc) : cpyP ps ps.length = ps := by simp [cpyP]
theorem cpyP_at {ps : List Plc} {k : Nat} (h : k < ps.length) : (cpyP ps k)[k]? = some noPlc := by
  unfold cpyP
  rw [List.getElem?_append_right (by rw [List.length_take]; omega), List.length_take, List.getElem?_replicate, if_pos (by omega)]
theorem cpyP_set {ps : List Plc} {k : Nat} {m : Plc} (h : ps[k]? = some m) : (cpyP ps k).set k m = cpyP ps (k + 1) := by
  have hk := (List.getElem?_eq_some_iff.1 h).1
  unfold cpyP
  rw [List.set_append_right _ _ (by rw [List.length_take]; omega), List.length_take, show k - min k ps.length = 0 by omega, show ps.length - k = (ps.length - (k + 1)) + 1 by omega, List.replicate_succ, List.set_cons_zero, List.take_add_one, h]
  simp
def smallP (p : Plc) : Prop := p.start.length ≤ 1048576 ∧ p.word.length ≤ 1048576

end Go.Proofs.YtkgfbmlhplclfaaGreatDoor
