/-
  Plain facts: strings.Cut at one byte, in the library's own words; a deed's text taken apart.
-/
import Derived.Test.YtpnjihpdipoajabDoorDeedJ
import Derived.Test.YtpnjihpdipoajabDoorCutI
namespace Go.Proofs.YtpnjihpdipoajabDoor
open Go.RowKit
set_option linter.unusedVariables false

/-- What a text is taken apart into. -/
def partsD (s : Bs) : Ded := ⟨kindL (Lib.cut s [32]).1, numL (Lib.cut (Lib.cut s [32]).2.1 [32]).1, numL (Lib.cut (Lib.cut s [32]).2.1 [32]).2.1⟩
theorem numL_nil : numL [] = 0 := by decide
theorem parts_deed {d : Ded} (h : deedB d = true) : partsD (deedT d) = d := by
  have hf := deedW_free h
  rw [deedT_ok h]
  obtain ⟨ha, hb, hk⟩ := deedB_yes h
  have na := (itoa_at ha.1 ha.2).2
  have nb := (itoa_at hb.1 hb.2).2
  obtain ⟨k, a, b⟩ := d
  simp only at ha hb hk na nb
  rcases hk with rfl | ⟨rfl, rfl⟩ | ⟨rfl, rfl⟩ | ⟨rfl, rfl, rfl⟩ | ⟨rfl, rfl, rfl⟩
  · have f0 := hf wPut (by simp [deedW])
    have f1 := hf (stepT a) (by simp [deedW])
    show partsD (wPut ++ 32 :: (stepT a ++ 32 :: stepT b)) = _
    unfold partsD
    rw [cut_at _ f0]
    show (⟨kindL wPut, numL (Lib.cut (stepT a ++ 32 :: stepT b) [32]).1, numL (Lib.cut (stepT a ++ 32 :: stepT b) [32]).2.1⟩ : Ded) = _
    rw [cut_at _ f1]
    show (⟨kindL wPut, numL (stepT a), numL (stepT b)⟩ : Ded) = _
    rw [na, nb]; rfl
  · have f0 := hf wStep (by simp [deedW])
    have f1 := hf (stepT a) (by simp [deedW])
    show partsD (wStep ++ 32 :: stepT a) = _
    unfold partsD
    rw [cut_at _ f0]
    show (⟨kindL wStep, numL (Lib.cut (stepT a) [32]).1, numL (Lib.cut (stepT a) [32]).2.1⟩ : Ded) = _
    rw [cut_free' f1]
    show (⟨kindL wStep, numL (stepT a), numL []⟩ : Ded) = _
    rw [na, numL_nil]; rfl
  · have f0 := hf wDraw (by simp [deedW])
    have f1 := hf (stepT a) (by simp [deedW])
    show partsD (wDraw ++ 32 :: stepT a) = _
    unfold partsD
    rw [cut_at _ f0]
    show (⟨kindL wDraw, numL (Lib.cut (stepT a) [32]).1, numL (Lib.cut (stepT a) [32]).2.1⟩ : Ded) = _
    rw [cut_free' f1]
    show (⟨kindL wDraw, numL (stepT a), numL []⟩ : Ded) = _
    rw [na, numL_nil]; rfl
  · show partsD (joinT 32 (deedW ⟨3, 0, 0⟩)) = ⟨3, 0, 0⟩
    clear ha hb h hf na nb
    rfl
  · show partsD (joinT 32 (deedW ⟨4, 0, 0⟩)) = ⟨4, 0, 0⟩
    clear ha hb h hf na nb
    rfl
theorem parts_read {s : Bs} {d : Ded} (h : readD s = some d) : partsD s = d := by
  obtain ⟨h1, h2⟩ := readD_iff.1 h
  rw [← h1]
  exact parts_deed (deedT_ne.1 (h1 ▸ h2))
theorem parts_yes {s : Bs} (h0 : s ≠ []) (h : deedT (partsD s) = s) : readD s = some (partsD s) := readD_iff.2 ⟨h, h0⟩
theorem parts_no {s : Bs} (h : deedT (partsD s) ≠ s) : readD s = none := by
  cases hr : readD s with
  | none => rfl
  | some d =>
    have := parts_read hr
    rw [this] at h
    exact absurd (readD_iff.1 hr).1 h
end Go.Proofs.YtpnjihpdipoajabDoor
