/-
  Contracts of chapter 14, the specification's side: ReadPlace.
-/
import Derived.Test.YtpnjihpdipoajabDoorTextX
import Derived.Test.YtpnjihpdipoajabDoorTri
import Derived.StillTailTactics
namespace Go.Proofs.YtpnjihpdipoajabDoor
open Go.RowKit
set_option linter.unusedVariables false

theorem readP_not3 {l : Bs} (h : (cutT 32 l).length ≠ 3) : readPB l = false ∧ readQ l = noPlc := by
  have : readP l = none := by
    unfold readP guessP
    match hc : cutT 32 l with
    | [] => rfl
    | [a] => rfl
    | [a, b] => rfl
    | [a, b, c] => rw [hc] at h; exact absurd rfl h
    | _ :: _ :: _ :: _ :: _ => rfl
  unfold readPB readQ
  rw [this]
  exact ⟨rfl, rfl⟩
theorem cut_piece_len {c : UInt8} {l : Bs} : ∀ p ∈ cutT c l, p.length ≤ l.length := by
  intro p hp
  rw [cutTo_end] at hp
  have : ∀ k, ∀ p ∈ (cutTo c l k).1, p.length ≤ l.length := by
    intro k
    induction k with
    | zero => intro p hp; cases hp
    | succ k ih =>
      intro p hp
      unfold cutTo at hp
      split at hp
      · rcases List.mem_append.1 hp with h | h
        · exact ih p h
        · simp at h; subst h; simp; omega
      · exact ih p hp
  rcases List.mem_append.1 hp with h | h
  · exact this _ p h
  · simp at h; subst h; simp
def plcOf (a b c : Bs) : Plc := ⟨(cutT 44 a).map digP, signP b, wordOf' c⟩
theorem readP_3 {l a b c : Bs} (h : cutT 32 l = [a, b, c]) : readPB l = decide (placeT (plcOf a b c) = l ∧ l ≠ []) ∧ readQ l = if placeT (plcOf a b c) = l ∧ l ≠ [] then plcOf a b c else noPlc := by
  have hr : readP l = if placeT (plcOf a b c) = l ∧ l ≠ [] then some (plcOf a b c) else none := by
    unfold readP guessP
    rw [h]
    rfl
  unfold readPB readQ
  rw [hr]
  by_cases hc : placeT (plcOf a b c) = l ∧ l ≠ []
  · rw [if_pos hc, if_pos hc, decide_eq_true hc]; exact ⟨rfl, rfl⟩
  · rw [if_neg hc, if_neg hc, decide_eq_false hc]; exact ⟨rfl, rfl⟩
theorem StrM.look3 {w : World} {B cc : Nat} {A : Option Addr} {x y z : ByteArray} (h : StrM w B A 3 cc [x, y, z]) : ∃ b off, A = some ⟨b, off, none⟩ ∧ b < B ∧ w.cell? ⟨b, off, none⟩ = some (.string x) ∧ w.cell? ⟨b, off + 1, none⟩ = some (.string y) ∧ w.cell? ⟨b, off + 2, none⟩ = some (.string z) := by
  obtain ⟨b, off, e, hb, hc⟩ := h.cells (by omega)
  exact ⟨b, off, e, hb, hc 0 x rfl, hc 1 y rfl, hc 2 z rfl⟩
end Go.Proofs.YtpnjihpdipoajabDoor
