/-
  Contracts of chapter 14, the specification's side: ReadDeed.
-/
import Derived.Test.YtokokbfcnjkcoaaDoorJournS
import Derived.Test.YtokokbfcnjkcoaaDoorReadP
namespace Go.Proofs.YtokokbfcnjkcoaaDoor
open Go.RowKit
set_option linter.unusedVariables false

theorem find_hit {α : Type} {p : α → Bool} {l : List α} {k : Nat} {x : α} (hx : l[k]? = some x) (hp : p x = true) (h : ∀ (j : Nat) y, j < k → l[j]? = some y → p y = false) : l.find? p = some x := by
  induction l generalizing k with
  | nil => simp at hx
  | cons a r ih =>
    cases k with
    | zero =>
      simp at hx; subst hx
      rw [List.find?_cons_of_pos hp]
    | succ k =>
      have h0 := h 0 a (by omega) rfl
      rw [List.find?_cons_of_neg (by rw [h0]; decide)]
      exact ih (k := k) (by simpa using hx) (fun j y hj hy => h (j + 1) y (by omega) (by simpa using hy))
theorem wfD_mk {k a b : Int} (h1 : (Lit.int .i64 k).wf = true) (h2 : (Lit.int .i64 a).wf = true) (h3 : (Lit.int .i64 b).wf = true) : wfD ⟨k, a, b⟩ := ⟨h1, h2, h3⟩
theorem wf_lit2 : ∀ x ∈ [(⟨3, 0, 0⟩ : Ded), ⟨4, 0, 0⟩], wfD x := by
  intro x hx
  simp at hx
  rcases hx with rfl | rfl
  · exact ⟨by decide, by decide, by decide⟩
  · exact ⟨by decide, by decide, by decide⟩
theorem StrM.look2 {w : World} {B cc : Nat} {A : Option Addr} {x y : ByteArray} (h : StrM w B A 2 cc [x, y]) : ∃ b off, A = some ⟨b, off, none⟩ ∧ b < B ∧ w.cell? ⟨b, off, none⟩ = some (.string x) ∧ w.cell? ⟨b, off + 1, none⟩ = some (.string y) := by
  obtain ⟨b, off, e, hb, hc⟩ := h.cells (by omega)
  exact ⟨b, off, e, hb, hc 0 x rfl, hc 1 y rfl⟩
theorem cands_2 {l a b : Bs} (h : cutT 32 l = [a, b]) : cands l = [⟨3, 0, 0⟩, ⟨4, 0, 0⟩] ++ [⟨1, signP b, 0⟩, ⟨2, signP b, 0⟩] := by unfold cands; rw [h]
theorem cands_3 {l a b c : Bs} (h : cutT 32 l = [a, b, c]) : cands l = [⟨3, 0, 0⟩, ⟨4, 0, 0⟩] ++ [⟨0, signP b, signP c⟩] := by unfold cands; rw [h]
theorem cands_0 {l : Bs} (h2 : (cutT 32 l).length ≠ 2) (h3 : (cutT 32 l).length ≠ 3) : cands l = [⟨3, 0, 0⟩, ⟨4, 0, 0⟩] := by
  unfold cands
  match hc : cutT 32 l with
  | [] => rfl
  | [a] => rfl
  | [a, b] => rw [hc] at h2; exact absurd rfl h2
  | [a, b, c] => rw [hc] at h3; exact absurd rfl h3
  | _ :: _ :: _ :: _ :: _ => rfl
end Go.Proofs.YtokokbfcnjkcoaaDoor
