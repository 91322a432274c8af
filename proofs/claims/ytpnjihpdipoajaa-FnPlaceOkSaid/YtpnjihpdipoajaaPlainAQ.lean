/-
  Plain facts of chapter 14: a place does not hang on the order of its word. No program is named here.
-/
import Derived.Test.YtpnjihpdipoajaaPlainAI
namespace Go.Proofs.Ytpnjihpdipoajaa
open Go.RowKit
set_option linter.unusedVariables false

theorem placeOk_parts {p : Plc} (hs : startOk p.start = true) (hst : stepB p.step = true) : placeOk p = (wordOk (p.start.length : Int) p.word && (afterW (sameR p.start.length p.step) p.start p.word).isSome) := by
  have hu := (startOk_yes hs).1
  have hC : 1 ≤ p.start.length ∧ p.start.length ≤ 3 := by
    unfold urnOk at hu
    rw [Bool.and_eq_true] at hu
    exact of_decide_eq_true hu.1
  have e : sameRule (p.start.length : Int) p.step = sameR p.start.length p.step := by
    unfold sameRule
    rw [decide_eq_true (show 1 ≤ (p.start.length : Int) ∧ (p.start.length : Int) ≤ 3 by omega), hst]
    simp
  have hr := sameR_rule hC.1 hC.2 (stepB_yes hst)
  unfold placeOk afterOk afterC begun
  rw [hs, hst, e, ruleOk_mk hr]
  simp
theorem afterW_rev {C : Nat} {s : Int} {zs ws : List Int} (hl : zs.length = C) (h : ∀ x ∈ ws, 0 ≤ x ∧ x < C) : (afterW (sameR C s) zs ws.reverse).isSome = (afterW (sameR C s) zs ws).isSome := by
  have h1 := afterW_ways (sameR C s) zs ws
  have h2 := afterW_ways (sameR C s) zs ws.reverse
  rw [rways_same hl (fun x hx => h x (List.mem_reverse.1 hx)), cntL_reverse, ← rways_same hl h] at h2
  rw [Bool.eq_iff_iff, h1, h2]
theorem placeOk_rev (p : Plc) : placeOk ⟨p.start, p.step, p.word.reverse⟩ = placeOk p := by
  by_cases hs : startOk p.start = true
  · by_cases hst : stepB p.step = true
    · rw [placeOk_parts (p := p) hs hst, placeOk_parts (p := ⟨p.start, p.step, p.word.reverse⟩) hs hst]
      show (wordOk _ p.word.reverse && _) = _
      rw [wordOk_reverse]
      cases hw : wordOk (p.start.length : Int) p.word with
      | false => rfl
      | true =>
        obtain ⟨_, _, _, h4⟩ := wordOk_yes hw
        exact congrArg _ (afterW_rev rfl h4)
    · have : stepB p.step = false := by simpa using hst
      unfold placeOk; simp [this]
  · have : startOk p.start = false := by simpa using hs
    unfold placeOk; simp [this]
theorem placeOk_bare {p : Plc} (h : placeOk p = true) : placeOk ⟨p.start, p.step, []⟩ = true := by
  have hp := h
  unfold placeOk at hp
  simp only [Bool.and_eq_true] at hp
  obtain ⟨⟨h1, h2⟩, _⟩ := hp
  have hu := (startOk_yes h1).1
  rw [placeOk_parts (p := ⟨p.start, p.step, []⟩) h1 h2]
  rw [placeOk_parts h1 h2, Bool.and_eq_true] at h
  obtain ⟨a, b, _, _⟩ := wordOk_yes h.1
  have hw : wordOk (p.start.length : Int) [] = true := by
    unfold wordOk
    simp
    omega
  rw [hw]; rfl
end Go.Proofs.Ytpnjihpdipoajaa
