/-
  Facts of chapter 13 as its laws ask them. No program is named here.
-/
import Derived.Test.YtdejlalodjhlbaaPlainAF
import Derived.Test.YtdejlalodjhlbaaPlainZ
namespace Go.Proofs.Ytdejlalodjhlbaa
open Go.RowKit
set_option linter.unusedVariables false

theorem fac_eq {h : Nat} (hh : h ≤ 6) : factN h = facH h ∧ facH h ≤ 720 ∧ 1 ≤ facH h := by
  rcases (show h = 0 ∨ h = 1 ∨ h = 2 ∨ h = 3 ∨ h = 4 ∨ h = 5 ∨ h = 6 by omega) with rfl | rfl | rfl | rfl | rfl | rfl | rfl <;> decide
theorem ord_facts {h : Nat} (hh : h ≤ 6) : cntNone h (facH h) = noneF h ∧ (1 ≤ h → cntRound h (facH h) * h = facH h) ∧ ∀ j, j < facH h → hatsB (ordTo j h).1 = true ∧ (ordTo j h).1.length = h := by
  have hc := List.all_eq_true.1 ord_cnt h (List.mem_range.2 (by omega))
  simp only [Bool.and_eq_true, Bool.or_eq_true] at hc
  obtain ⟨⟨a, b⟩, c⟩ := hc
  refine ⟨Nat.eq_of_beq_eq_true a, fun h1 => ?_, fun j hj => ?_⟩
  · rcases b with b | b
    · exact absurd (Nat.eq_of_beq_eq_true b) (by omega)
    · exact Nat.eq_of_beq_eq_true b
  · have := List.all_eq_true.1 c j (List.mem_range.2 hj)
    rw [Bool.and_eq_true] at this
    exact ⟨this.1, Nat.eq_of_beq_eq_true this.2⟩
theorem cnt_le (h : Nat) (j : Nat) : cntNone h j ≤ j ∧ cntRound h j ≤ j := by
  induction j with
  | zero => exact ⟨Nat.le_refl _, Nat.le_refl _⟩
  | succ j ih =>
    simp only [cntNone, cntRound]
    refine ⟨?_, ?_⟩ <;> · split <;> omega
theorem mo_facts {h : Nat} (hh : h ≤ 6) : moTo h (h + 1) = (facH h : Int) ∧ (1 ≤ h → moK h (h + 1) = (facH h : Int)) ∧ (2 ≤ h → moP h (h + 1) = (facH h : Int)) ∧ matOrd (h : Int) 0 = unmW (h : Int) ∧
    (1 ≤ h → unmW (h : Int) = (h : Int) * unmW ((h : Int) - 1) + (1 - (h : Int) % 2 * 2)) ∧
    ∀ k, k ≤ h → (0 ≤ matOrd (h : Int) (k : Int) ∧ matOrd (h : Int) (k : Int) ≤ 1000) ∧ (0 ≤ moTo h k ∧ moTo h k ≤ 1000 ∧ 0 ≤ moK h k ∧ moK h k ≤ 1000 ∧ 0 ≤ moP h k ∧ moP h k ≤ 1000) := by
  have hc := List.all_eq_true.1 mo_cnt h (List.mem_range.2 (by omega))
  simp only [Bool.and_eq_true, Bool.or_eq_true] at hc
  obtain ⟨⟨⟨⟨⟨a, b⟩, c⟩, d⟩, e⟩, f⟩ := hc
  refine ⟨of_decide_eq_true a, fun h1 => ?_, fun h2 => ?_, of_decide_eq_true d, fun h1 => ?_, fun k hk => ?_⟩
  · rcases b with b | b
    · exact absurd (Nat.eq_of_beq_eq_true b) (by omega)
    · exact of_decide_eq_true b
  · rcases c with c | c
    · exact absurd (Nat.le_of_ble_eq_true c) (by omega)
    · exact of_decide_eq_true c
  · rcases e with e | e
    · exact absurd (Nat.eq_of_beq_eq_true e) (by omega)
    · exact of_decide_eq_true e
  · have := List.all_eq_true.1 f k (List.mem_range.2 (by omega))
    rw [Bool.and_eq_true] at this
    exact ⟨of_decide_eq_true this.1, of_decide_eq_true this.2⟩
theorem mat_bound (l : List Int) (k : Nat) : 0 ≤ matTo l k ∧ matTo l k ≤ (k : Int) := by
  induction k with
  | zero => exact ⟨Int.le_refl _, Int.le_refl _⟩
  | succ k ih =>
    simp only [matTo]
    split <;> omega
theorem noneF_lt {h : Nat} (hh : h ≤ 6) : noneF h ≤ 265 := by
  rcases (show h = 0 ∨ h = 1 ∨ h = 2 ∨ h = 3 ∨ h = 4 ∨ h = 5 ∨ h = 6 by omega) with rfl | rfl | rfl | rfl | rfl | rfl | rfl <;> decide
end Go.Proofs.Ytdejlalodjhlbaa
