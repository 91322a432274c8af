/-
  Contracts of chapter 4, the program's side: ruleRowOk, RuleOk, slices.Max, StartOk, beginsOk, EvenRule.
-/
import Derived.Test.YtdejlalodjhlbaaZrule
import Derived.Test.YtdejlalodjhlbaaZimp
namespace Go.Proofs.Ytdejlalodjhlbaa
open Go.RowKit

def rowOkB (cl : Int) (k : Nat) (l : List Int) : Bool := decide ((l.length : Int) = cl) && rowOkG k 0 l
theorem rowOkB_yes {cl : Int} {k : Nat} {l : List Int} (h : rowOkB cl k l = true) : (l.length : Int) = cl ∧ ∀ (j : Nat) x, l[j]? = some x → entP k j x := by
  unfold rowOkB at h
  simp only [Bool.and_eq_true, decide_eq_true_eq] at h
  exact ⟨h.1, fun j x hx => by have := rowOkG_yes h.2 j x hx; simpa [entP] using this⟩
theorem rowOkB_mk {cl : Int} {k : Nat} {l : List Int} (h1 : (l.length : Int) = cl) (h2 : ∀ (j : Nat) x, l[j]? = some x → entP k j x) : rowOkB cl k l = true := by
  unfold rowOkB
  simp only [Bool.and_eq_true, decide_eq_true_eq]
  exact ⟨h1, rowOkG_mk fun j x hx => by have := h2 j x hx; simpa [entP] using this⟩
theorem rowOkB_no {cl : Int} {k : Nat} {l : List Int} (h : (l.length : Int) ≠ cl ∨ ∃ (j : Nat) (x : Int), l[j]? = some x ∧ ¬ entP k j x) : rowOkB cl k l = false := by
  rw [Bool.eq_false_iff]
  intro hh
  obtain ⟨h1, h2⟩ := rowOkB_yes hh
  rcases h with h | ⟨j, x, hx, h⟩
  · exact h h1
  · exact h (h2 j x hx)

/-- The greatest of the first ones. -/
def mxN (zs : List Int) : Nat → Int
  | 0 => zs[0]?.getD 0
  | k + 1 => max (mxN zs k) (zs[k]?.getD 0)
theorem mxN_le {zs : List Int} {M : Int} (h : ∀ z ∈ zs, z ≤ M) (h0 : 0 < zs.length) {k : Nat} (hk : k ≤ zs.length) : mxN zs k ≤ M := by
  induction k with
  | zero => simp only [mxN]; rw [List.getElem?_eq_getElem h0]; exact h _ (List.getElem_mem h0)
  | succ k ih =>
    have h1 := ih (by omega)
    have h2 := h zs[k] (List.getElem_mem (by omega))
    simp only [mxN]; rw [List.getElem?_eq_getElem (by omega), Option.getD_some]; omega
theorem mxN_ge {zs : List Int} {j : Nat} {x : Int} (hx : zs[j]? = some x) {k : Nat} (hk : j < k) : x ≤ mxN zs k := by
  induction k with
  | zero => omega
  | succ k ih =>
    simp only [mxN]
    rcases Nat.lt_or_ge j k with h | h
    · have := ih h; omega
    · obtain rfl : j = k := by omega
      rw [hx, Option.getD_some]; omega

theorem startOk_mx {zs : List Int} (h : urnOk zs = true) : startOk zs = decide (mxN zs zs.length ≤ 10) := by
  have h0 : 0 < zs.length := by have := (urnOk_size h).1; omega
  by_cases hm : mxN zs zs.length ≤ 10
  · rw [decide_eq_true hm]
    exact startOk_mk h fun z hz => by
      obtain ⟨j, hj, rfl⟩ := List.getElem_of_mem hz
      have := mxN_ge (List.getElem?_eq_getElem hj) hj
      omega
  · rw [decide_eq_false hm, Bool.eq_false_iff]
    intro hh
    exact hm (mxN_le (fun z hz => ((startOk_yes hh).2 z hz).2) h0 (Nat.le_refl _))
theorem startOk_no {zs : List Int} (h : urnOk zs = false) : startOk zs = false := by unfold startOk; rw [h]; rfl

end Go.Proofs.Ytdejlalodjhlbaa
