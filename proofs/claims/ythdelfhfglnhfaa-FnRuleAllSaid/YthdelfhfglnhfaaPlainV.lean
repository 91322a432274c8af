/-
  Plain lemmas of chapter 4's laws: products that rise, sums over colours. No program is named here.
-/
import Derived.Test.YthdelfhfglnhfaaPlainT
namespace Go.Proofs.Ythdelfhfglnhfaa
open Go.RowKit

theorem rprod_snoc (e : Int) (m : Nat) (t : Int) : rprod e (m + 1) t = rprod e m t * max (t + m * e) 0 := by
  induction m generalizing t with
  | zero => simp [rprod]
  | succ m ih =>
    have h1 : rprod e (m + 2) t = max t 0 * rprod e (m + 1) (t + e) := rfl
    have h2 : rprod e (m + 1) t = max t 0 * rprod e m (t + e) := rfl
    have h3 : t + e + (m : Int) * e = t + ((m + 1 : Nat) : Int) * e := by rw [Int.natCast_add, Int.add_mul]; simp; omega
    rw [h1, ih, h2, h3, Int.mul_assoc]
theorem rprod_bound (e : Int) (m : Nat) (t : Int) (h : ∀ j : Nat, j < m → t + j * e ≤ 84) : 0 ≤ rprod e m t ∧ rprod e m t ≤ 84 ^ m := by
  induction m with
  | zero => simp [rprod]
  | succ m ih =>
    obtain ⟨i0, i1⟩ := ih (fun j hj => h j (by omega))
    have hm := h m (by omega)
    rw [rprod_snoc, Int.pow_succ]
    have hx : 0 ≤ max (t + (m : Int) * e) 0 ∧ max (t + (m : Int) * e) 0 ≤ 84 := by omega
    exact ⟨Int.mul_nonneg i0 hx.1, Int.mul_le_mul i1 hx.2 hx.1 (Int.pow_nonneg (by decide))⟩
/-- What the rule puts in more after each draw: bounds. -/
theorem evenN_bounds (c : Int) (rs : List (List Int)) : -1 ≤ evenN c rs ∧ evenN c rs ≤ 9 := by
  by_cases h : evenOk c rs = true
  · have hk := h
    unfold evenOk at hk
    simp only [Bool.and_eq_true] at hk
    have hR := (ruleOk_yes hk.1).2
    obtain ⟨l, hl⟩ : ∃ l, rs[0]? = some l := ⟨_, List.getElem?_eq_getElem (by have := hR.len; have := hR.pos; omega)⟩
    have := row_sum hR hl
    unfold evenN rowOf
    rw [h, hl]
    exact this.2.2
  · have h : evenOk c rs = false := by simpa using h
    unfold evenN
    rw [h]; simp
theorem even_at {C : Nat} {rs : List (List Int)} (h : evenOk (C : Int) rs = true) : Even C rs (evenN (C : Int) rs) := by
  have := even_of h
  rw [Int.toNat_natCast] at this
  unfold evenN
  rw [h]
  exact this
theorem step_bound {T M : Int} {k : Nat} (hT0 : 0 ≤ T) (hT : T ≤ 30) (hM0 : -1 ≤ M) (hM : M ≤ 9) (hk : k ≤ 6) : -6 ≤ (k : Int) * M ∧ (k : Int) * M ≤ 54 ∧ T + (k : Int) * M ≤ 84 := by
  rcases (show k = 0 ∨ k = 1 ∨ k = 2 ∨ k = 3 ∨ k = 4 ∨ k = 5 ∨ k = 6 by omega) with h | h | h | h | h | h | h <;> subst h <;> simp <;> omega
theorem start_sum {zs : List Int} (h : startOk zs = true) : 0 ≤ isum zs ∧ isum zs ≤ 30 := by
  obtain ⟨hu, hz⟩ := startOk_yes h
  have hl := urnOk_size hu
  have h1 := isum_bounds 10 zs hz
  omega
end Go.Proofs.Ythdelfhfglnhfaa
