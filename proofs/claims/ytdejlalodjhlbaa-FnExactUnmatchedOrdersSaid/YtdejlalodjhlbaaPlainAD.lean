/-
  Plain facts for the laws of chapter 12. No program is named here.
-/
import Derived.Test.YtdejlalodjhlbaaPlainAC
namespace Go.Proofs.Ytdejlalodjhlbaa
open Go.RowKit
set_option linter.unusedVariables false

theorem samp_facts {t m p : Int} (h : sampOk t m p = true) (hm : m ≤ 12) : 0 ≤ t ∧ t ≤ 30 ∧ 0 ≤ m ∧ m ≤ t ∧ 0 ≤ p ∧ p ≤ 8 ∧ p ≤ t ∧ mixOk (sampL t m p) = true ∧ isum (sampL t m p) = chooseI t p ∧
    cntsTo (sampL t m p) (p + 1).toNat * t = isum (sampL t m p) * m * p ∧ ∀ k : Nat, (k : Int) < p → shortAt (sampL t m p) k = markN t m (p - 1) (k : Int) * (t - p + 1) := by
  obtain ⟨hb, hmix⟩ := Bool.and_eq_true_iff.1 h
  obtain ⟨hb, hp8⟩ := Bool.and_eq_true_iff.1 hb
  have hp8 := of_decide_eq_true hp8
  obtain ⟨t0, t1, m0, m1, p0, p1⟩ := of_decide_eq_true hb
  obtain ⟨T, rfl, hT⟩ := nat_of t0 t1
  obtain ⟨M, rfl, hM⟩ := nat_of m0 hm
  obtain ⟨P, rfl, hP⟩ := nat_of p0 hp8
  have hs : isum (sampL (T : Int) (M : Int) (P : Int)) = chooseI (T : Int) (P : Int) := by
    rw [← (mark_facts (n := (T : Int)) (m := (M : Int)) (p := (P : Int)) t0 t1 m0 hm m1 p0 (by omega) p1).1]
    exact samp_sum (T : Int) (M : Int) (P : Int) ((P : Int) + 1).toNat
  have hc := List.all_eq_true.1 (List.all_eq_true.1 (List.all_eq_true.1 samp_cnt T (List.mem_range.2 (by simp at hT; omega))) M (List.mem_range.2 (by simp at hM; omega))) P (List.mem_range.2 (by simp at hP; omega))
  have n1 : Nat.blt T M = false := by
    cases e : Nat.blt T M with
    | false => rfl
    | true => have := Nat.le_of_ble_eq_true e; omega
  have n2 : Nat.blt T P = false := by
    cases e : Nat.blt T P with
    | false => rfl
    | true => have := Nat.le_of_ble_eq_true e; omega
  rw [n1, n2, Bool.false_or, Bool.false_or, Bool.and_eq_true] at hc
  obtain ⟨c1, c2⟩ := hc
  refine ⟨t0, t1, m0, m1, p0, hp8, p1, hmix, hs, ?_, fun k hk => ?_⟩
  · rw [show ((P : Int) + 1).toNat = P + 1 by omega]
    exact of_decide_eq_true c1
  · exact of_decide_eq_true (List.all_eq_true.1 c2 k (List.mem_range.2 (by omega)))
theorem mix_short {a b : List Int} (p q : Int) (h : a.length = b.length) : mixW (shortL a) p (shortL b) q = shortL (mixW a p b q) := by
  have key : ∀ k : Nat, k < a.length - 1 → mixAtW (shortL a) p (shortL b) q k = shortAt (mixW a p b q) k := by
    intro k hk
    have ea : atI (shortL a) k = shortAt a k := by unfold atI; rw [shortL_at hk]; rfl
    have eb : atI (shortL b) k = shortAt b k := by unfold atI; rw [shortL_at (by omega)]; rfl
    have e0 : atI (mixW a p b q) k = mixAtW a p b q k := by unfold atI; rw [mixW_at (by omega)]; rfl
    have e1 : atI (mixW a p b q) (k + 1) = mixAtW a p b q (k + 1) := by unfold atI; rw [mixW_at (by omega)]; rfl
    unfold mixAtW
    rw [ea, eb]
    unfold shortAt
    rw [e0, e1, mixW_len, ← h]
    unfold mixAtW
    generalize atI a k = X
    generalize atI a (k + 1) = X1
    generalize atI b k = Y
    generalize atI b (k + 1) = Y1
    generalize ((a.length : Int) - 1 - (k : Int)) = N
    generalize ((k : Int) + 1) = K
    simp only [Int.add_mul]
    rw [Int.mul_right_comm X N p, Int.mul_right_comm X1 K p, Int.mul_right_comm Y N q, Int.mul_right_comm Y1 K q]
    omega
  apply List.ext_getElem?
  intro k
  rcases Nat.lt_or_ge k (a.length - 1) with hk | hk
  · rw [mixW_at (by rw [shortL_len]; exact hk), shortL_at (by rw [mixW_len]; exact hk), key k hk]
  · rw [List.getElem?_eq_none (by rw [mixW_len, shortL_len]; exact hk), List.getElem?_eq_none (by rw [shortL_len, mixW_len]; exact hk)]
theorem mixed_short {a b : List Int} {p q : Int} (h : mixedOk a p b q = true) (ha : shortOk a = true) (hb : shortOk b = true) (hw : shortOk (mixW a p b q) = true) :
    mixedOk (shortL a) p (shortL b) q = true ∧ mixedR (shortL a) p (shortL b) q = shortL (mixW a p b q) := by
  obtain ⟨h, _⟩ := Bool.and_eq_true_iff.1 h
  unfold mixB at h
  simp only [Bool.and_eq_true] at h
  obtain ⟨⟨⟨⟨h1, h2⟩, hl⟩, hp⟩, hq⟩ := h
  have hl := of_decide_eq_true hl
  have e := mix_short p q hl
  have ok : mixedOk (shortL a) p (shortL b) q = true := by
    unfold mixedOk mixB
    rw [e, (Bool.and_eq_true_iff.1 ha).2, (Bool.and_eq_true_iff.1 hb).2, (Bool.and_eq_true_iff.1 hw).2, hp, hq, decide_eq_true (show (shortL a).length = (shortL b).length by rw [shortL_len, shortL_len, hl])]
    rfl
  exact ⟨ok, by unfold mixedR; rw [if_pos ok, e]⟩
end Go.Proofs.Ytdejlalodjhlbaa
