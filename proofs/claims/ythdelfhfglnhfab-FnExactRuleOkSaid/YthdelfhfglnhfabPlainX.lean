/-
  Plain lemmas for the laws of chapter 2.
-/
import Derived.Test.YthdelfhfglnhfabPlainW
namespace Go.Proofs.Ythdelfhfglnhfab
open Go.RowKit

/-- How many colours have balls. -/
def posCnt : List Int → Int
  | [] => 0
  | z :: r => (if 0 < z then 1 else 0) + posCnt r
theorem posCnt_append (xs ys : List Int) : posCnt (xs ++ ys) = posCnt xs + posCnt ys := by
  induction xs with
  | nil => simp [posCnt]
  | cons x r ih => simp only [List.cons_append, posCnt, ih]; omega
theorem posCnt_take_succ {zs : List Int} {k : Nat} {x : Int} (h : zs[k]? = some x) : posCnt (zs.take (k + 1)) = posCnt (zs.take k) + (if 0 < x then 1 else 0) := by
  rw [take_succ h, posCnt_append]; simp [posCnt]
theorem posCnt_bound (zs : List Int) : 0 ≤ posCnt zs ∧ posCnt zs ≤ zs.length := by
  induction zs with
  | nil => simp [posCnt]
  | cons z r ih => simp only [posCnt, List.length_cons]; split <;> omega
theorem ways_twice {zs : List Int} {k : Nat} {z : Int} (h : zs[k]? = some z) (h0 : 0 ≤ z) : ways zs [(k : Int), (k : Int)] = z * (z - 1) := by
  have hk := (List.getElem?_eq_some_iff.1 h).1
  have e : (k : Int).toNat = k := by omega
  have eb : ballsAt zs (k : Int) = z := ballsAt_eq (by rw [e]; exact h)
  have eb2 : ballsAt (zs.set k (z - 1)) (k : Int) = z - 1 := ballsAt_eq (by rw [e, List.getElem?_set_self hk])
  simp only [ways]
  rw [eb, e, eb2, Int.mul_one]
  rcases Int.lt_or_le 0 z with h1 | h1
  · rw [Int.max_eq_left h0, Int.max_eq_left (by omega)]
  · obtain rfl : z = 0 := by omega
    simp
theorem wordWays_twice {zs : List Int} {k : Nat} {z : Int} (hu : urnOk zs = true) (h : zs[k]? = some z) : wordWays zs [(k : Int), (k : Int)] = z * (z - 1) := by
  have hk := (List.getElem?_eq_some_iff.1 h).1
  have hs := urnOk_size hu
  have hw : wordOk (zs.length : Int) [(k : Int), (k : Int)] = true := wordOk_mk (by omega) (by omega) (by simp) (fun j x hj hx => by
    match j, hj with
    | 0, _ => simp at hx; omega
    | 1, _ => simp at hx; omega)
  unfold wordWays
  rw [hu, hw]
  exact ways_twice h (urnOk_elem hu h).1
theorem fall_two {S : Int} (h : 0 ≤ S) : fall S 2 = S * (S - 1) := by
  simp only [fall, Int.mul_one]
  rcases Int.lt_or_le 0 S with h1 | h1
  · rw [Int.max_eq_left h, Int.max_eq_left (by omega)]
  · obtain rfl : S = 0 := by omega
    simp
theorem allWays_two {zs : List Int} (hu : urnOk zs = true) : allWays zs 2 = isum zs * (isum zs - 1) := by
  unfold allWays
  rw [hu]
  exact fall_two (urnOk_sum hu).1
theorem pair_eq (a b : Int) : (a + b) * (a + b - 1) = a * (a - 1) + b * (b - 1) + 2 * (a * b) := by
  simp only [Int.sub_eq_add_neg, Int.add_mul, Int.mul_add]
  rw [Int.mul_comm b a]; omega
theorem same_all {zs : List Int} (hu : urnOk zs = true) : sameSum zs ≤ isum zs * (isum zs - 1) ∧ (sameSum zs = isum zs * (isum zs - 1) ↔ posCnt zs < 2) := by
  have hs := urnOk_size hu
  have hm := urnOk_mem hu
  have pos : ∀ a b : Int, 0 ≤ a → 0 ≤ b → 0 ≤ a * b ∧ (a * b = 0 ↔ a = 0 ∨ b = 0) := fun a b ha hb => ⟨Int.mul_nonneg ha hb, Int.mul_eq_zero⟩
  match zs, hs with
  | [a], _ =>
    have ha := hm a (by simp)
    simp only [sameSum, isum, posCnt, Int.add_zero]
    refine ⟨Int.le_refl _, ?_⟩
    split <;> simp
  | [a, b], _ =>
    have ha := hm a (by simp)
    have hb := hm b (by simp)
    obtain ⟨p1, p2⟩ := pos a b ha.1 hb.1
    simp only [sameSum, isum, posCnt, Int.add_zero]
    rw [pair_eq]
    constructor
    · omega
    · constructor
      · intro h
        have : a * b = 0 := by omega
        rcases p2.1 this with h | h <;> subst h <;> ((repeat' split) <;> omega)
      · intro h
        have : a = 0 ∨ b = 0 := by
          revert h; split <;> split <;> omega
        have := p2.2 this
        omega
  | [a, b, c], _ =>
    have ha := hm a (by simp)
    have hb := hm b (by simp)
    have hc := hm c (by simp)
    obtain ⟨p1, p2⟩ := pos a (b + c) ha.1 (by omega)
    obtain ⟨q1, q2⟩ := pos b c hb.1 hc.1
    simp only [sameSum, isum, posCnt, Int.add_zero]
    rw [pair_eq, pair_eq]
    constructor
    · omega
    · constructor
      · intro h
        have h1 : a * (b + c) = 0 := by omega
        have h2 : b * c = 0 := by omega
        rcases p2.1 h1 with h | h
        · subst h
          rcases q2.1 h2 with h | h <;> subst h <;> ((repeat' split) <;> omega)
        · have hb0 : b = 0 := by omega
          have hc0 : c = 0 := by omega
          subst hb0; subst hc0
          (repeat' split) <;> omega
      · intro h
        have h3 : (a = 0 ∨ b + c = 0) ∧ (b = 0 ∨ c = 0) := by
          revert h; split <;> split <;> split <;> omega
        have h1 := p2.2 h3.1
        have h2 := q2.2 h3.2
        omega
theorem sameApart_lt {zs : List Int} (h : urnOk zs = true) : 0 ≤ sameSum zs := by
  have := sameSum_take h zs.length
  rw [List.take_length] at this
  exact this.1
end Go.Proofs.Ythdelfhfglnhfab
