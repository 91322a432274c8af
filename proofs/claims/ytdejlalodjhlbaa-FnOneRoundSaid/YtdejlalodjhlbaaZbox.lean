/-
  Words, plain lemmas and contracts that belong together, joined into one file.
-/
import Derived.Test.YtdejlalodjhlbaaZpl
import Derived.Test.YtdejlalodjhlbaaZoks
import Derived.Test.YtdejlalodjhlbaaZdraw
import Derived.BigQuiet
namespace Go.Proofs.Ytdejlalodjhlbaa
open Go.RowKit

theorem boxOk_no {m f s : Int} (h : ¬(1 ≤ m ∧ m ≤ 8) ∨ ¬(0 ≤ f ∧ f ≤ m) ∨ ¬(0 ≤ s ∧ s ≤ m) ∨ ¬(f + s ≤ m)) : boxOk m f s = false := decide_eq_false (by omega)
theorem boxOk_all {m f s : Int} (h1 : 1 ≤ m ∧ m ≤ 8) (h2 : 0 ≤ f ∧ f ≤ m) (h3 : 0 ≤ s ∧ s ≤ m) (h4 : f + s ≤ m) : boxOk m f s = true := decide_eq_true (by omega)

theorem fallN_cnt : ((List.range 9).all fun n => (List.range 9).all fun k => Nat.ble (fallN n k) 40320) = true := by kernel_rfl
theorem fallN_bound {n k : Nat} (hn : n ≤ 8) (hk : k ≤ 8) : fallN n k ≤ 40320 := Nat.le_of_ble_eq_true (all_range (all_range fallN_cnt (k := n) (by omega)) (k := k) (by omega))

theorem boxL_elem {M F S : Nat} (h1 : 1 ≤ M) (h8 : M ≤ 8) (hs : F + S ≤ M) {k : Nat} {x : Int} (hx : (boxL M F S)[k]? = some x) : k ≤ M ∧ x = (bwN M F S k : Int) ∧ 0 ≤ x ∧ x ≤ 40320 := by
  have hk : k < M + 1 := by have := (List.getElem?_eq_some_iff.1 hx).1; rwa [boxL_len] at this
  rw [boxL_at hk] at hx
  injection hx with hx
  have := bw_bound h1 h8 hs (w := k) (by omega)
  omega
theorem boxL_part {M F S : Nat} (h1 : 1 ≤ M) (h8 : M ≤ 8) (hs : F + S ≤ M) (k : Nat) : 0 ≤ isum ((boxL M F S).take k) ∧ isum ((boxL M F S).take k) ≤ 1000000000000 := by
  have hb := sum_bound h1 h8 hs
  rcases Nat.lt_or_ge (M + 1) k with h | h
  · rw [List.take_of_length_le (by rw [boxL_len]; omega), boxL_sum]; omega
  · rw [boxL_take h]
    have := sumTo_mono (f := bwN M F S) h
    unfold boxT at *
    omega
theorem overN_int (a c : Nat) : (a : Int) / gcdI (a : Int) (c : Int) = (overN a c : Int) := by
  unfold gcdI overN
  rw [Int.toNat_natCast, Int.toNat_natCast]
  exact (Int.natCast_ediv _ _).symm
theorem overN_int2 (a c : Nat) : (c : Int) / gcdI (a : Int) (c : Int) = (overN c a : Int) := by
  unfold gcdI overN
  rw [Int.toNat_natCast, Int.toNat_natCast, Nat.gcd_comm]
  exact (Int.natCast_ediv _ _).symm
end Go.Proofs.Ytdejlalodjhlbaa

namespace Go.Proofs.Ytdejlalodjhlbaa
open Go.RowKit

theorem boxUp_step {M F S k : Nat} (h1 : 1 ≤ M) (h8 : M ≤ 8) (hs : F + S ≤ M) (hk : k ≤ M) : (boxUp M F S k : Int) + (bwN M F S k : Int) * ((k : Int) - (F : Int)) = (boxUp M F S (k + 1) : Int) := by
  have e : (bwN M F S k : Int) * ((k : Int) - (F : Int)) = ((bwN M F S k * (k - F) : Nat) : Int) := by
    rcases Nat.lt_or_ge k F with h | h
    · rw [(bw_zero h1 h8 hs hk).2 (.inl h)]; simp
    · rw [Int.natCast_mul, Int.natCast_sub h]
  rw [e, ← Int.natCast_add]; rfl
theorem boxMe_step (M F S k : Nat) : (boxMe M F S k : Int) + (bwN M F S k : Int) * (k : Int) = (boxMe M F S (k + 1) : Int) := by
  rw [← Int.natCast_mul, ← Int.natCast_add]; rfl
theorem boxUp_bound {M F S k : Nat} (h1 : 1 ≤ M) (h8 : M ≤ 8) (hs : F + S ≤ M) (hk : k ≤ M + 1) : boxUp M F S k ≤ 1000000 :=
  Nat.le_trans (sumTo_mono hk) (sum_bound h1 h8 hs).2.2.1
theorem boxMe_bound {M F S k : Nat} (h1 : 1 ≤ M) (h8 : M ≤ 8) (hs : F + S ≤ M) (hk : k ≤ M + 1) : boxMe M F S k ≤ 1000000 :=
  Nat.le_trans (sumTo_mono hk) (sum_bound h1 h8 hs).2.2.2
theorem gcdI_small {a c : Nat} (hc : 0 < c) (hb : c ≤ 1000000000) : 0 < gcdI (a : Int) (c : Int) ∧ gcdI (a : Int) (c : Int) ≤ 1000000000 := by
  unfold gcdI
  rw [Int.toNat_natCast, Int.toNat_natCast]
  have h1 := Nat.gcd_pos_of_pos_right a hc
  have h2 := Nat.gcd_le_right a hc
  omega

theorem wrap_over {a b : Nat} (h : a ≤ 1000000000) : wrap64 (overN a b : Int) = (overN a b : Int) := by
  have : overN a b ≤ a := Nat.div_le_self _ _
  exact IntWalk.wrap64_in _ (by omega)

theorem bestTo_lt (f : Nat → Nat) (k : Nat) (h : 0 < k) : bestTo f k < k := by
  induction k with
  | zero => omega
  | succ k ih =>
    simp only [bestTo]
    cases hb : Nat.blt (f (bestTo f k)) (f k) with
    | true => simp
    | false =>
      rw [cond_false]
      rcases Nat.eq_zero_or_pos k with h0 | h0
      · subst h0; simp [bestTo]
      · have := ih h0; omega

end Go.Proofs.Ytdejlalodjhlbaa
