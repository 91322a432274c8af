/-
  Plain functions and lemmas of chapter 14: numbers as texts, texts as numbers, texts cut at a byte. No program is named here.
-/
import Derived.Test.YtkgfbmlhplclfaaGreatDoorZpl
namespace Go.Proofs.YtkgfbmlhplclfaaGreatDoor
open Go.RowKit
set_option linter.unusedVariables false

abbrev Bs := List UInt8
def dig (n : Nat) : UInt8 := UInt8.ofNat (48 + n)
def numF : Nat → Nat → Bs
  | 0, n => [dig n]
  | f + 1, n => if n < 10 then [dig n] else numF f (n / 10) ++ [dig (n % 10)]
/-- A number from 0 on, in decimal. -/
def numT (n : Nat) : Bs := numF 20 n
theorem numF_step (f : Nat) : ∀ n, n < 10 ^ (f + 1) → numF f n = numF (f + 1) n := by
  induction f with
  | zero =>
    intro n hn
    have : n < 10 := by simpa using hn
    simp only [numF]; rw [if_pos this]
  | succ f ih =>
    intro n hn
    have e1 : numF (f + 1) n = if n < 10 then [dig n] else numF f (n / 10) ++ [dig (n % 10)] := rfl
    have e2 : numF (f + 1 + 1) n = if n < 10 then [dig n] else numF (f + 1) (n / 10) ++ [dig (n % 10)] := rfl
    rw [e1, e2, ih (n / 10) (by rw [Nat.pow_succ] at hn; omega)]
theorem numT_small {n : Nat} (h : n < 10) : numT n = [dig n] := by
  show numF 20 n = _
  unfold numF; rw [if_pos h]
theorem numT_big {n : Nat} (h : ¬ n < 10) (hb : n < 100000000000000000000) : numT n = numT (n / 10) ++ [dig (n % 10)] := by
  show numF 20 n = numF 20 (n / 10) ++ _
  have e : numF 20 n = if n < 10 then [dig n] else numF 19 (n / 10) ++ [dig (n % 10)] := rfl
  rw [e, if_neg h, numF_step 19 (n / 10) (by omega)]
theorem numF_pos (f n : Nat) : 1 ≤ (numF f n).length := by
  cases f with
  | zero => exact Nat.le_refl _
  | succ f => simp only [numF]; split <;> simp
theorem numT_pos (n : Nat) : 1 ≤ (numT n).length := numF_pos 20 n
theorem numF_len (f n : Nat) : (numF f n).length ≤ f + 1 := by
  induction f generalizing n with
  | zero => exact Nat.le_refl _
  | succ f ih =>
    simp only [numF]
    split
    · simp
    · have := ih (n / 10); simp; omega
theorem numT_len (n : Nat) : (numT n).length ≤ 21 := numF_len 20 n
theorem dig_digit {n : Nat} (h : n < 10) : 48 ≤ dig n ∧ dig n ≤ 57 := by
  have h2 : (List.range 10).all (fun n => decide (48 ≤ dig n) && decide (dig n ≤ 57)) = true := by decide
  have := List.all_eq_true.1 h2 n (List.mem_range.2 h)
  simpa using this
theorem numF_digits (f : Nat) : ∀ n, n < 10 ^ (f + 1) → ∀ c ∈ numF f n, 48 ≤ c ∧ c ≤ 57 := by
  induction f with
  | zero =>
    intro n hn c hc
    have : n < 10 := by simpa using hn
    simp only [numF, List.mem_singleton] at hc
    subst hc
    exact dig_digit this
  | succ f ih =>
    intro n hn c hc
    simp only [numF] at hc
    split at hc
    · next h =>
      simp only [List.mem_singleton] at hc
      subst hc
      exact dig_digit h
    · rcases List.mem_append.1 hc with h | h
      · exact ih (n / 10) (by rw [Nat.pow_succ] at hn; omega) c h
      · simp only [List.mem_singleton] at h
        subst h
        exact dig_digit (by omega)
theorem numT_digits {n : Nat} (h : n < 1000000000000000000000) : ∀ c ∈ numT n, 48 ≤ c ∧ c ≤ 57 := numF_digits 20 n (by omega)

/-- A step: a minus sign ahead of what is less than 0. -/
def stepT (z : Int) : Bs := if z < 0 then 45 :: numT (-z).toNat else numT z.toNat
/-- The number of one to six digits without leading zeros; -1 for others. -/
def digA : Nat → Bs → Int
  | n, [] => (n : Int)
  | n, c :: r => if 48 ≤ c ∧ c ≤ 57 then digA (10 * n + (c.toNat - 48)) r else -1
def digP (l : Bs) : Int := if 1 ≤ l.length ∧ l.length ≤ 6 ∧ ¬(1 < l.length ∧ l.head? = some 48) then digA 0 l else -1
def signP (l : Bs) : Int := if 1 < l.length ∧ l.head? = some 45 ∧ 0 < digP l.tail then -digP l.tail else if digP l < 0 then -100 else digP l
theorem digA_lo (n : Nat) (l : Bs) : -1 ≤ digA n l := by
  induction l generalizing n with
  | nil => simp only [digA]; omega
  | cons c r ih => simp only [digA]; split; exact ih _; omega
theorem digA_hi (n : Nat) (l : Bs) : digA n l < ((n + 1) * 10 ^ l.length : Nat) := by
  induction l generalizing n with
  | nil => simp only [digA, List.length_nil, Nat.pow_zero, Nat.mul_one]; omega
  | cons c r ih =>
    simp only [digA]
    split
    · next h =>
      have h2 : c.toNat ≤ 57 := by have := UInt8.le_iff_toNat_le.1 h.2; simpa using this
      refine Int.lt_of_lt_of_le (ih _) ?_
      have : (10 * n + (c.toNat - 48) + 1) * 10 ^ r.length ≤ (n + 1) * 10 ^ (c :: r).length := by
        rw [List.length_cons, Nat.pow_succ, Nat.mul_comm (10 ^ r.length) 10, ← Nat.mul_assoc]
        exact Nat.mul_le_mul_right _ (by omega)
      exact Int.ofNat_le.2 this
    · have : 0 < (n + 1) * 10 ^ (c :: r).length := Nat.mul_pos (by omega) (Nat.pow_pos (by omega))
      omega
theorem digP_bound (l : Bs) : -1 ≤ digP l ∧ digP l < 1000000 := by
  unfold digP
  split
  · next h =>
    refine ⟨digA_lo 0 l, ?_⟩
    have h1 := digA_hi 0 l
    have h2 : (0 + 1) * 10 ^ l.length ≤ 1000000 := by
      rw [Nat.zero_add, Nat.one_mul]
      exact Nat.pow_le_pow_right (n := 10) (by omega) h.2.1
    omega
  · omega
theorem signP_bound (l : Bs) : -1000000 ≤ signP l ∧ signP l ≤ 1000000 := by
  have h1 := digP_bound l
  have h2 := digP_bound l.tail
  unfold signP
  split
  · omega
  · split <;> omega
/-! Small numbers, counted out. -/
theorem num_cnt : ((List.range 100).all fun n => decide (digP (numT n) = (n : Int)) && (numT n).all (fun c => decide (48 ≤ c ∧ c ≤ 57)) && decide ((numT n).length ≤ 2)) = true := by kernel_rfl
theorem num_at {n : Nat} (h : n < 100) : digP (numT n) = (n : Int) ∧ (∀ c ∈ numT n, 48 ≤ c ∧ c ≤ 57) ∧ (numT n).length ≤ 2 := by
  have := List.all_eq_true.1 num_cnt n (List.mem_range.2 h)
  simp only [Bool.and_eq_true, decide_eq_true_eq, List.all_eq_true] at this
  exact ⟨this.1.1, this.1.2, this.2⟩
theorem step_cnt : ((List.range 199).all fun n => decide (signP (stepT ((n : Int) - 99)) = (n : Int) - 99) && (stepT ((n : Int) - 99)).all (fun c => decide (c = 45 ∨ (48 ≤ c ∧ c ≤ 57))) && decide (1 ≤ (stepT ((n : Int) - 99)).length ∧ (stepT ((n : Int) - 99)).length ≤ 3)) = true := by kernel_rfl
theorem step_at {z : Int} (h0 : -99 ≤ z) (h1 : z ≤ 99) : signP (stepT z) = z ∧ (∀ c ∈ stepT z, c = 45 ∨ (48 ≤ c ∧ c ≤ 57)) ∧ 1 ≤ (stepT z).length ∧ (stepT z).length ≤ 3 := by
  have := List.all_eq_true.1 step_cnt (z + 99).toNat (List.mem_range.2 (by omega))
  rw [show (((z + 99).toNat : Nat) : Int) - 99 = z by omega] at this
  simp only [Bool.and_eq_true, decide_eq_true_eq, List.all_eq_true] at this
  exact ⟨this.1.1, this.1.2, this.2.1, this.2.2⟩

/-- What stands between the bytes c of a text. -/
def cutT (c : UInt8) : Bs → List Bs
  | [] => [[]]
  | x :: r => if x = c then [] :: cutT c r else match cutT c r with
    | [] => [[x]]
    | h :: t => (x :: h) :: t
theorem cutT_cons (c x : UInt8) (r : Bs) : cutT c (x :: r) = if x = c then [] :: cutT c r else match cutT c r with
    | [] => [[x]]
    | h :: t => (x :: h) :: t := rfl
theorem cutT_ne (c : UInt8) (l : Bs) : cutT c l ≠ [] := by
  cases l with
  | nil => simp [cutT]
  | cons x r =>
    unfold cutT
    split
    · simp
    · split <;> simp
theorem cutT_none {c : UInt8} {l : Bs} (h : c ∉ l) : cutT c l = [l] := by
  induction l with
  | nil => rfl
  | cons x r ih =>
    unfold cutT
    rw [if_neg (fun e => h (by rw [e]; exact List.mem_cons_self)), ih (fun e => h (List.mem_cons_of_mem _ e))]
theorem cutT_sep {c : UInt8} {l r : Bs} (h : c ∉ l) : cutT c (l ++ c :: r) = l :: cutT c r := by
  induction l with
  | nil =>
    show cutT c (c :: r) = _
    rw [cutT_cons, if_pos rfl]
  | cons x l ih =>
    show cutT c (x :: (l ++ c :: r)) = _
    rw [cutT_cons, if_neg (fun e => h (by rw [e]; exact List.mem_cons_self)), ih (fun e => h (List.mem_cons_of_mem _ e))]
/-- Put together again. -/
def joinT (c : UInt8) : List Bs → Bs
  | [] => []
  | [l] => l
  | l :: l2 :: r => l ++ c :: joinT c (l2 :: r)
theorem join_cut (c : UInt8) (l : Bs) : joinT c (cutT c l) = l := by
  induction l with
  | nil => rfl
  | cons x r ih =>
    unfold cutT
    split
    · next e =>
      subst e
      cases hc : cutT x r with
      | nil => exact absurd hc (cutT_ne x r)
      | cons h t =>
        rw [hc] at ih
        show [] ++ x :: joinT x (h :: t) = _
        rw [ih]; rfl
    · cases hc : cutT c r with
      | nil => exact absurd hc (cutT_ne c r)
      | cons h t =>
        rw [hc] at ih
        cases t with
        | nil => simp only [joinT] at ih ⊢; rw [ih]
        | cons h2 t => simp only [joinT] at ih ⊢; rw [← ih]; rfl
theorem cut_free (c : UInt8) (l : Bs) : ∀ p ∈ cutT c l, c ∉ p := by
  induction l with
  | nil => intro p hp; simp only [cutT, List.mem_singleton] at hp; subst hp; simp
  | cons x r ih =>
    intro p hp
    unfold cutT at hp
    split at hp
    · rcases List.mem_cons.1 hp with h | h
      · subst h; simp
      · exact ih p h
    · next hx =>
      cases hc : cutT c r with
      | nil => exact absurd hc (cutT_ne c r)
      | cons h t =>
        rw [hc] at hp ih
        rcases List.mem_cons.1 hp with e | e
        · subst e
          intro hm
          rcases List.mem_cons.1 hm with e | e
          · exact hx e.symm
          · exact ih h List.mem_cons_self e
        · exact ih p (List.mem_cons_of_mem _ e)
/-- The text cut as far as byte k: what stands ahead, and where the rest begins. -/
theorem cutT_join {c : UInt8} : ∀ (ls : List Bs), ls ≠ [] → (∀ p ∈ ls, c ∉ p) → cutT c (joinT c ls) = ls
  | [], h, _ => absurd rfl h
  | [l], _, h => cutT_none (h l List.mem_cons_self)
  | l :: l2 :: r, _, h => by
    show cutT c (l ++ c :: joinT c (l2 :: r)) = _
    rw [cutT_sep (h l List.mem_cons_self), cutT_join (l2 :: r) (by simp) (fun p hp => h p (List.mem_cons_of_mem _ hp))]
end Go.Proofs.YtkgfbmlhplclfaaGreatDoor
