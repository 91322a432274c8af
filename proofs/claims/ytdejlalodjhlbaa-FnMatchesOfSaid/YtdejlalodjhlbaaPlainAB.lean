/-
  Plain functions and lemmas of chapter 11: samples. Arguments are few: facts are counted out by the kernel. No program is named here.
-/
import Derived.Test.YtdejlalodjhlbaaPlainAA
namespace Go.Proofs.Ytdejlalodjhlbaa
open Go.RowKit
set_option linter.unusedVariables false

def pickW (n k : Int) : Int := if 0 ≤ n ∧ n ≤ 30 ∧ 0 ≤ k then chooseI n k else -1
def sampleB (n m p : Int) : Bool := decide (0 ≤ n ∧ n ≤ 30 ∧ 0 ≤ m ∧ m ≤ n ∧ 0 ≤ p ∧ p ≤ n)
def markN (n m p b : Int) : Int := chooseI m b * chooseI (n - m) (p - b)
def markB (n m p b : Int) : Bool := sampleB n m p && decide (0 ≤ b ∧ b ≤ p)
def markW (n m p b : Int) : Int := if markB n m p b then markN n m p b else -1
def tailTo (n m p b : Int) : Nat → Int
  | 0 => 0
  | j + 1 => tailTo n m p b j + markN n m p (b + (j : Int))
def tailW (n m p b : Int) : Int := if markB n m p b then tailTo n m p b (p - b + 1).toNat else -1
def likeB (m p b : Int) : Bool := decide (1 ≤ m ∧ m ≤ 9 ∧ 1 ≤ p ∧ p ≤ 9 ∧ 1 ≤ b ∧ b ≤ m ∧ b ≤ p)
def likeT (m p b : Int) : Int := if likeB m p b then m * p / b else -1

theorem tailTo_front (n m p b : Int) (j : Nat) : tailTo n m p b (j + 1) = markN n m p b + tailTo n m p (b + 1) j := by
  induction j with
  | zero => simp [tailTo]
  | succ j ih =>
    rw [show tailTo n m p b (j + 1 + 1) = tailTo n m p b (j + 1) + markN n m p (b + ((j + 1 : Nat) : Int)) from rfl, ih, show tailTo n m p (b + 1) (j + 1) = tailTo n m p (b + 1) j + markN n m p (b + 1 + (j : Int)) from rfl, show b + ((j + 1 : Nat) : Int) = b + 1 + (j : Int) by omega, Int.add_assoc]

/-! Counted out. -/
theorem pick_cnt : ((List.range 31).all fun n => (List.range 10).all fun k => (Nat.blt n k || decide (chooseI (n : Int) ((n : Int) - (k : Int)) = chooseI (n : Int) (k : Int))) && (Nat.beq k 0 || Nat.beq n 30 || decide (chooseI ((n : Int) + 1) (k : Int) = chooseI (n : Int) (k : Int) + chooseI (n : Int) ((k : Int) - 1))) && decide (chooseI (n : Int) 0 = 1)) = true := by kernel_rfl
theorem twice_cnt : ((List.range 21).all fun n => (List.range 9).all fun p => (List.range (p + 1)).all fun k => Nat.blt n p || decide (chooseI (n : Int) (p : Int) * chooseI (p : Int) (k : Int) = chooseI (n : Int) (k : Int) * chooseI ((n : Int) - (k : Int)) ((p : Int) - (k : Int)))) = true := by kernel_rfl
theorem mark_cnt : ((List.range 31).all fun n => (List.range 13).all fun m => (List.range 12).all fun p => Nat.blt n m || Nat.blt n p || (decide (tailTo (n : Int) (m : Int) (p : Int) 0 (p + 1) = chooseI (n : Int) (p : Int)) && (List.range (p + 1)).all fun b => decide (markN (n : Int) (m : Int) (p : Int) (b : Int) ≤ 200000000) && (Nat.blt m b || decide (markN (n : Int) (m : Int) (p : Int) (b : Int) * chooseI (n : Int) (m : Int) = markN (n : Int) (p : Int) (m : Int) (b : Int) * chooseI (n : Int) (p : Int) ∧ markN (n : Int) (p : Int) (m : Int) (b : Int) ≤ 200000000)))) = true := by kernel_rfl
theorem like_cnt : ((List.range 10).all fun m => (List.range 10).all fun p => (List.range 10).all fun b => Nat.beq m 0 || Nat.beq p 0 || Nat.beq b 0 || Nat.blt m b || Nat.blt p b || (let n := m * p / b; Nat.ble m n && Nat.ble p n && (Nat.blt 30 n ||
    (decide (1 ≤ markN (n : Int) (m : Int) (p : Int) (b : Int) ∧ markN (n : Int) (m : Int) (p : Int) (b : Int) ≤ 200000000) &&
     (Nat.beq n 30 || decide (markN ((n : Int) + 1) (m : Int) (p : Int) (b : Int) ≤ 200000000 ∧ markN ((n : Int) + 1) (m : Int) (p : Int) (b : Int) * chooseI (n : Int) (p : Int) < markN (n : Int) (m : Int) (p : Int) (b : Int) * chooseI ((n : Int) + 1) (p : Int))) &&
     (Nat.beq m n || Nat.beq p n || decide (markN ((n : Int) - 1) (m : Int) (p : Int) (b : Int) ≤ 200000000 ∧ markN ((n : Int) - 1) (m : Int) (p : Int) (b : Int) * chooseI (n : Int) (p : Int) ≤ markN (n : Int) (m : Int) (p : Int) (b : Int) * chooseI ((n : Int) - 1) (p : Int))))))) = true := by kernel_rfl
theorem nat_of {n N : Int} (h0 : 0 ≤ n) (h1 : n ≤ N) : ∃ k : Nat, n = (k : Int) ∧ k ≤ N.toNat := ⟨n.toNat, by omega, by omega⟩
theorem pick_facts {n k : Int} (h0 : 0 ≤ n) (h1 : n ≤ 30) (h2 : 0 ≤ k) (h3 : k ≤ 9) : (k ≤ n → chooseI n (n - k) = chooseI n k) ∧ (1 ≤ k → n < 30 → chooseI (n + 1) k = chooseI n k + chooseI n (k - 1)) ∧ chooseI n 0 = 1 := by
  obtain ⟨N, rfl, hN⟩ := nat_of h0 h1
  obtain ⟨K, rfl, hK⟩ := nat_of h2 h3
  have a := all_range (all_range pick_cnt (k := N) (by omega)) (k := K) (by omega)
  simp only [Bool.and_eq_true, Bool.or_eq_true] at a
  obtain ⟨⟨a, b⟩, c⟩ := a
  refine ⟨fun h => ?_, fun h h' => ?_, of_decide_eq_true c⟩
  · rcases a with a | a
    · have : N < K := blt_iff.1 a
      omega
    · exact of_decide_eq_true a
  · rcases b with (b | b) | b
    · exact absurd (Nat.eq_of_beq_eq_true b) (by omega)
    · exact absurd (Nat.eq_of_beq_eq_true b) (by omega)
    · exact of_decide_eq_true b
theorem twice_facts {n p k : Int} (h0 : 0 ≤ n) (h1 : n ≤ 20) (h2 : 0 ≤ p) (h3 : p ≤ 8) (h4 : p ≤ n) (h5 : 0 ≤ k) (h6 : k ≤ p) : chooseI n p * chooseI p k = chooseI n k * chooseI (n - k) (p - k) := by
  obtain ⟨N, rfl, hN⟩ := nat_of h0 h1
  obtain ⟨P, rfl, hP⟩ := nat_of h2 h3
  obtain ⟨K, rfl, hK⟩ := nat_of h5 h6
  have a := all_range (all_range (all_range twice_cnt (k := N) (by omega)) (k := P) (by omega)) (k := K) (by omega)
  rcases Bool.or_eq_true_iff.1 a with a | a
  · have : N < P := blt_iff.1 a
    omega
  · exact of_decide_eq_true a
theorem mark_facts {n m p : Int} (h0 : 0 ≤ n) (h1 : n ≤ 30) (h2 : 0 ≤ m) (h3 : m ≤ 12) (h4 : m ≤ n) (h5 : 0 ≤ p) (h6 : p ≤ 11) (h7 : p ≤ n) : tailTo n m p 0 (p + 1).toNat = chooseI n p ∧ ∀ b, 0 ≤ b → b ≤ p → markN n m p b ≤ 200000000 ∧ (b ≤ m → markN n m p b * chooseI n m = markN n p m b * chooseI n p ∧ markN n p m b ≤ 200000000) := by
  obtain ⟨N, rfl, hN⟩ := nat_of h0 h1
  obtain ⟨M, rfl, hM⟩ := nat_of h2 h3
  obtain ⟨P, rfl, hP⟩ := nat_of h5 h6
  have a := all_range (all_range (all_range mark_cnt (k := N) (by omega)) (k := M) (by omega)) (k := P) (by omega)
  rcases Bool.or_eq_true_iff.1 a with a | a
  · rcases Bool.or_eq_true_iff.1 a with a | a
    · have : N < M := blt_iff.1 a
      omega
    · have : N < P := blt_iff.1 a
      omega
  · obtain ⟨a, c⟩ := Bool.and_eq_true_iff.1 a
    refine ⟨?_, fun b b0 b1 => ?_⟩
    · rw [show ((P : Int) + 1).toNat = P + 1 by omega]; exact of_decide_eq_true a
    · obtain ⟨B, rfl, hB⟩ := nat_of b0 b1
      have d := all_range c (k := B) (by omega)
      obtain ⟨d, e⟩ := Bool.and_eq_true_iff.1 d
      refine ⟨of_decide_eq_true d, fun hbm => ?_⟩
      rcases Bool.or_eq_true_iff.1 e with e | e
      · have : M < B := blt_iff.1 e
        omega
      · exact of_decide_eq_true e
theorem like_facts {m p b : Int} (h : likeB m p b = true) : m ≤ m * p / b ∧ p ≤ m * p / b ∧ m * p / b ≤ 81 ∧ (m * p / b ≤ 30 → 1 ≤ markN (m * p / b) m p b ∧ markN (m * p / b) m p b ≤ 200000000 ∧
    (m * p / b < 30 → markN (m * p / b + 1) m p b ≤ 200000000 ∧ markN (m * p / b + 1) m p b * chooseI (m * p / b) p < markN (m * p / b) m p b * chooseI (m * p / b + 1) p) ∧
    (m < m * p / b → p < m * p / b → markN (m * p / b - 1) m p b ≤ 200000000 ∧ markN (m * p / b - 1) m p b * chooseI (m * p / b) p ≤ markN (m * p / b) m p b * chooseI (m * p / b - 1) p)) := by
  obtain ⟨h1, h2, h3, h4, h5, h6, h7⟩ := of_decide_eq_true h
  obtain ⟨M, rfl, hM⟩ := nat_of (n := m) (N := 9) (by omega) h2
  obtain ⟨P, rfl, hP⟩ := nat_of (n := p) (N := 9) (by omega) h4
  obtain ⟨B, rfl, hB⟩ := nat_of (n := b) (N := 9) (by omega) (by omega)
  have a := all_range (all_range (all_range like_cnt (k := M) (by omega)) (k := P) (by omega)) (k := B) (by omega)
  have hdv : (M : Int) * (P : Int) / (B : Int) = ((M * P / B : Nat) : Int) := by rw [← Int.natCast_mul]; rfl
  have hle : M * P / B ≤ 81 := Nat.le_trans (Nat.div_le_self _ _) (Nat.mul_le_mul (show M ≤ 9 by omega) (show P ≤ 9 by omega))
  rw [hdv]
  simp only [Bool.or_eq_true, Bool.and_eq_true] at a
  rcases a with ((((a | a) | a) | a) | a) | a
  · exact absurd (Nat.eq_of_beq_eq_true a) (by omega)
  · exact absurd (Nat.eq_of_beq_eq_true a) (by omega)
  · exact absurd (Nat.eq_of_beq_eq_true a) (by omega)
  · have : M < B := blt_iff.1 a
    omega
  · have : P < B := blt_iff.1 a
    omega
  · obtain ⟨⟨a1, a2⟩, a3⟩ := a
    obtain ⟨V, hV⟩ : ∃ V, M * P / B = V := ⟨_, rfl⟩
    rw [hV] at a1 a2 a3 hle ⊢
    have b1 := Nat.le_of_ble_eq_true a1
    have b2 := Nat.le_of_ble_eq_true a2
    refine ⟨by omega, by omega, by omega, fun h30 => ?_⟩
    rcases a3 with a3 | ⟨⟨c1, c2⟩, c3⟩
    · have : 30 < V := blt_iff.1 a3
      omega
    · have c1 := of_decide_eq_true c1
      refine ⟨c1.1, c1.2, fun h => ?_, fun h h' => ?_⟩
      · rcases c2 with c2 | c2
        · exact absurd (Nat.eq_of_beq_eq_true c2) (by omega)
        · exact of_decide_eq_true c2
      · rcases c3 with (c3 | c3) | c3
        · exact absurd (Nat.eq_of_beq_eq_true c3) (by omega)
        · exact absurd (Nat.eq_of_beq_eq_true c3) (by omega)
        · exact of_decide_eq_true c3
end Go.Proofs.Ytdejlalodjhlbaa
