/-
  All orders counted out: facts of chapter 13. No program is named here.
-/
import Derived.Test.YtdejlalodjhlbaaPlainAE
namespace Go.Proofs.Ytdejlalodjhlbaa
open Go.RowKit
set_option linter.unusedVariables false

def hatGen (n : Nat) : Nat → List (List Int)
  | 0 => [[]]
  | m + 1 => (hatGen n m).flatMap fun l => ((List.range n).filter fun (x : Nat) => !(l.any fun y => decide (y = (x : Int)))).map fun (x : Nat) => l ++ [(x : Int)]
theorem hat_gen {l : List Int} {n : Nat} (h : ∀ x ∈ l, 0 ≤ x ∧ x < (n : Int)) (hn : l.Nodup) : ∀ k : Nat, k ≤ l.length → l.take k ∈ hatGen n k := by
  intro k
  induction k with
  | zero => intro _; simp [hatGen]
  | succ k ih =>
    intro hk
    have hx : l[k]? = some l[k] := List.getElem?_eq_getElem (by omega)
    have hr := h _ (List.mem_of_getElem? hx)
    have hs : (l.take (k + 1)).Sublist l := List.take_sublist _ _
    have hnd : (l.take (k + 1)).Nodup := hs.nodup hn
    rw [take_succ hx] at hnd ⊢
    rw [List.nodup_append] at hnd
    rw [hatGen, List.mem_flatMap]
    refine ⟨l.take k, ih (by omega), List.mem_map.2 ⟨(l[k]).toNat, List.mem_filter.2 ⟨List.mem_range.2 (by omega), ?_⟩, ?_⟩⟩
    · rw [Bool.not_eq_true', List.any_eq_false]
      intro y hy
      have := hnd.2.2 y hy l[k] (by simp)
      simp
      omega
    · rw [show ((l[k]).toNat : Int) = l[k] by omega]
def allHat (P : List Int → Bool) : Bool := (List.range 7).all fun n => (hatGen n n).all P
theorem hat_all {P : List Int → Bool} (h : allHat P = true) {l : List Int} (hl : hatsB l = true) : P l = true := by
  obtain ⟨a, b, c⟩ := hats_yes hl
  have h1 := List.all_eq_true.1 h l.length (List.mem_range.2 (by omega))
  have h2 := hat_gen a b l.length (Nat.le_refl _)
  rw [List.take_length] at h2
  exact List.all_eq_true.1 h1 l h2

def invTo (l : List Int) : Nat → List Int
  | 0 => List.replicate l.length 0
  | k + 1 => (invTo l k).set (atI l k).toNat (k : Int)
def backAt (l : List Int) : Nat := ((List.range 6).find? fun j => decide (placeAt l (j + 1) = 0)).getD 9 + 1
def hatP (l : List Int) : Bool :=
  !(decide (matTo l l.length = (l.length : Int) - 1)) && hatsB (invTo l l.length) && decide (matTo (invTo l l.length) l.length = matTo l l.length) &&
  (!(roundB l) || decide (l.length < 2) || decide (matTo l l.length = 0)) &&
  (Nat.beq l.length 0 || (Nat.ble (backAt l) 6 && Nat.ble (backAt l) l.length && decide (placeAt l (backAt l) = 0) && (List.range (backAt l - 1)).all (fun j => decide (placeAt l (j + 1) ≠ 0)) && (roundB l == Nat.beq (backAt l) l.length)))
set_option maxRecDepth 100000 in
theorem hat_cnt : allHat hatP = true := by kernel_rfl

/-! The orders by their numbers. -/
def ordTo (num : Nat) : Nat → List Int × Nat
  | 0 => ([], num)
  | k + 1 => let s := ordTo num k; (s.1.take (s.2 % (k + 1)) ++ [(k : Int)] ++ s.1.drop (s.2 % (k + 1)), s.2 / (k + 1))
def cntNone (h : Nat) : Nat → Nat
  | 0 => 0
  | j + 1 => cntNone h j + if matTo (ordTo j h).1 h = 0 then 1 else 0
def cntRound (h : Nat) : Nat → Nat
  | 0 => 0
  | j + 1 => cntRound h j + if roundB (ordTo j h).1 then 1 else 0
def facH : Nat → Nat
  | 0 => 1
  | n + 1 => facH n * (n + 1)
set_option maxRecDepth 100000 in
theorem ord_cnt : ((List.range 7).all fun h => Nat.beq (cntNone h (facH h)) (noneF h) && (Nat.beq h 0 || Nat.beq (cntRound h (facH h) * h) (facH h)) && (List.range (facH h)).all fun j => hatsB (ordTo j h).1 && Nat.beq (ordTo j h).1.length h) = true := by kernel_rfl
/-- How many orders have just so many matches: sums over all. -/
def moTo (h : Nat) : Nat → Int
  | 0 => 0
  | k + 1 => moTo h k + matOrd (h : Int) (k : Int)
def moK (h : Nat) : Nat → Int
  | 0 => 0
  | k + 1 => moK h k + (k : Int) * matOrd (h : Int) (k : Int)
def moP (h : Nat) : Nat → Int
  | 0 => 0
  | k + 1 => moP h k + (k : Int) * ((k : Int) - 1) * matOrd (h : Int) (k : Int)
set_option maxRecDepth 100000 in
theorem mo_cnt : ((List.range 7).all fun h => decide (moTo h (h + 1) = (facH h : Int)) && (Nat.beq h 0 || decide (moK h (h + 1) = (facH h : Int))) && (Nat.blt h 2 || decide (moP h (h + 1) = (facH h : Int))) && decide (matOrd (h : Int) 0 = unmW (h : Int)) &&
  (Nat.beq h 0 || decide (unmW (h : Int) = (h : Int) * unmW ((h : Int) - 1) + (1 - (h : Int) % 2 * 2))) &&
  (List.range (h + 1)).all fun k => decide (0 ≤ matOrd (h : Int) (k : Int) ∧ matOrd (h : Int) (k : Int) ≤ 1000) && decide (0 ≤ moTo h k ∧ moTo h k ≤ 1000 ∧ 0 ≤ moK h k ∧ moK h k ≤ 1000 ∧ 0 ≤ moP h k ∧ moP h k ≤ 1000)) = true := by kernel_rfl
end Go.Proofs.Ytdejlalodjhlbaa
