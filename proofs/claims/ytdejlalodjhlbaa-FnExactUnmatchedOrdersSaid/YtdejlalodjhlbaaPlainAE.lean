/-
  Plain functions and lemmas of chapter 13: matches. No program is named here.
-/
import Derived.Test.YtdejlalodjhlbaaPlainAD
namespace Go.Proofs.Ytdejlalodjhlbaa
open Go.RowKit
set_option linter.unusedVariables false

def hatIn (n : Nat) (x : Int) : Bool := decide (0 ≤ x ∧ x < (n : Int))
def hatsB (l : List Int) : Bool := l.all (hatIn l.length) && decide l.Nodup && decide (l.length ≤ 6)
def matTo (l : List Int) : Nat → Int
  | 0 => 0
  | k + 1 => matTo l k + if atI l k = (k : Int) then 1 else 0
def matW (l : List Int) : Int := if hatsB l then matTo l l.length else -1
def noneF : Nat → Nat
  | 0 => 1
  | 1 => 0
  | n + 2 => (n + 1) * (noneF (n + 1) + noneF n)
def unmW (h : Int) : Int := if 0 ≤ h ∧ h ≤ 6 then (noneF h.toNat : Int) else -1
def matOrd (h m : Int) : Int := if 0 ≤ h ∧ h ≤ 6 ∧ 0 ≤ m ∧ m ≤ h then chooseI h m * (noneF (h - m).toNat : Int) else -1
/-- The place after k steps from the place 0. -/
def placeAt (l : List Int) : Nat → Int
  | 0 => 0
  | k + 1 => atI l (placeAt l k).toNat
def roundTo (l : List Int) (k : Nat) : Bool := (List.range k).all fun j => decide (placeAt l (j + 1) ≠ 0)
def roundB (l : List Int) : Bool := hatsB l && decide (1 ≤ l.length) && roundTo l (l.length - 1)

/-! The bits. -/
def seenL (l : List Int) : Nat := l.foldl (fun s x => s ||| 2 ^ x.toNat) 0
theorem seenL_add (l : List Int) (x : Int) : seenL (l ++ [x]) = seenL l ||| 2 ^ x.toNat := by simp [seenL]
theorem seen_from (l : List Int) : ∀ (s i : Nat), (l.foldl (fun s x => s ||| 2 ^ x.toNat) s).testBit i = (s.testBit i || l.any fun x => decide (x.toNat = i)) := by
  induction l with
  | nil => intro s i; simp
  | cons x r ih =>
    intro s i
    rw [List.foldl_cons, ih, Nat.testBit_or, Nat.testBit_two_pow, List.any_cons, Bool.or_assoc]
theorem seen_bit {l : List Int} (h : ∀ x ∈ l, 0 ≤ x) {x : Int} (hx : 0 ≤ x) : (seenL l / 2 ^ x.toNat % 2 = 1) ↔ x ∈ l := by
  have e := seen_from l 0 x.toNat
  rw [Nat.zero_testBit, Bool.false_or, Nat.testBit_eq_decide_div_mod_eq] at e
  constructor
  · intro hh
    have : (l.any fun y => decide (y.toNat = x.toNat)) = true := by
      have e2 := e.symm
      rw [e2]
      exact decide_eq_true hh
    obtain ⟨y, hy, hyx⟩ := List.any_eq_true.1 this
    have := of_decide_eq_true hyx
    have := h y hy
    rwa [show x = y by omega]
  · intro hh
    have : (l.any fun y => decide (y.toNat = x.toNat)) = true := List.any_eq_true.2 ⟨x, hh, decide_eq_true rfl⟩
    have e2 := e.trans this
    exact of_decide_eq_true e2
theorem seen_lt (l : List Int) : ∀ (s : Nat), s < 64 → (∀ x ∈ l, x < 6) → l.foldl (fun s x => s ||| 2 ^ x.toNat) s < 64 := by
  induction l with
  | nil => intro s hs _; exact hs
  | cons x r ih =>
    intro s hs h
    rw [List.foldl_cons]
    refine ih _ ?_ (fun y hy => h y (List.mem_cons_of_mem _ hy))
    have hx := h x List.mem_cons_self
    have h2 : 2 ^ x.toNat < 2 ^ 6 := Nat.pow_lt_pow_right (by decide) (by omega)
    exact Nat.or_lt_two_pow (n := 6) hs h2
theorem seenL_lt {l : List Int} (h : ∀ x ∈ l, x < 6) : seenL l < 64 := seen_lt l 0 (by decide) h

/-! HatsOk. -/
theorem hats_yes {l : List Int} (h : hatsB l = true) : (∀ x ∈ l, 0 ≤ x ∧ x < (l.length : Int)) ∧ l.Nodup ∧ l.length ≤ 6 := by
  unfold hatsB at h
  rw [Bool.and_eq_true, Bool.and_eq_true] at h
  obtain ⟨⟨a, b⟩, c⟩ := h
  exact ⟨fun x hx => of_decide_eq_true (List.all_eq_true.1 a x hx), of_decide_eq_true b, of_decide_eq_true c⟩
theorem hats_mk {l : List Int} (h : ∀ x ∈ l, 0 ≤ x ∧ x < (l.length : Int)) (hn : l.Nodup) : hatsB l = decide (l.length ≤ 6) := by
  unfold hatsB
  rw [show l.all (hatIn l.length) = true from List.all_eq_true.2 (fun x hx => decide_eq_true (h x hx)), decide_eq_true hn]; rfl
theorem hats_out {l : List Int} {k : Nat} {x : Int} (hx : l[k]? = some x) (h : ¬(0 ≤ x ∧ x < (l.length : Int))) : hatsB l = false := by
  cases e : hatsB l with
  | false => rfl
  | true => exact absurd ((hats_yes e).1 x (List.mem_of_getElem? hx)) h
theorem hats_big {l : List Int} {k : Nat} {x : Int} (hx : l[k]? = some x) (h : 6 ≤ x) : hatsB l = false := by
  cases e : hatsB l with
  | false => rfl
  | true =>
    obtain ⟨a, b, c⟩ := hats_yes e
    have := a x (List.mem_of_getElem? hx)
    omega
theorem hats_twice {l : List Int} {k : Nat} {x : Int} (hx : l[k]? = some x) (h : x ∈ l.take k) : hatsB l = false := by
  cases e : hatsB l with
  | false => rfl
  | true =>
    obtain ⟨a, b, c⟩ := hats_yes e
    have e2 := take_succ hx
    have hs : (l.take (k + 1)).Sublist l := List.take_sublist _ _
    have hn : (l.take (k + 1)).Nodup := hs.nodup b
    rw [e2, List.nodup_append] at hn
    exact absurd rfl (hn.2.2 x h x (by simp))
theorem hats_next {l : List Int} {k : Nat} {x : Int} (hx : l[k]? = some x) (hn : (l.take k).Nodup) (h : ¬ x ∈ l.take k) : (l.take (k + 1)).Nodup := by
  rw [take_succ hx, List.nodup_append]
  exact ⟨hn, by simp, fun a ha b hb => by simp at hb; subst hb; intro e; subst e; exact h ha⟩
theorem hats_turn (l : List Int) : hatsB l.reverse = hatsB l := by
  unfold hatsB
  rw [List.length_reverse, List.all_reverse, show decide l.reverse.Nodup = decide l.Nodup by
    rw [decide_eq_decide]
    show List.Pairwise _ _ ↔ List.Pairwise _ _
    rw [List.pairwise_reverse]
    exact ⟨fun h => h.imp fun e => Ne.symm e, fun h => h.imp fun e => Ne.symm e⟩]
end Go.Proofs.Ytdejlalodjhlbaa
