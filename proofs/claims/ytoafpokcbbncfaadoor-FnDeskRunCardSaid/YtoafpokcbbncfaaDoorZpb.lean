/-
  Words, plain lemmas and contracts that belong together, joined into one file.
-/
import Derived.Test.YtoafpokcbbncfaaDoorZpl
namespace Go.Proofs.YtoafpokcbbncfaaDoor
open Go.RowKit
set_option linter.unusedVariables false

/-- The string of some bytes. -/
def strB (l : List UInt8) : ByteArray := ⟨l.toArray⟩
theorem strB_append (a b : List UInt8) : strB (a ++ b) = strB a ++ strB b := by
  unfold strB
  apply ByteArray.ext
  simp
theorem strB_size (l : List UInt8) : (strB l).size = l.length := by simp [strB, ByteArray.size]
theorem strB_cons (c : UInt8) (l : List UInt8) : strB (c :: l) = ⟨#[c]⟩ ++ strB l := strB_append [c] l
def bts (s : ByteArray) : List UInt8 := s.data.toList
theorem strB_bts (s : ByteArray) : strB (bts s) = s := by
  cases s with
  | mk d => unfold strB bts; rw [Array.toArray_toList]
theorem bts_strB (l : List UInt8) : bts (strB l) = l := by simp [strB, bts]
theorem bts_inj {a b : ByteArray} (h : a.data.toList = b.data.toList) : a = b := by
  rw [← strB_bts a, ← strB_bts b]
  exact congrArg strB h
theorem strB_inj {a b : List UInt8} (h : strB a = strB b) : a = b := by rw [← bts_strB a, ← bts_strB b, h]
end Go.Proofs.YtoafpokcbbncfaaDoor

namespace Go.Proofs.YtoafpokcbbncfaaDoor
open Go.RowKit
set_option linter.unusedVariables false

abbrev Bs := List UInt8
def dig (n : Nat) : UInt8 := UInt8.ofNat (48 + n)
def numF : Nat → Nat → Bs
  | 0, n => [dig n]
  | f + 1, n => if n < 10 then [dig n] else numF f (n / 10) ++ [dig (n % 10)]
/-- A number from 0 on, in decimal. -/
def numT (n : Nat) : Bs := numF 20 n
theorem numF_step (f : Nat) : ∀ n, n < 10 ^ (f + 1) → numF f n = numF (f + 1) n := by
  induction f with
  | zero =>
    intro n hn
    have : n < 10 := by simpa using hn
    simp only [numF]; rw [if_pos this]
  | succ f ih =>
    intro n hn
    have e1 : numF (f + 1) n = if n < 10 then [dig n] else numF f (n / 10) ++ [dig (n % 10)] := rfl
    have e2 : numF (f + 1 + 1) n = if n < 10 then [dig n] else numF (f + 1) (n / 10) ++ [dig (n % 10)] := rfl
    rw [e1, e2, ih (n / 10) (by rw [Nat.pow_succ] at hn; omega)]
theorem numT_small {n : Nat} (h : n < 10) : numT n = [dig n] := by
  show numF 20 n = _
  unfold numF; rw [if_pos h]
theorem numT_big {n : Nat} (h : ¬ n < 10) (hb : n < 100000000000000000000) : numT n = numT (n / 10) ++ [dig (n % 10)] := by
  show numF 20 n = numF 20 (n / 10) ++ _
  have e : numF 20 n = if n < 10 then [dig n] else numF 19 (n / 10) ++ [dig (n % 10)] := rfl
  rw [e, if_neg h, numF_step 19 (n / 10) (by omega)]
theorem numF_len (f n : Nat) : (numF f n).length ≤ f + 1 := by
  induction f generalizing n with
  | zero => exact Nat.le_refl _
  | succ f ih =>
    simp only [numF]
    split
    · simp
    · have := ih (n / 10); simp; omega
theorem numT_len (n : Nat) : (numT n).length ≤ 21 := numF_len 20 n
/-- A step: a minus sign ahead of what is less than 0. -/
def stepT (z : Int) : Bs := if z < 0 then 45 :: numT (-z).toNat else numT z.toNat
/-- The number of one to six digits without leading zeros; -1 for others. -/
def digA : Nat → Bs → Int
  | n, [] => (n : Int)
  | n, c :: r => if 48 ≤ c ∧ c ≤ 57 then digA (10 * n + (c.toNat - 48)) r else -1
def digP (l : Bs) : Int := if 1 ≤ l.length ∧ l.length ≤ 6 ∧ ¬(1 < l.length ∧ l.head? = some 48) then digA 0 l else -1
def signP (l : Bs) : Int := if 1 < l.length ∧ l.head? = some 45 ∧ 0 < digP l.tail then -digP l.tail else if digP l < 0 then -100 else digP l
/-! Small numbers, counted out. -/
theorem num_cnt : ((List.range 100).all fun n => decide (digP (numT n) = (n : Int)) && (numT n).all (fun c => decide (48 ≤ c ∧ c ≤ 57)) && decide ((numT n).length ≤ 2)) = true := by kernel_rfl
theorem num_at {n : Nat} (h : n < 100) : digP (numT n) = (n : Int) ∧ (∀ c ∈ numT n, 48 ≤ c ∧ c ≤ 57) ∧ (numT n).length ≤ 2 := by
  have := List.all_eq_true.1 num_cnt n (List.mem_range.2 h)
  simp only [Bool.and_eq_true, decide_eq_true_eq, List.all_eq_true] at this
  exact ⟨this.1.1, this.1.2, this.2⟩
theorem step_cnt : ((List.range 199).all fun n => decide (signP (stepT ((n : Int) - 99)) = (n : Int) - 99) && (stepT ((n : Int) - 99)).all (fun c => decide (c = 45 ∨ (48 ≤ c ∧ c ≤ 57))) && decide (1 ≤ (stepT ((n : Int) - 99)).length ∧ (stepT ((n : Int) - 99)).length ≤ 3)) = true := by kernel_rfl
theorem step_at {z : Int} (h0 : -99 ≤ z) (h1 : z ≤ 99) : signP (stepT z) = z ∧ (∀ c ∈ stepT z, c = 45 ∨ (48 ≤ c ∧ c ≤ 57)) ∧ 1 ≤ (stepT z).length ∧ (stepT z).length ≤ 3 := by
  have := List.all_eq_true.1 step_cnt (z + 99).toNat (List.mem_range.2 (by omega))
  rw [show (((z + 99).toNat : Nat) : Int) - 99 = z by omega] at this
  simp only [Bool.and_eq_true, decide_eq_true_eq, List.all_eq_true] at this
  exact ⟨this.1.1, this.1.2, this.2.1, this.2.2⟩

/-- What stands between the bytes c of a text. -/
def cutT (c : UInt8) : Bs → List Bs
  | [] => [[]]
  | x :: r => if x = c then [] :: cutT c r else match cutT c r with
    | [] => [[x]]
    | h :: t => (x :: h) :: t
theorem cutT_cons (c x : UInt8) (r : Bs) : cutT c (x :: r) = if x = c then [] :: cutT c r else match cutT c r with
    | [] => [[x]]
    | h :: t => (x :: h) :: t := rfl
theorem cutT_none {c : UInt8} {l : Bs} (h : c ∉ l) : cutT c l = [l] := by
  induction l with
  | nil => rfl
  | cons x r ih =>
    unfold cutT
    rw [if_neg (fun e => h (by rw [e]; exact List.mem_cons_self)), ih (fun e => h (List.mem_cons_of_mem _ e))]
theorem cutT_sep {c : UInt8} {l r : Bs} (h : c ∉ l) : cutT c (l ++ c :: r) = l :: cutT c r := by
  induction l with
  | nil =>
    show cutT c (c :: r) = _
    rw [cutT_cons, if_pos rfl]
  | cons x l ih =>
    show cutT c (x :: (l ++ c :: r)) = _
    rw [cutT_cons, if_neg (fun e => h (by rw [e]; exact List.mem_cons_self)), ih (fun e => h (List.mem_cons_of_mem _ e))]
/-- Put together again. -/
def joinT (c : UInt8) : List Bs → Bs
  | [] => []
  | [l] => l
  | l :: l2 :: r => l ++ c :: joinT c (l2 :: r)
/-- The text cut as far as byte k: what stands ahead, and where the rest begins. -/
theorem cutT_join {c : UInt8} : ∀ (ls : List Bs), ls ≠ [] → (∀ p ∈ ls, c ∉ p) → cutT c (joinT c ls) = ls
  | [], h, _ => absurd rfl h
  | [l], _, h => cutT_none (h l List.mem_cons_self)
  | l :: l2 :: r, _, h => by
    show cutT c (l ++ c :: joinT c (l2 :: r)) = _
    rw [cutT_sep (h l List.mem_cons_self), cutT_join (l2 :: r) (by simp) (fun p hp => h p (List.mem_cons_of_mem _ hp))]
end Go.Proofs.YtoafpokcbbncfaaDoor

namespace Go.Proofs.YtoafpokcbbncfaaDoor
open Go.RowKit
set_option linter.unusedVariables false

structure Plc where
  start : List Int
  step : Int
  word : List Int
def noPlc : Plc := ⟨[], 0, []⟩
def placeOk (p : Plc) : Bool := startOk p.start && stepB p.step && afterOk p.start (sameRule p.start.length p.step) p.word
def rowT (l : List Int) : Bs := if l = [] then [110, 111, 110, 101] else joinT 44 (l.map (fun z => numT z.toNat))
def wordT (l : List Int) : Bs := if l = [] then [46] else l.map (fun z => UInt8.ofNat (97 + z.toNat))
def rawT (p : Plc) : Bs := rowT p.start ++ 32 :: (stepT p.step ++ 32 :: wordT p.word)
def placeT (p : Plc) : Bs := if placeOk p then rawT p else []
def wordOf' (l : Bs) : List Int := if l = [46] then [] else l.map (fun x => (x.toNat : Int) - 97)
def guessP (s : Bs) : Option Plc := match cutT 32 s with
  | [a, b, c] => some ⟨(cutT 44 a).map digP, signP b, wordOf' c⟩
  | _ => none
def readP (s : Bs) : Option Plc := match guessP s with
  | some p => if placeT p = s ∧ s ≠ [] then some p else none
  | none => none

theorem placeOk_yes {p : Plc} (h : placeOk p = true) : (1 ≤ p.start.length ∧ p.start.length ≤ 3) ∧ (∀ z ∈ p.start, 0 ≤ z ∧ z ≤ 10) ∧ (-1 ≤ p.step ∧ p.step ≤ 3) ∧ p.word.length ≤ 6 ∧ (∀ x ∈ p.word, 0 ≤ x ∧ x < p.start.length) := by
  unfold placeOk at h
  simp only [Bool.and_eq_true] at h
  obtain ⟨⟨h1, h2⟩, h3⟩ := h
  unfold afterOk at h3
  rw [Bool.and_eq_true] at h3
  obtain ⟨a, b, c, d, e⟩ := afterC_yes h3.1
  have hu : 1 ≤ p.start.length ∧ p.start.length ≤ 3 := by
    unfold urnOk at a
    rw [Bool.and_eq_true] at a
    exact of_decide_eq_true a.1
  exact ⟨hu, b, stepB_yes h2, d, e⟩
theorem rawT_ne (p : Plc) : rawT p ≠ [] := by
  unfold rawT
  intro h
  have := congrArg List.length h
  simp at this
theorem rowT_free {l : List Int} (hl : l ≠ []) (h : ∀ z ∈ l, 0 ≤ z ∧ z ≤ 10) : 32 ∉ rowT l ∧ (cutT 44 (rowT l)).map digP = l := by
  have hd : ∀ z ∈ l, digP (numT z.toNat) = z ∧ (∀ c ∈ numT z.toNat, 48 ≤ c ∧ c ≤ 57) := fun z hz => by
    have hb := h z hz
    obtain ⟨a, b, _⟩ := num_at (n := z.toNat) (by omega)
    exact ⟨by rw [a]; omega, b⟩
  unfold rowT
  rw [if_neg hl]
  have hfree : ∀ p ∈ l.map (fun z => numT z.toNat), (44 : UInt8) ∉ p := fun p hp hm => by
    obtain ⟨z, hz, rfl⟩ := List.mem_map.1 hp
    have := ((hd z hz).2 44 hm).1
    exact absurd this (by decide)
  constructor
  · have : ∀ (ls : List Bs), (∀ p ∈ ls, ∀ c ∈ p, (48 : UInt8) ≤ c ∧ c ≤ 57) → (32 : UInt8) ∉ joinT 44 ls := by
      intro ls
      induction ls with
      | nil => intro _ hm; cases hm
      | cons a r ih =>
        intro hp hm
        cases r with
        | nil => exact absurd (hp a List.mem_cons_self 32 hm).1 (by decide)
        | cons b r =>
          rcases List.mem_append.1 hm with hm | hm
          · exact absurd (hp a List.mem_cons_self 32 hm).1 (by decide)
          · rcases List.mem_cons.1 hm with hm | hm
            · exact absurd hm (by decide)
            · exact ih (fun p h => hp p (List.mem_cons_of_mem _ h)) hm
    exact this _ (fun p hp c hc => by
      obtain ⟨z, hz, rfl⟩ := List.mem_map.1 hp
      exact (hd z hz).2 c hc)
  · rw [cutT_join _ (by simpa using hl) hfree, List.map_map]
    have : ∀ z ∈ l, (digP ∘ fun z : Int => numT z.toNat) z = z := fun z hz => (hd z hz).1
    rw [List.map_congr_left this, List.map_id']
theorem letter_back {x : Int} (h0 : 0 ≤ x) (h1 : x < 3) : ((UInt8.ofNat (97 + x.toNat)).toNat : Int) - 97 = x ∧ UInt8.ofNat (97 + x.toNat) ≠ 32 ∧ UInt8.ofNat (97 + x.toNat) ≠ 46 := by
  have : x = 0 ∨ x = 1 ∨ x = 2 := by omega
  rcases this with rfl | rfl | rfl <;> decide
theorem wordT_free {l : List Int} (h : ∀ x ∈ l, 0 ≤ x ∧ x < 3) : 32 ∉ wordT l ∧ wordOf' (wordT l) = l := by
  unfold wordT
  split
  · next e => subst e; exact ⟨by decide, rfl⟩
  · next e =>
    constructor
    · intro hm
      obtain ⟨x, hx, he⟩ := List.mem_map.1 hm
      exact (letter_back (h x hx).1 (h x hx).2).2.1 he
    · unfold wordOf'
      rw [if_neg ?_, List.map_map]
      · have : ∀ x ∈ l, ((fun x : UInt8 => (x.toNat : Int) - 97) ∘ fun z : Int => UInt8.ofNat (97 + z.toNat)) x = x := fun x hx => (letter_back (h x hx).1 (h x hx).2).1
        rw [List.map_congr_left this, List.map_id']
      · intro he
        cases l with
        | nil => exact e rfl
        | cons a r =>
          simp only [List.map_cons, List.cons.injEq] at he
          exact (letter_back (h a List.mem_cons_self).1 (h a List.mem_cons_self).2).2.2 he.1
theorem step_free {z : Int} (h0 : -99 ≤ z) (h1 : z ≤ 99) : 32 ∉ stepT z := fun hm => by
  rcases (step_at h0 h1).2.1 32 hm with h | h
  · exact absurd h (by decide)
  · exact absurd h.1 (by decide)
theorem guessP_raw {p : Plc} (h : placeOk p = true) : guessP (rawT p) = some p := by
  obtain ⟨hl, hz, hs, h6, hw⟩ := placeOk_yes h
  have hne : p.start ≠ [] := fun e => by rw [e] at hl; simp at hl
  obtain ⟨f1, g1⟩ := rowT_free hne hz
  obtain ⟨f3, g3⟩ := wordT_free (l := p.word) (fun x hx => by have := hw x hx; omega)
  have f2 := step_free (z := p.step) (by omega) (by omega)
  have g2 := (step_at (z := p.step) (by omega) (by omega)).1
  unfold guessP rawT
  rw [cutT_sep f1, cutT_sep f2, cutT_none f3]
  show some (Plc.mk _ _ _) = some p
  rw [g1, g2, g3]
theorem readP_in {p : Plc} (h : placeOk p = true) : readP (rawT p) = some p := by
  unfold readP
  rw [guessP_raw h]
  show (if placeT p = rawT p ∧ rawT p ≠ [] then some p else none) = some p
  rw [if_pos ⟨by unfold placeT; rw [if_pos h], rawT_ne p⟩]
theorem placeT_ok {p : Plc} (h : placeOk p = true) : placeT p = rawT p := by unfold placeT; rw [if_pos h]
theorem placeT_no {p : Plc} (h : placeOk p = false) : placeT p = [] := by unfold placeT; rw [h]; rfl
theorem placeT_ne {p : Plc} : placeT p ≠ [] ↔ placeOk p = true := by
  constructor
  · intro h
    cases hp : placeOk p with
    | true => rfl
    | false => exact absurd (placeT_no hp) h
  · intro h; rw [placeT_ok h]; exact rawT_ne p
theorem placeT_inj {p q : Plc} (hp : placeOk p = true) (h : placeT p = placeT q) : p = q := by
  have hq : placeOk q = true := placeT_ne.1 (h ▸ placeT_ne.2 hp)
  have h1 := readP_in hp
  have h2 := readP_in hq
  rw [placeT_ok hp, placeT_ok hq] at h
  rw [h, h2] at h1
  injection h1 with h1
  exact h1.symm
theorem rowT_len {l : List Int} (h3 : l.length ≤ 3) (h : ∀ z ∈ l, 0 ≤ z ∧ z ≤ 10) : (rowT l).length ≤ 8 := by
  have hd : ∀ z ∈ l, (numT z.toNat).length ≤ 2 := fun z hz => by
    have hb := h z hz
    exact (num_at (n := z.toNat) (by omega)).2.2
  unfold rowT
  split
  · decide
  · match l, h3 with
    | [], _ => exact absurd rfl ‹_›
    | [a], _ => have := hd a (by simp); simp only [List.map_cons, List.map_nil, joinT]; omega
    | [a, b], _ => have h1 := hd a (by simp); have h2 := hd b (by simp); simp only [List.map_cons, List.map_nil, joinT, List.length_append, List.length_cons]; omega
    | [a, b, c], _ => have h1 := hd a (by simp); have h2 := hd b (by simp); have h3 := hd c (by simp); simp only [List.map_cons, List.map_nil, joinT, List.length_append, List.length_cons]; omega
    | _ :: _ :: _ :: _ :: _, h3 => simp at h3 <;> omega
theorem joinT_snoc (c : UInt8) (l : List Bs) (x : Bs) : joinT c (l ++ [x]) = if l = [] then x else joinT c l ++ c :: x := by
  induction l with
  | nil => rfl
  | cons a r ih =>
    rw [if_neg (by simp)]
    cases r with
    | nil => rfl
    | cons b r =>
      show a ++ c :: joinT c (b :: r ++ [x]) = (a ++ c :: joinT c (b :: r)) ++ c :: x
      rw [ih, if_neg (by simp)]
      simp
/-- The first k numbers of a row, as text. -/
def rowTo (zs : List Int) (k : Nat) : Bs := joinT 44 ((zs.take k).map (fun z => numT z.toNat))
theorem rowTo_step {zs : List Int} {k : Nat} {x : Int} (h : zs[k]? = some x) : rowTo zs (k + 1) = if k = 0 then numT x.toNat else rowTo zs k ++ 44 :: numT x.toNat := by
  unfold rowTo
  rw [List.take_add_one, h, List.map_append]
  show joinT 44 (_ ++ [numT x.toNat]) = _
  rw [joinT_snoc]
  have hl := (List.getElem?_eq_some_iff.1 h).1
  by_cases hk : k = 0
  · subst hk; rw [if_pos rfl]; rfl
  · rw [if_neg hk, if_neg ?_]
    intro e
    have := congrArg List.length e
    simp at this
    rcases this with h | h
    · exact hk h
    · rw [h] at hl; simp at hl
theorem rowTo_len {zs : List Int} {k : Nat} (hk : k ≤ zs.length) : (rowTo zs k).length ≤ 22 * k := by
  induction k with
  | zero => simp [rowTo, joinT]
  | succ k ih =>
    have h := List.getElem?_eq_getElem (l := zs) (i := k) (by omega)
    rw [rowTo_step h]
    have hn := numT_len (zs[k]'(by omega)).toNat
    have := ih (by omega)
    split
    · omega
    · simp only [List.length_append, List.length_cons]; omega
theorem rowT_to (zs : List Int) : rowT zs = if zs = [] then [110, 111, 110, 101] else rowTo zs zs.length := by
  unfold rowT rowTo
  rw [List.take_length]
/-- The letters of the first k draws; a dot where none is read yet. -/
def wordTo (ws : List Int) (k : Nat) : Bs := if k = 0 then [46] else (ws.take k).map (fun z => UInt8.ofNat (97 + z.toNat))
theorem wordTo_step {ws : List Int} {k : Nat} {x : Int} (h : ws[k]? = some x) : wordTo ws (k + 1) = (if k = 0 then [] else wordTo ws k) ++ [UInt8.ofNat (97 + x.toNat)] := by
  unfold wordTo
  rw [if_neg (by omega), List.take_add_one, h, List.map_append]
  by_cases hk : k = 0
  · subst hk; rw [if_pos rfl]; rfl
  · rw [if_neg hk, if_neg hk]; rfl
theorem wordTo_len (ws : List Int) (k : Nat) : (wordTo ws k).length ≤ k + 1 := by
  unfold wordTo
  split
  · simp
  · simp; omega
theorem wordT_to (ws : List Int) : wordT ws = wordTo ws ws.length := by
  unfold wordT wordTo
  rw [List.take_length]
  cases ws with
  | nil => rfl
  | cons a r => rw [if_neg (by simp), if_neg (by simp)]
end Go.Proofs.YtoafpokcbbncfaaDoor

namespace Go.Proofs.YtoafpokcbbncfaaDoor
open Go.RowKit
set_option linter.unusedVariables false

structure Ded where
  k : Int
  a : Int
  b : Int
def noDed : Ded := ⟨0, 0, 0⟩
def wPut : Bs := [112, 117, 116]
def wStep : Bs := [115, 116, 101, 112]
def wDraw : Bs := [100, 114, 97, 119]
def wAgain : Bs := [97, 103, 97, 105, 110]
def wBack : Bs := [98, 97, 99, 107]
def kindB (d : Ded) : Bool := decide (d.k = 0 ∨ (d.k = 1 ∧ d.b = 0) ∨ (d.k = 2 ∧ d.b = 0) ∨ (d.k = 3 ∧ d.a = 0 ∧ d.b = 0) ∨ (d.k = 4 ∧ d.a = 0 ∧ d.b = 0))
end Go.Proofs.YtoafpokcbbncfaaDoor

namespace Go.Proofs.YtoafpokcbbncfaaDoor
open Go.RowKit
set_option linter.unusedVariables false

/-- A block of three cells that may be written. -/
structure TriW (w : World) (g : Nat) (x y z : Value) : Prop where
  c0 : w.cell? ⟨g, 0, none⟩ = some x
  c1 : w.cell? ⟨g, 1, none⟩ = some y
  c2 : w.cell? ⟨g, 2, none⟩ = some z
  f0 : w.frozen? ⟨g, 0, none⟩ = false
  f1 : w.frozen? ⟨g, 1, none⟩ = false
  f2 : w.frozen? ⟨g, 2, none⟩ = false
  lt : g < w.heap.size
section
variable {w w' : World} {g B : Nat} {x y z : Value}
theorem TriW.made (w : World) (x y z : Value) (T : TypeId) : TriW (w.alloc (.cells #[x, y, z] T)) w.heap.size x y z :=
  ⟨by rw [World.cell?_alloc_new]; rfl, by rw [World.cell?_alloc_new]; rfl, by rw [World.cell?_alloc_new]; rfl, World.frozen?_alloc_new w _ _ _, World.frozen?_alloc_new w _ _ _, World.frozen?_alloc_new w _ _ _, by simp⟩
theorem TriW.below (h : TriW w g x y z) (hb : Below B w w') (hg : g < B) : TriW w' g x y z :=
  ⟨(hb.cell (p := ⟨g, 0, none⟩) hg).trans h.c0, (hb.cell (p := ⟨g, 1, none⟩) hg).trans h.c1, (hb.cell (p := ⟨g, 2, none⟩) hg).trans h.c2, (hb.frozen (p := ⟨g, 0, none⟩) hg).trans h.f0, (hb.frozen (p := ⟨g, 1, none⟩) hg).trans h.f1, (hb.frozen (p := ⟨g, 2, none⟩) hg).trans h.f2, Nat.lt_of_lt_of_le h.lt hb.size⟩
theorem TriW.up (h : TriW w g x y z) (hq : Below w.heap.size w w') : TriW w' g x y z := h.below hq h.lt
theorem TriW.grown {row : Option Nat} (h : TriW w g x y z) (hg : w.grownBy w' row) (hne : ∀ k, row = some k → k ≠ g) : TriW w' g x y z := by
  have hb := hg.block g h.lt (fun e => hne g e.symm rfl)
  have hc : ∀ o, w'.cell? ⟨g, o, none⟩ = w.cell? ⟨g, o, none⟩ := fun o => World.cell?_of_block hb
  have hf : ∀ o, w'.frozen? ⟨g, o, none⟩ = w.frozen? ⟨g, o, none⟩ := fun o => World.frozen?_of_block hb
  exact ⟨(hc 0).trans h.c0, (hc 1).trans h.c1, (hc 2).trans h.c2, (hf 0).trans h.f0, (hf 1).trans h.f1, (hf 2).trans h.f2, Nat.lt_of_lt_of_le h.lt hg.size⟩
theorem TriW.set0 (h : TriW w g x y z) (u : Value) : TriW (w.setCell ⟨g, 0, none⟩ u) g u y z :=
  ⟨World.cell?_setCell_same _ _ _ h.c0, (World.cell?_setCell_other _ _ _ _ (by simp)).trans h.c1, (World.cell?_setCell_other _ _ _ _ (by simp)).trans h.c2, by simp [h.f0], by simp [h.f1], by simp [h.f2], by simpa using h.lt⟩
theorem TriW.set1 (h : TriW w g x y z) (u : Value) : TriW (w.setCell ⟨g, 1, none⟩ u) g x u z :=
  ⟨(World.cell?_setCell_other _ _ _ _ (by simp)).trans h.c0, World.cell?_setCell_same _ _ _ h.c1, (World.cell?_setCell_other _ _ _ _ (by simp)).trans h.c2, by simp [h.f0], by simp [h.f1], by simp [h.f2], by simpa using h.lt⟩
theorem TriW.set2 (h : TriW w g x y z) (u : Value) : TriW (w.setCell ⟨g, 2, none⟩ u) g x y u :=
  ⟨(World.cell?_setCell_other _ _ _ _ (by simp)).trans h.c0, (World.cell?_setCell_other _ _ _ _ (by simp)).trans h.c1, World.cell?_setCell_same _ _ _ h.c2, by simp [h.f0], by simp [h.f1], by simp [h.f2], by simpa using h.lt⟩
theorem TriW.drew (h : TriW w g x y z) : TriW w.drew g x y z := ⟨h.c0, h.c1, h.c2, h.f0, h.f1, h.f2, h.lt⟩
theorem TriW.drewN (h : TriW w g x y z) (k : Nat) : TriW (w.drewN k) g x y z := ⟨h.c0, h.c1, h.c2, h.f0, h.f1, h.f2, h.lt⟩
theorem TriW.alloc (h : TriW w g x y z) (o : Obj) : TriW (w.alloc o) g x y z := h.up ((Below.refl _ _).alloc (Nat.le_refl _) o)
theorem TriW.other (h : TriW w g x y z) {a : Addr} (hg : a.block ≠ g) (u : Value) : TriW (w.setCell a u) g x y z :=
  ⟨(World.cell?_setCell_other _ _ _ _ (fun e => hg (by rw [e]))).trans h.c0, (World.cell?_setCell_other _ _ _ _ (fun e => hg (by rw [e]))).trans h.c1, (World.cell?_setCell_other _ _ _ _ (fun e => hg (by rw [e]))).trans h.c2, by simp [h.f0], by simp [h.f1], by simp [h.f2], by simpa using h.lt⟩
end


/-- A block of four cells that may be written. -/
structure QuaW (w : World) (g : Nat) (x y z u : Value) : Prop where
  c0 : w.cell? ⟨g, 0, none⟩ = some x
  c1 : w.cell? ⟨g, 1, none⟩ = some y
  c2 : w.cell? ⟨g, 2, none⟩ = some z
  c3 : w.cell? ⟨g, 3, none⟩ = some u
  f0 : w.frozen? ⟨g, 0, none⟩ = false
  f1 : w.frozen? ⟨g, 1, none⟩ = false
  f2 : w.frozen? ⟨g, 2, none⟩ = false
  f3 : w.frozen? ⟨g, 3, none⟩ = false
  lt : g < w.heap.size
section
variable {w w' : World} {g B : Nat} {x y z u : Value}
theorem QuaW.made (w : World) (x y z u : Value) (T : TypeId) : QuaW (w.alloc (.cells #[x, y, z, u] T)) w.heap.size x y z u :=
  ⟨by rw [World.cell?_alloc_new]; rfl, by rw [World.cell?_alloc_new]; rfl, by rw [World.cell?_alloc_new]; rfl, by rw [World.cell?_alloc_new]; rfl, World.frozen?_alloc_new w _ _ _, World.frozen?_alloc_new w _ _ _, World.frozen?_alloc_new w _ _ _, World.frozen?_alloc_new w _ _ _, by simp⟩
theorem QuaW.below (h : QuaW w g x y z u) (hb : Below B w w') (hg : g < B) : QuaW w' g x y z u :=
  ⟨(hb.cell (p := ⟨g, 0, none⟩) hg).trans h.c0, (hb.cell (p := ⟨g, 1, none⟩) hg).trans h.c1, (hb.cell (p := ⟨g, 2, none⟩) hg).trans h.c2, (hb.cell (p := ⟨g, 3, none⟩) hg).trans h.c3, (hb.frozen (p := ⟨g, 0, none⟩) hg).trans h.f0, (hb.frozen (p := ⟨g, 1, none⟩) hg).trans h.f1, (hb.frozen (p := ⟨g, 2, none⟩) hg).trans h.f2, (hb.frozen (p := ⟨g, 3, none⟩) hg).trans h.f3, Nat.lt_of_lt_of_le h.lt hb.size⟩
theorem QuaW.up (h : QuaW w g x y z u) (hq : Below w.heap.size w w') : QuaW w' g x y z u := h.below hq h.lt
theorem QuaW.grown {row : Option Nat} (h : QuaW w g x y z u) (hg : w.grownBy w' row) (hne : ∀ k, row = some k → k ≠ g) : QuaW w' g x y z u := by
  have hb := hg.block g h.lt (fun e => hne g e.symm rfl)
  have hc : ∀ o, w'.cell? ⟨g, o, none⟩ = w.cell? ⟨g, o, none⟩ := fun o => World.cell?_of_block hb
  have hf : ∀ o, w'.frozen? ⟨g, o, none⟩ = w.frozen? ⟨g, o, none⟩ := fun o => World.frozen?_of_block hb
  exact ⟨(hc 0).trans h.c0, (hc 1).trans h.c1, (hc 2).trans h.c2, (hc 3).trans h.c3, (hf 0).trans h.f0, (hf 1).trans h.f1, (hf 2).trans h.f2, (hf 3).trans h.f3, Nat.lt_of_lt_of_le h.lt hg.size⟩
theorem QuaW.set0 (h : QuaW w g x y z u) (v : Value) : QuaW (w.setCell ⟨g, 0, none⟩ v) g v y z u :=
  ⟨World.cell?_setCell_same _ _ _ h.c0, (World.cell?_setCell_other _ _ _ _ (by simp)).trans h.c1, (World.cell?_setCell_other _ _ _ _ (by simp)).trans h.c2, (World.cell?_setCell_other _ _ _ _ (by simp)).trans h.c3, by simp [h.f0], by simp [h.f1], by simp [h.f2], by simp [h.f3], by simpa using h.lt⟩
theorem QuaW.set1 (h : QuaW w g x y z u) (v : Value) : QuaW (w.setCell ⟨g, 1, none⟩ v) g x v z u :=
  ⟨(World.cell?_setCell_other _ _ _ _ (by simp)).trans h.c0, World.cell?_setCell_same _ _ _ h.c1, (World.cell?_setCell_other _ _ _ _ (by simp)).trans h.c2, (World.cell?_setCell_other _ _ _ _ (by simp)).trans h.c3, by simp [h.f0], by simp [h.f1], by simp [h.f2], by simp [h.f3], by simpa using h.lt⟩
theorem QuaW.set2 (h : QuaW w g x y z u) (v : Value) : QuaW (w.setCell ⟨g, 2, none⟩ v) g x y v u :=
  ⟨(World.cell?_setCell_other _ _ _ _ (by simp)).trans h.c0, (World.cell?_setCell_other _ _ _ _ (by simp)).trans h.c1, World.cell?_setCell_same _ _ _ h.c2, (World.cell?_setCell_other _ _ _ _ (by simp)).trans h.c3, by simp [h.f0], by simp [h.f1], by simp [h.f2], by simp [h.f3], by simpa using h.lt⟩
theorem QuaW.set3 (h : QuaW w g x y z u) (v : Value) : QuaW (w.setCell ⟨g, 3, none⟩ v) g x y z v :=
  ⟨(World.cell?_setCell_other _ _ _ _ (by simp)).trans h.c0, (World.cell?_setCell_other _ _ _ _ (by simp)).trans h.c1, (World.cell?_setCell_other _ _ _ _ (by simp)).trans h.c2, World.cell?_setCell_same _ _ _ h.c3, by simp [h.f0], by simp [h.f1], by simp [h.f2], by simp [h.f3], by simpa using h.lt⟩
theorem QuaW.drew (h : QuaW w g x y z u) : QuaW w.drew g x y z u := ⟨h.c0, h.c1, h.c2, h.c3, h.f0, h.f1, h.f2, h.f3, h.lt⟩
theorem QuaW.drewN (h : QuaW w g x y z u) (k : Nat) : QuaW (w.drewN k) g x y z u := ⟨h.c0, h.c1, h.c2, h.c3, h.f0, h.f1, h.f2, h.f3, h.lt⟩
theorem QuaW.alloc (h : QuaW w g x y z u) (o : Obj) : QuaW (w.alloc o) g x y z u := h.up ((Below.refl _ _).alloc (Nat.le_refl _) o)
theorem QuaW.other (h : QuaW w g x y z u) {a : Addr} (hg : a.block ≠ g) (v : Value) : QuaW (w.setCell a v) g x y z u :=
  ⟨(World.cell?_setCell_other _ _ _ _ (fun e => hg (by rw [e]))).trans h.c0, (World.cell?_setCell_other _ _ _ _ (fun e => hg (by rw [e]))).trans h.c1, (World.cell?_setCell_other _ _ _ _ (fun e => hg (by rw [e]))).trans h.c2, (World.cell?_setCell_other _ _ _ _ (fun e => hg (by rw [e]))).trans h.c3, by simp [h.f0], by simp [h.f1], by simp [h.f2], by simp [h.f3], by simpa using h.lt⟩
end
end Go.Proofs.YtoafpokcbbncfaaDoor

namespace Go.Proofs.YtoafpokcbbncfaaDoor
open Go.RowKit
set_option linter.unusedVariables false

structure Dsk where
  now : Plc
  past : List Plc
def noDsk : Dsk := ⟨noPlc, []⟩
def deskOk (d : Dsk) : Bool := d.past.all placeOk && placeOk d.now && decide (d.past.length ≤ 8)
def madeP (p : Plc) (a : Ded) : Plc :=
  if a.k = 0 ∧ p.word = [] then ⟨putL p.start a.a a.b, p.step, []⟩
  else if a.k = 1 ∧ a.b = 0 ∧ p.word = [] then ⟨p.start, a.a, p.word⟩
  else if a.k = 2 ∧ a.b = 0 then ⟨p.start, p.step, p.word ++ [a.a]⟩
  else if a.k = 3 ∧ a.a = 0 ∧ a.b = 0 then ⟨p.start, p.step, []⟩
  else noPlc
def pushP (ps : List Plc) (p : Plc) : List Plc := if 8 < (ps ++ [p]).length then (ps ++ [p]).drop 1 else ps ++ [p]
def backB (d : Dsk) (a : Ded) : Bool := decide (a.k = 4 ∧ a.a = 0 ∧ a.b = 0) && !d.past.isEmpty
def newB (d : Dsk) (a : Ded) : Bool := placeOk (madeP d.now a) && decide (placeT (madeP d.now a) ≠ placeT d.now)
def deskD (d : Dsk) (a : Ded) : Dsk :=
  if backB d a then ⟨d.past.getLast?.getD noPlc, d.past.dropLast⟩
  else if newB d a then ⟨madeP d.now a, pushP d.past d.now⟩ else d
def doneB (d : Dsk) (a : Ded) : Bool := backB d a || newB d a
def deskX (d : Dsk) (a : Ded) : Dsk := if deskOk d then deskD d a else noDsk
def deskB (d : Dsk) (a : Ded) : Bool := deskOk d && doneB d a
def runD : Dsk → List Ded → Dsk
  | d, [] => d
  | d, a :: r => runD (if deskB d a then deskX d a else d) r
def runN : Dsk → List Ded → Nat
  | d, [] => 0
  | d, a :: r => (if deskB d a then 1 else 0) + runN (if deskB d a then deskX d a else d) r
def runOk (d : Dsk) (l : List Ded) : Bool := deskOk d && decide (l.length ≤ 40)
def deskR (d : Dsk) (l : List Ded) : Dsk := if runOk d l then runD d l else noDsk
def deskN (d : Dsk) (l : List Ded) : Int := if runOk d l then (runN d l : Int) else 0

theorem noPlc_no : placeOk noPlc = false := by decide
theorem noDsk_no : deskOk noDsk = false := by unfold deskOk noDsk; rw [noPlc_no]; rfl
theorem deskOk_yes {d : Dsk} (h : deskOk d = true) : (∀ p ∈ d.past, placeOk p = true) ∧ placeOk d.now = true ∧ d.past.length ≤ 8 := by
  unfold deskOk at h
  simp only [Bool.and_eq_true, List.all_eq_true, decide_eq_true_eq] at h
  exact ⟨h.1.1, h.1.2, h.2⟩
theorem deskOk_mk {d : Dsk} (h1 : ∀ p ∈ d.past, placeOk p = true) (h2 : placeOk d.now = true) (h3 : d.past.length ≤ 8) : deskOk d = true := by
  unfold deskOk
  simp only [Bool.and_eq_true, List.all_eq_true, decide_eq_true_eq]
  exact ⟨⟨h1, h2⟩, h3⟩
theorem pushP_len {ps : List Plc} {p : Plc} (h : ps.length ≤ 8) : (pushP ps p).length ≤ 8 := by
  unfold pushP
  split
  · simp; omega
  · omega
theorem pushP_mem {ps : List Plc} {p q : Plc} (h : q ∈ pushP ps p) : q ∈ ps ∨ q = p := by
  unfold pushP at h
  have : q ∈ ps ++ [p] := by
    split at h
    · exact List.mem_of_mem_drop h
    · exact h
  simpa using this
theorem deskD_ok {d : Dsk} {a : Ded} (h : deskOk d = true) : deskOk (deskD d a) = true := by
  obtain ⟨h1, h2, h3⟩ := deskOk_yes h
  unfold deskD
  split
  · next hb =>
    unfold backB at hb
    rw [Bool.and_eq_true] at hb
    have hne : d.past ≠ [] := by
      intro e
      rw [e] at hb
      exact absurd hb.2 (by decide)
    refine deskOk_mk (fun p hp => h1 p (List.dropLast_subset _ hp)) ?_ (by show d.past.dropLast.length ≤ 8; rw [List.length_dropLast]; omega)
    show placeOk (d.past.getLast?.getD noPlc) = true
    rw [List.getLast?_eq_some_getLast hne]
    exact h1 _ (List.getLast_mem hne)
  · split
    · next hb =>
      unfold newB at hb
      rw [Bool.and_eq_true] at hb
      refine deskOk_mk (fun p hp => ?_) hb.1 (pushP_len h3)
      rcases pushP_mem hp with e | e
      · exact h1 p e
      · rw [e]; exact h2
    · exact h
theorem deskX_ok {d : Dsk} {a : Ded} (h : deskOk d = true) : deskOk (deskX d a) = true := by
  unfold deskX; rw [if_pos h]; exact deskD_ok h
theorem deskX_not {d : Dsk} {a : Ded} (h : deskOk d = true) (hb : deskB d a = false) : deskX d a = d := by
  unfold deskB doneB at hb
  rw [h, Bool.true_and, Bool.or_eq_false_iff] at hb
  unfold deskX deskD
  rw [if_pos h, hb.1, hb.2]
  rfl
theorem deskX_no {d : Dsk} {a : Ded} (h : deskOk d = false) : deskX d a = noDsk := by unfold deskX; rw [h]; rfl
theorem deskB_no {d : Dsk} {a : Ded} (h : deskOk d = false) : deskB d a = false := by unfold deskB; rw [h]; rfl
theorem stepD_eq {d : Dsk} {a : Ded} (h : deskOk d = true) : (if deskB d a then deskX d a else d) = deskX d a := by
  cases hb : deskB d a with
  | true => rfl
  | false => rw [deskX_not h hb]; rfl
theorem stepD_ok {d : Dsk} {a : Ded} (h : deskOk d = true) : deskOk (if deskB d a then deskX d a else d) = true := by
  rw [stepD_eq h]; exact deskX_ok h
theorem runD_ok {d : Dsk} (h : deskOk d = true) (l : List Ded) : deskOk (runD d l) = true := by
  induction l generalizing d with
  | nil => exact h
  | cons a r ih => exact ih (stepD_ok h)
theorem runD_append (d : Dsk) (l m : List Ded) : runD d (l ++ m) = runD (runD d l) m := by
  induction l generalizing d with
  | nil => rfl
  | cons a r ih => exact ih _
theorem runN_append (d : Dsk) (l m : List Ded) : runN d (l ++ m) = runN d l + runN (runD d l) m := by
  induction l generalizing d with
  | nil => simp [runN, runD]
  | cons a r ih =>
    show _ + runN _ (r ++ m) = _ + runN _ r + runN _ m
    rw [ih, Nat.add_assoc]
    rfl
theorem runN_le (d : Dsk) (l : List Ded) : runN d l ≤ l.length := by
  induction l generalizing d with
  | nil => exact Nat.le_refl _
  | cons a r ih =>
    have := ih (if deskB d a then deskX d a else d)
    show _ + runN (if deskB d a then deskX d a else d) r ≤ r.length + 1
    have h1 : (if deskB d a then 1 else 0) ≤ 1 := by split <;> omega
    omega
theorem runD_snoc {d : Dsk} {l : List Ded} {a : Ded} : runD d (l ++ [a]) = if deskB (runD d l) a then deskX (runD d l) a else runD d l := by
  rw [runD_append]; rfl
theorem runD_take {d : Dsk} {l : List Ded} {k : Nat} {a : Ded} (h : l[k]? = some a) : runD d (l.take (k + 1)) = if deskB (runD d (l.take k)) a then deskX (runD d (l.take k)) a else runD d (l.take k) := by
  rw [List.take_add_one, h]
  exact runD_snoc
theorem runN_take {d : Dsk} {l : List Ded} {k : Nat} {a : Ded} (h : l[k]? = some a) : runN d (l.take (k + 1)) = runN d (l.take k) + if deskB (runD d (l.take k)) a then 1 else 0 := by
  rw [List.take_add_one, h, runN_append]
  simp [runN]
end Go.Proofs.YtoafpokcbbncfaaDoor

namespace Go.Proofs.YtoafpokcbbncfaaDoor
open Go.RowKit
set_option linter.unusedVariables false

end Go.Proofs.YtoafpokcbbncfaaDoor

namespace Go.Proofs.YtoafpokcbbncfaaDoor
open Go.RowKit
set_option linter.unusedVariables false

end Go.Proofs.YtoafpokcbbncfaaDoor
