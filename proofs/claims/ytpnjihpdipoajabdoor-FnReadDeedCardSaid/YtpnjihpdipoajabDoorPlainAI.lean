/-
  Plain functions and lemmas of chapter 14: places, their texts, and how these are read. No program is named here.
-/
import Derived.Test.YtpnjihpdipoajabDoorPlainAH
import Derived.Test.YtpnjihpdipoajabDoorZpl
namespace Go.Proofs.YtpnjihpdipoajabDoor
open Go.RowKit
set_option linter.unusedVariables false

structure Plc where
  start : List Int
  step : Int
  word : List Int
def noPlc : Plc := ⟨[], 0, []⟩
def placeOk (p : Plc) : Bool := startOk p.start && stepB p.step && afterOk p.start (sameRule p.start.length p.step) p.word
def rowT (l : List Int) : Bs := if l = [] then [110, 111, 110, 101] else joinT 44 (l.map (fun z => numT z.toNat))
def wordT (l : List Int) : Bs := if l = [] then [46] else l.map (fun z => UInt8.ofNat (97 + z.toNat))
def rawT (p : Plc) : Bs := rowT p.start ++ 32 :: (stepT p.step ++ 32 :: wordT p.word)
def placeT (p : Plc) : Bs := if placeOk p then rawT p else []
def wordOf' (l : Bs) : List Int := if l = [46] then [] else l.map (fun x => (x.toNat : Int) - 97)
def guessP (s : Bs) : Option Plc := match cutT 32 s with
  | [a, b, c] => some ⟨(cutT 44 a).map digP, signP b, wordOf' c⟩
  | _ => none
def readP (s : Bs) : Option Plc := match guessP s with
  | some p => if placeT p = s ∧ s ≠ [] then some p else none
  | none => none

theorem placeOk_yes {p : Plc} (h : placeOk p = true) : (1 ≤ p.start.length ∧ p.start.length ≤ 3) ∧ (∀ z ∈ p.start, 0 ≤ z ∧ z ≤ 10) ∧ (-1 ≤ p.step ∧ p.step ≤ 3) ∧ p.word.length ≤ 6 ∧ (∀ x ∈ p.word, 0 ≤ x ∧ x < p.start.length) := by
  unfold placeOk at h
  simp only [Bool.and_eq_true] at h
  obtain ⟨⟨h1, h2⟩, h3⟩ := h
  unfold afterOk at h3
  rw [Bool.and_eq_true] at h3
  obtain ⟨a, b, c, d, e⟩ := afterC_yes h3.1
  have hu : 1 ≤ p.start.length ∧ p.start.length ≤ 3 := by
    unfold urnOk at a
    rw [Bool.and_eq_true] at a
    exact of_decide_eq_true a.1
  exact ⟨hu, b, stepB_yes h2, d, e⟩
theorem rawT_ne (p : Plc) : rawT p ≠ [] := by
  unfold rawT
  intro h
  have := congrArg List.length h
  simp at this
theorem readP_out {s : Bs} {p : Plc} (h : readP s = some p) : placeOk p = true ∧ rawT p = s := by
  unfold readP at h
  split at h
  · next q _ =>
    split at h
    · next hs =>
      injection h with h
      subst h
      unfold placeT at hs
      split at hs
      · next hp => exact ⟨hp, hs.1⟩
      · exact absurd hs.1.symm hs.2
    · cases h
  · cases h
theorem rowT_free {l : List Int} (hl : l ≠ []) (h : ∀ z ∈ l, 0 ≤ z ∧ z ≤ 10) : 32 ∉ rowT l ∧ (cutT 44 (rowT l)).map digP = l := by
  have hd : ∀ z ∈ l, digP (numT z.toNat) = z ∧ (∀ c ∈ numT z.toNat, 48 ≤ c ∧ c ≤ 57) := fun z hz => by
    have hb := h z hz
    obtain ⟨a, b, _⟩ := num_at (n := z.toNat) (by omega)
    exact ⟨by rw [a]; omega, b⟩
  unfold rowT
  rw [if_neg hl]
  have hfree : ∀ p ∈ l.map (fun z => numT z.toNat), (44 : UInt8) ∉ p := fun p hp hm => by
    obtain ⟨z, hz, rfl⟩ := List.mem_map.1 hp
    have := ((hd z hz).2 44 hm).1
    exact absurd this (by decide)
  constructor
  · have : ∀ (ls : List Bs), (∀ p ∈ ls, ∀ c ∈ p, (48 : UInt8) ≤ c ∧ c ≤ 57) → (32 : UInt8) ∉ joinT 44 ls := by
      intro ls
      induction ls with
      | nil => intro _ hm; cases hm
      | cons a r ih =>
        intro hp hm
        cases r with
        | nil => exact absurd (hp a List.mem_cons_self 32 hm).1 (by decide)
        | cons b r =>
          rcases List.mem_append.1 hm with hm | hm
          · exact absurd (hp a List.mem_cons_self 32 hm).1 (by decide)
          · rcases List.mem_cons.1 hm with hm | hm
            · exact absurd hm (by decide)
            · exact ih (fun p h => hp p (List.mem_cons_of_mem _ h)) hm
    exact this _ (fun p hp c hc => by
      obtain ⟨z, hz, rfl⟩ := List.mem_map.1 hp
      exact (hd z hz).2 c hc)
  · rw [cutT_join _ (by simpa using hl) hfree, List.map_map]
    have : ∀ z ∈ l, (digP ∘ fun z : Int => numT z.toNat) z = z := fun z hz => (hd z hz).1
    rw [List.map_congr_left this, List.map_id']
theorem letter_back {x : Int} (h0 : 0 ≤ x) (h1 : x < 3) : ((UInt8.ofNat (97 + x.toNat)).toNat : Int) - 97 = x ∧ UInt8.ofNat (97 + x.toNat) ≠ 32 ∧ UInt8.ofNat (97 + x.toNat) ≠ 46 := by
  have : x = 0 ∨ x = 1 ∨ x = 2 := by omega
  rcases this with rfl | rfl | rfl <;> decide
theorem wordT_free {l : List Int} (h : ∀ x ∈ l, 0 ≤ x ∧ x < 3) : 32 ∉ wordT l ∧ wordOf' (wordT l) = l := by
  unfold wordT
  split
  · next e => subst e; exact ⟨by decide, rfl⟩
  · next e =>
    constructor
    · intro hm
      obtain ⟨x, hx, he⟩ := List.mem_map.1 hm
      exact (letter_back (h x hx).1 (h x hx).2).2.1 he
    · unfold wordOf'
      rw [if_neg ?_, List.map_map]
      · have : ∀ x ∈ l, ((fun x : UInt8 => (x.toNat : Int) - 97) ∘ fun z : Int => UInt8.ofNat (97 + z.toNat)) x = x := fun x hx => (letter_back (h x hx).1 (h x hx).2).1
        rw [List.map_congr_left this, List.map_id']
      · intro he
        cases l with
        | nil => exact e rfl
        | cons a r =>
          simp only [List.map_cons, List.cons.injEq] at he
          exact (letter_back (h a List.mem_cons_self).1 (h a List.mem_cons_self).2).2.2 he.1
theorem step_free {z : Int} (h0 : -99 ≤ z) (h1 : z ≤ 99) : 32 ∉ stepT z := fun hm => by
  rcases (step_at h0 h1).2.1 32 hm with h | h
  · exact absurd h (by decide)
  · exact absurd h.1 (by decide)
theorem guessP_raw {p : Plc} (h : placeOk p = true) : guessP (rawT p) = some p := by
  obtain ⟨hl, hz, hs, h6, hw⟩ := placeOk_yes h
  have hne : p.start ≠ [] := fun e => by rw [e] at hl; simp at hl
  obtain ⟨f1, g1⟩ := rowT_free hne hz
  obtain ⟨f3, g3⟩ := wordT_free (l := p.word) (fun x hx => by have := hw x hx; omega)
  have f2 := step_free (z := p.step) (by omega) (by omega)
  have g2 := (step_at (z := p.step) (by omega) (by omega)).1
  unfold guessP rawT
  rw [cutT_sep f1, cutT_sep f2, cutT_none f3]
  show some (Plc.mk _ _ _) = some p
  rw [g1, g2, g3]
theorem readP_in {p : Plc} (h : placeOk p = true) : readP (rawT p) = some p := by
  unfold readP
  rw [guessP_raw h]
  show (if placeT p = rawT p ∧ rawT p ≠ [] then some p else none) = some p
  rw [if_pos ⟨by unfold placeT; rw [if_pos h], rawT_ne p⟩]
theorem readP_iff {s : Bs} {p : Plc} : readP s = some p ↔ placeOk p = true ∧ rawT p = s := ⟨readP_out, fun ⟨h1, h2⟩ => h2 ▸ readP_in h1⟩
theorem placeT_ok {p : Plc} (h : placeOk p = true) : placeT p = rawT p := by unfold placeT; rw [if_pos h]
theorem placeT_no {p : Plc} (h : placeOk p = false) : placeT p = [] := by unfold placeT; rw [h]; rfl
theorem placeT_ne {p : Plc} : placeT p ≠ [] ↔ placeOk p = true := by
  constructor
  · intro h
    cases hp : placeOk p with
    | true => rfl
    | false => exact absurd (placeT_no hp) h
  · intro h; rw [placeT_ok h]; exact rawT_ne p
theorem placeT_inj {p q : Plc} (hp : placeOk p = true) (h : placeT p = placeT q) : p = q := by
  have hq : placeOk q = true := placeT_ne.1 (h ▸ placeT_ne.2 hp)
  have h1 := readP_in hp
  have h2 := readP_in hq
  rw [placeT_ok hp, placeT_ok hq] at h
  rw [h, h2] at h1
  injection h1 with h1
  exact h1.symm
/-- A text of a place with a space behind it is none. -/
theorem rawT_last {p : Plc} (h : placeOk p = true) : (rawT p).getLast? ≠ some 32 := by
  obtain ⟨hl, hz, hs, h6, hw⟩ := placeOk_yes h
  obtain ⟨f3, g3⟩ := wordT_free (l := p.word) (fun x hx => by have := hw x hx; omega)
  have hne : wordT p.word ≠ [] := by unfold wordT; split <;> simp_all
  unfold rawT
  intro he
  have : (rowT p.start ++ 32 :: (stepT p.step ++ 32 :: wordT p.word)) = (rowT p.start ++ 32 :: (stepT p.step ++ [32])) ++ wordT p.word := by simp
  rw [this, List.getLast?_append] at he
  cases hg : (wordT p.word).getLast? with
  | none => exact hne (List.getLast?_eq_none_iff.1 hg)
  | some x =>
    rw [hg] at he
    simp at he
    subst he
    exact f3 (List.mem_of_getLast? hg)
theorem readP_space {s : Bs} {p : Plc} (h : readP s = some p) : readP (s ++ [32]) = none := by
  cases hr : readP (s ++ [32]) with
  | none => rfl
  | some q =>
    obtain ⟨h1, h2⟩ := readP_out hr
    exact absurd (by rw [h2]; simp) (rawT_last h1)
theorem rowT_len {l : List Int} (h3 : l.length ≤ 3) (h : ∀ z ∈ l, 0 ≤ z ∧ z ≤ 10) : (rowT l).length ≤ 8 := by
  have hd : ∀ z ∈ l, (numT z.toNat).length ≤ 2 := fun z hz => by
    have hb := h z hz
    exact (num_at (n := z.toNat) (by omega)).2.2
  unfold rowT
  split
  · decide
  · match l, h3 with
    | [], _ => exact absurd rfl ‹_›
    | [a], _ => have := hd a (by simp); simp only [List.map_cons, List.map_nil, joinT]; omega
    | [a, b], _ => have h1 := hd a (by simp); have h2 := hd b (by simp); simp only [List.map_cons, List.map_nil, joinT, List.length_append, List.length_cons]; omega
    | [a, b, c], _ => have h1 := hd a (by simp); have h2 := hd b (by simp); have h3 := hd c (by simp); simp only [List.map_cons, List.map_nil, joinT, List.length_append, List.length_cons]; omega
    | _ :: _ :: _ :: _ :: _, h3 => simp at h3 <;> omega
theorem wordT_len (l : List Int) : (wordT l).length ≤ l.length + 1 := by
  unfold wordT
  split
  · simp
  · simp
theorem rawT_len {p : Plc} (h : placeOk p = true) : (rawT p).length ≤ 20 := by
  obtain ⟨hl, hz, hs, h6, hw⟩ := placeOk_yes h
  have h1 := rowT_len hl.2 hz
  have h2 := (step_at (z := p.step) (by omega) (by omega)).2.2.2
  have h3 := wordT_len p.word
  unfold rawT
  simp only [List.length_append, List.length_cons]
  omega
theorem placeT_len (p : Plc) : (placeT p).length ≤ 20 := by
  unfold placeT
  split
  · next h => exact rawT_len h
  · simp
theorem joinT_snoc (c : UInt8) (l : List Bs) (x : Bs) : joinT c (l ++ [x]) = if l = [] then x else joinT c l ++ c :: x := by
  induction l with
  | nil => rfl
  | cons a r ih =>
    rw [if_neg (by simp)]
    cases r with
    | nil => rfl
    | cons b r =>
      show a ++ c :: joinT c (b :: r ++ [x]) = (a ++ c :: joinT c (b :: r)) ++ c :: x
      rw [ih, if_neg (by simp)]
      simp
/-- The first k numbers of a row, as text. -/
def rowTo (zs : List Int) (k : Nat) : Bs := joinT 44 ((zs.take k).map (fun z => numT z.toNat))
theorem rowTo_step {zs : List Int} {k : Nat} {x : Int} (h : zs[k]? = some x) : rowTo zs (k + 1) = if k = 0 then numT x.toNat else rowTo zs k ++ 44 :: numT x.toNat := by
  unfold rowTo
  rw [List.take_add_one, h, List.map_append]
  show joinT 44 (_ ++ [numT x.toNat]) = _
  rw [joinT_snoc]
  have hl := (List.getElem?_eq_some_iff.1 h).1
  by_cases hk : k = 0
  · subst hk; rw [if_pos rfl]; rfl
  · rw [if_neg hk, if_neg ?_]
    intro e
    have := congrArg List.length e
    simp at this
    rcases this with h | h
    · exact hk h
    · rw [h] at hl; simp at hl
theorem rowTo_len {zs : List Int} {k : Nat} (hk : k ≤ zs.length) : (rowTo zs k).length ≤ 22 * k := by
  induction k with
  | zero => simp [rowTo, joinT]
  | succ k ih =>
    have h := List.getElem?_eq_getElem (l := zs) (i := k) (by omega)
    rw [rowTo_step h]
    have hn := numT_len (zs[k]'(by omega)).toNat
    have := ih (by omega)
    split
    · omega
    · simp only [List.length_append, List.length_cons]; omega
theorem rowT_to (zs : List Int) : rowT zs = if zs = [] then [110, 111, 110, 101] else rowTo zs zs.length := by
  unfold rowT rowTo
  rw [List.take_length]
/-- The letters of the first k draws; a dot where none is read yet. -/
def wordTo (ws : List Int) (k : Nat) : Bs := if k = 0 then [46] else (ws.take k).map (fun z => UInt8.ofNat (97 + z.toNat))
theorem wordTo_step {ws : List Int} {k : Nat} {x : Int} (h : ws[k]? = some x) : wordTo ws (k + 1) = (if k = 0 then [] else wordTo ws k) ++ [UInt8.ofNat (97 + x.toNat)] := by
  unfold wordTo
  rw [if_neg (by omega), List.take_add_one, h, List.map_append]
  by_cases hk : k = 0
  · subst hk; rw [if_pos rfl]; rfl
  · rw [if_neg hk, if_neg hk]; rfl
theorem wordTo_len (ws : List Int) (k : Nat) : (wordTo ws k).length ≤ k + 1 := by
  unfold wordTo
  split
  · simp
  · simp; omega
theorem wordT_to (ws : List Int) : wordT ws = wordTo ws ws.length := by
  unfold wordT wordTo
  rw [List.take_length]
  cases ws with
  | nil => rfl
  | cons a r => rw [if_neg (by simp), if_neg (by simp)]
def readQ (l : Bs) : Plc := (readP l).getD noPlc
def readPB (l : Bs) : Bool := (readP l).isSome
theorem readPB_yes {l : Bs} (h : readPB l = true) : placeOk (readQ l) = true ∧ rawT (readQ l) = l := by
  unfold readPB at h
  unfold readQ
  cases hr : readP l with
  | none => rw [hr] at h; cases h
  | some p => exact readP_out hr
theorem readPB_no {l : Bs} (h : readPB l = false) : readQ l = noPlc := by
  unfold readPB at h
  unfold readQ
  cases hr : readP l with
  | none => rfl
  | some p => rw [hr] at h; cases h
theorem readPB_raw {p : Plc} (h : placeOk p = true) : readPB (rawT p) = true ∧ readQ (rawT p) = p := by
  unfold readPB readQ
  rw [readP_in h]
  exact ⟨rfl, rfl⟩
end Go.Proofs.YtpnjihpdipoajabDoor
