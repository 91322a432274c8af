/-
  Words, plain lemmas and contracts that belong together, joined into one file.
-/
import Derived.Test.YtffllkmaifjpfabZpl
namespace Go.Proofs.Ytffllkmaifjpfab
open Go.RowKit
set_option linter.unusedVariables false

inductive Tr where
  | col (c : Nat)
  | any
  | thn (a b : Tr)
  | alt (a b : Tr)

abbrev Mk := Int × Int

def flat : Tr → List Mk
  | .col c => [(0, (c : Int))]
  | .any => [(1, 0)]
  | .thn a b => flat a ++ (flat b ++ [(2, 0)])
  | .alt a b => flat a ++ (flat b ++ [(3, 0)])
def ln : Tr → Nat
  | .col _ => 1
  | .any => 1
  | .thn a b => ln a + ln b
  | .alt a _ => ln a
def good (C : Int) : Tr → Bool
  | .col c => decide ((c : Int) < C)
  | .any => true
  | .thn a b => good C a && good C b && decide (ln a + ln b ≤ 6)
  | .alt a b => good C a && good C b && decide (ln a = ln b)
def back : Tr → Tr
  | .col c => .col c
  | .any => .any
  | .thn a b => .thn (back b) (back a)
  | .alt a b => .alt (back a) (back b)
def flats : List Tr → List Mk
  | [] => []
  | x :: r => flat x ++ flats r
theorem flats_append (a b : List Tr) : flats (a ++ b) = flats a ++ flats b := by
  induction a with
  | nil => rfl
  | cons x r ih => simp only [List.cons_append, flats, ih, List.append_assoc]

/-- One mark more over a stack of parts (the last one first). -/
def stepT (C : Int) (st : List Tr) (m : Mk) : Option (List Tr) :=
  if m.1 = 0 ∧ 0 ≤ m.2 ∧ m.2 < C then some (.col m.2.toNat :: st)
  else if m.1 = 1 ∧ m.2 = 0 then some (.any :: st)
  else match st with
    | b :: a :: r => if m.1 = 2 ∧ m.2 = 0 ∧ ln a + ln b ≤ 6 then some (.thn a b :: r) else if m.1 = 3 ∧ m.2 = 0 ∧ ln a = ln b then some (.alt a b :: r) else none
    | _ => none
def runT (C : Int) : List Tr → List Mk → Option (List Tr)
  | st, [] => some st
  | st, m :: r => match stepT C st m with
    | some st' => runT C st' r
    | none => none
theorem runT_append (C : Int) (xs ys : List Mk) : ∀ st, runT C st (xs ++ ys) = (runT C st xs).bind (fun st' => runT C st' ys) := by
  induction xs with
  | nil => intro st; rfl
  | cons m r ih =>
    intro st
    simp only [List.cons_append, runT]
    cases stepT C st m with
    | none => rfl
    | some st' => exact ih st'
theorem runT_snoc (C : Int) (xs : List Mk) (m : Mk) (st : List Tr) : runT C st (xs ++ [m]) = (runT C st xs).bind (fun st' => stepT C st' m) := by
  rw [runT_append]
  congr 1
  funext st'
  simp only [runT]
  cases stepT C st' m <;> rfl

theorem parse_flat (C : Int) : ∀ (x : Tr), good C x = true → ∀ (st : List Tr) (rest : List Mk), runT C st (flat x ++ rest) = runT C (x :: st) rest
  | .col c, h, st, rest => by
    have h := of_decide_eq_true h
    simp only [flat, List.cons_append, List.nil_append, runT, stepT]
    rw [if_pos ⟨trivial, by omega, h⟩, Int.toNat_natCast]
  | .any, h, st, rest => by
    simp only [flat, List.cons_append, List.nil_append, runT, stepT]
    rw [if_neg (by simp), if_pos ⟨trivial, trivial⟩]
  | .thn a b, h, st, rest => by
    simp only [good, Bool.and_eq_true] at h
    have h3 := of_decide_eq_true h.2
    simp only [flat, List.append_assoc]
    rw [parse_flat C a h.1.1, parse_flat C b h.1.2]
    simp only [List.cons_append, List.nil_append, runT, stepT]
    rw [if_neg (by simp), if_neg (by simp), if_pos ⟨trivial, trivial, h3⟩]
  | .alt a b, h, st, rest => by
    simp only [good, Bool.and_eq_true] at h
    have h3 := of_decide_eq_true h.2
    simp only [flat, List.append_assoc]
    rw [parse_flat C a h.1.1, parse_flat C b h.1.2]
    simp only [List.cons_append, List.nil_append, runT, stepT]
    rw [if_neg (by simp), if_neg (by simp), if_neg (by simp), if_pos ⟨trivial, trivial, h3⟩]

def allGood (C : Int) (l : List Tr) : Prop := ∀ x ∈ l, good C x = true
theorem stepT_sound {C : Int} {st st' : List Tr} {m : Mk} (h : stepT C st m = some st') : (allGood C st → allGood C st') ∧ flats st'.reverse = flats st.reverse ++ [m] := by
  obtain ⟨m1, m2⟩ := m
  simp only [stepT] at h
  by_cases h1 : m1 = 0 ∧ 0 ≤ m2 ∧ m2 < C
  · rw [if_pos h1] at h
    injection h with h
    subst h
    refine ⟨fun hg x hx => ?_, ?_⟩
    · rcases List.mem_cons.1 hx with rfl | hx
      · exact decide_eq_true (by omega)
      · exact hg x hx
    · rw [List.reverse_cons, flats_append]
      simp only [flats, flat, List.append_nil]
      rw [h1.1, show ((m2.toNat : Nat) : Int) = m2 by omega]
  · rw [if_neg h1] at h
    by_cases h2 : m1 = 1 ∧ m2 = 0
    · rw [if_pos h2] at h
      injection h with h
      subst h
      refine ⟨fun hg x hx => ?_, ?_⟩
      · rcases List.mem_cons.1 hx with rfl | hx
        · rfl
        · exact hg x hx
      · rw [List.reverse_cons, flats_append]
        simp only [flats, flat, List.append_nil]
        rw [h2.1, h2.2]
    · rw [if_neg h2] at h
      match st, h with
      | b :: a :: r, h =>
        dsimp only at h
        by_cases h3 : m1 = 2 ∧ m2 = 0 ∧ ln a + ln b ≤ 6
        · rw [if_pos h3] at h
          injection h with h
          subst h
          refine ⟨fun hg x hx => ?_, ?_⟩
          · rcases List.mem_cons.1 hx with rfl | hx
            · simp only [good, Bool.and_eq_true]
              exact ⟨⟨hg a (by simp), hg b (by simp)⟩, decide_eq_true h3.2.2⟩
            · exact hg x (by simp [hx])
          · simp only [List.reverse_cons, flats_append, flats, flat, List.append_nil, List.append_assoc]
            rw [h3.1, h3.2.1]
        · rw [if_neg h3] at h
          by_cases h4 : m1 = 3 ∧ m2 = 0 ∧ ln a = ln b
          · rw [if_pos h4] at h
            injection h with h
            subst h
            refine ⟨fun hg x hx => ?_, ?_⟩
            · rcases List.mem_cons.1 hx with rfl | hx
              · simp only [good, Bool.and_eq_true]
                exact ⟨⟨hg a (by simp), hg b (by simp)⟩, decide_eq_true h4.2.2⟩
              · exact hg x (by simp [hx])
            · simp only [List.reverse_cons, flats_append, flats, flat, List.append_nil, List.append_assoc]
              rw [h4.1, h4.2.1]
          · rw [if_neg h4] at h; cases h
      | [], h => cases h
      | [_], h => cases h
theorem runT_sound {C : Int} : ∀ (ts : List Mk) {st st' : List Tr}, runT C st ts = some st' → (allGood C st → allGood C st') ∧ flats st'.reverse = flats st.reverse ++ ts
  | [], st, st', h => by
    simp only [runT] at h
    injection h with h
    subst h
    exact ⟨id, by simp⟩
  | m :: r, st, st', h => by
    simp only [runT] at h
    cases hs : stepT C st m with
    | none => rw [hs] at h; cases h
    | some s =>
      rw [hs] at h
      obtain ⟨a1, a2⟩ := stepT_sound hs
      obtain ⟨b1, b2⟩ := runT_sound r h
      exact ⟨fun hg => b1 (a1 hg), by rw [b2, a2, List.append_assoc]; rfl⟩

def isOne (o : Option (List Tr)) : Bool := match o with
  | some [_] => true
  | _ => false
def termOk (C : Int) (ts : List Mk) : Bool := decide (1 ≤ C ∧ C ≤ 3) && isOne (runT C [] ts) && decide (ts.length ≤ 15)
/-- The tree of a term. -/
def Is (C : Int) (ts : List Mk) (x : Tr) : Prop := good C x = true ∧ flat x = ts
theorem termOk_yes {C : Int} {ts : List Mk} (h : termOk C ts = true) : 1 ≤ C ∧ C ≤ 3 ∧ ts.length ≤ 15 ∧ ∃ x, Is C ts x := by
  unfold termOk at h
  simp only [Bool.and_eq_true] at h
  have h1 := of_decide_eq_true h.1.1
  refine ⟨h1.1, h1.2, of_decide_eq_true h.2, ?_⟩
  have h2 := h.1.2
  cases hr : runT C [] ts with
  | none => rw [hr] at h2; cases h2
  | some st =>
    rw [hr] at h2
    match st, h2, hr with
    | [x], _, hr =>
      obtain ⟨a, b⟩ := runT_sound ts hr
      refine ⟨x, a (fun y hy => by cases hy) x (by simp), ?_⟩
      simpa [flats] using b
    | [], h2, _ => cases h2
    | _ :: _ :: _, h2, _ => cases h2
theorem is_run {C : Int} {ts : List Mk} {x : Tr} (h : Is C ts x) : runT C [] ts = some [x] := by
  have := parse_flat C x h.1 [] []
  rw [List.append_nil, h.2] at this
  exact this
theorem termOk_mk {C : Int} {ts : List Mk} {x : Tr} (h1 : 1 ≤ C) (h3 : C ≤ 3) (hl : ts.length ≤ 15) (h : Is C ts x) : termOk C ts = true := by
  unfold termOk
  rw [is_run h, decide_eq_true ⟨h1, h3⟩, decide_eq_true hl]; rfl
theorem is_same {C : Int} {ts : List Mk} {x y : Tr} (h : Is C ts x) (h' : Is C ts y) : x = y := by
  have := (is_run h).symm.trans (is_run h')
  injection this with this
  injection this
/-- The length of a term; its marks from behind. -/
def treeOf (C : Int) (ts : List Mk) : Option Tr := if termOk C ts then (match runT C [] ts with | some [x] => some x | _ => none) else none
theorem treeOf_in {C : Int} {ts : List Mk} {x : Tr} (h : termOk C ts = true) (hx : Is C ts x) : treeOf C ts = some x := by
  unfold treeOf
  rw [if_pos h, is_run hx]
theorem treeOf_out {C : Int} {ts : List Mk} (h : termOk C ts = false) : treeOf C ts = none := by
  unfold treeOf
  rw [h]; rfl
def lenT (C : Int) (ts : List Mk) : Int := match treeOf C ts with
  | some x => (ln x : Int)
  | none => -1
def backL (C : Int) (ts : List Mk) : List Mk := match treeOf C ts with
  | some x => flat (back x)
  | none => []
theorem lenT_in {C : Int} {ts : List Mk} {x : Tr} (h : termOk C ts = true) (hx : Is C ts x) : lenT C ts = (ln x : Int) := by unfold lenT; rw [treeOf_in h hx]
theorem lenT_out {C : Int} {ts : List Mk} (h : termOk C ts = false) : lenT C ts = -1 := by unfold lenT; rw [treeOf_out h]
theorem backL_in {C : Int} {ts : List Mk} {x : Tr} (h : termOk C ts = true) (hx : Is C ts x) : backL C ts = flat (back x) := by unfold backL; rw [treeOf_in h hx]
theorem backL_out {C : Int} {ts : List Mk} (h : termOk C ts = false) : backL C ts = [] := by unfold backL; rw [treeOf_out h]

theorem ln_pos : ∀ (x : Tr), 1 ≤ ln x
  | .col _ => Nat.le_refl _
  | .any => Nat.le_refl _
  | .thn a b => by have := ln_pos a; simp only [ln]; omega
  | .alt a _ => ln_pos a
theorem ln_le {C : Int} : ∀ (x : Tr), good C x = true → ln x ≤ 6
  | .col _, _ => by simp only [ln]; omega
  | .any, _ => by simp only [ln]; omega
  | .thn a b, h => by
    simp only [good, Bool.and_eq_true] at h
    exact of_decide_eq_true h.2
  | .alt a b, h => by
    simp only [good, Bool.and_eq_true] at h
    exact ln_le a h.1.1
theorem flat_pos : ∀ (x : Tr), 1 ≤ (flat x).length
  | .col _ => Nat.le_refl _
  | .any => Nat.le_refl _
  | .thn a b => by simp only [flat, List.length_append, List.length_cons]; omega
  | .alt a b => by simp only [flat, List.length_append, List.length_cons]; omega
theorem back_ln : ∀ (x : Tr), ln (back x) = ln x
  | .col _ => rfl
  | .any => rfl
  | .thn a b => by simp only [back, ln, back_ln a, back_ln b]; omega
  | .alt a b => by simp only [back, ln, back_ln a]
theorem back_good {C : Int} : ∀ (x : Tr), good C (back x) = good C x
  | .col _ => rfl
  | .any => rfl
  | .thn a b => by
    simp only [back, good, back_good a, back_good b, back_ln]
    rw [Bool.and_comm (good C b), Nat.add_comm]
  | .alt a b => by simp only [back, good, back_good a, back_good b, back_ln]
theorem back_back : ∀ (x : Tr), back (back x) = x
  | .col _ => rfl
  | .any => rfl
  | .thn a b => by simp only [back, back_back a, back_back b]
  | .alt a b => by simp only [back, back_back a, back_back b]
theorem back_len : ∀ (x : Tr), (flat (back x)).length = (flat x).length
  | .col _ => rfl
  | .any => rfl
  | .thn a b => by simp only [back, flat, List.length_append, back_len a, back_len b]; omega
  | .alt a b => by simp only [back, flat, List.length_append, back_len a, back_len b]
theorem back_is {C : Int} {ts : List Mk} {x : Tr} (h : Is C ts x) : Is C (flat (back x)) (back x) := ⟨by rw [back_good]; exact h.1, rfl⟩

/-- A word fits a term. -/
def fitsT : Tr → List Int → Bool
  | .col c, ws => decide (ws = [(c : Int)])
  | .any, ws => decide (ws.length = 1)
  | .thn a b, ws => decide (ln a ≤ ws.length) && fitsT a (ws.take (ln a)) && fitsT b (ws.drop (ln a))
  | .alt a b, ws => fitsT a ws || fitsT b ws
theorem fits_len {C : Int} : ∀ (x : Tr) (ws : List Int), good C x = true → fitsT x ws = true → ws.length = ln x
  | .col c, ws, _, h => by have := of_decide_eq_true h; rw [this]; rfl
  | .any, ws, _, h => of_decide_eq_true h
  | .thn a b, ws, hg, h => by
    simp only [good, Bool.and_eq_true] at hg
    simp only [fitsT, Bool.and_eq_true] at h
    have h1 := of_decide_eq_true h.1.1
    have h2 := fits_len b _ hg.1.2 h.2
    rw [List.length_drop] at h2
    simp only [ln]; omega
  | .alt a b, ws, hg, h => by
    simp only [good, Bool.and_eq_true] at hg
    simp only [fitsT, Bool.or_eq_true] at h
    rcases h with h | h
    · exact fits_len a ws hg.1.1 h
    · have h2 := fits_len b ws hg.1.2 h
      have h3 := of_decide_eq_true hg.2
      simp only [ln]; omega
theorem fits_back {C : Int} : ∀ (x : Tr) (ws : List Int), good C x = true → fitsT (back x) ws.reverse = fitsT x ws
  | .col c, ws, _ => by
    simp only [back, fitsT]
    apply decide_eq_decide.2
    constructor
    · intro h; have := congrArg List.reverse h; simpa using this
    · intro h; rw [h]; rfl
  | .any, ws, _ => by simp only [back, fitsT, List.length_reverse]
  | .alt a b, ws, hg => by
    simp only [good, Bool.and_eq_true] at hg
    simp only [back, fitsT]
    rw [fits_back a ws hg.1.1, fits_back b ws hg.1.2]
  | .thn a b, ws, hg => by
    simp only [good, Bool.and_eq_true] at hg
    simp only [back, fitsT, back_ln, List.length_reverse]
    by_cases hl : ws.length = ln a + ln b
    · have e1 : ws.reverse.take (ln b) = (ws.drop (ln a)).reverse := by rw [List.take_reverse, hl, Nat.add_sub_cancel]
      have e2 : ws.reverse.drop (ln b) = (ws.take (ln a)).reverse := by rw [List.drop_reverse, hl, Nat.add_sub_cancel]
      rw [e1, e2, fits_back a _ hg.1.1, fits_back b _ hg.1.2, decide_eq_true (by omega), decide_eq_true (by omega), Bool.true_and, Bool.true_and, Bool.and_comm]
    · have k1 : (decide (ln b ≤ ws.length) && fitsT (back b) (ws.reverse.take (ln b)) && fitsT (back a) (ws.reverse.drop (ln b))) = false := by
        rw [Bool.eq_false_iff]
        intro h
        simp only [Bool.and_eq_true] at h
        have h1 := of_decide_eq_true h.1.1
        have h2 := fits_len (C := C) (back a) _ (by rw [back_good]; exact hg.1.1) h.2
        rw [List.length_drop, List.length_reverse, back_ln] at h2
        omega
      have k2 : (decide (ln a ≤ ws.length) && fitsT a (ws.take (ln a)) && fitsT b (ws.drop (ln a))) = false := by
        rw [Bool.eq_false_iff]
        intro h
        simp only [Bool.and_eq_true] at h
        have h1 := of_decide_eq_true h.1.1
        have h2 := fits_len (C := C) b _ hg.1.2 h.2
        rw [List.length_drop] at h2
        omega
      rw [k1, k2]

/-- Where a part begins: the marks from 'start' on to a place are those of some parts. -/
theorem flats_last (q : List Tr) (hq : q ≠ []) : ∃ (q' : List Tr) (x : Tr), q = q' ++ [x] := ⟨q.dropLast, q.getLast hq, (List.dropLast_concat_getLast hq).symm⟩
theorem flats_snoc (q : List Tr) (x : Tr) : flats (q ++ [x]) = flats q ++ flat x := by rw [flats_append]; simp [flats]
end Go.Proofs.Ytffllkmaifjpfab

namespace Go.Proofs.Ytffllkmaifjpfab
open Go.RowKit
set_option linter.unusedVariables false

def isAlt : Tr → Bool
  | .alt _ _ => true
  | _ => false
def isLeaf : Tr → Bool
  | .col _ => true
  | .any => true
  | _ => false
def par (l : List UInt8) : List UInt8 := 40 :: (l ++ [41])
def wrapB (b : Bool) (l : List UInt8) : List UInt8 := if b then par l else l
def txt : Tr → List UInt8
  | .col c => [UInt8.ofNat (97 + c)]
  | .any => [46]
  | .thn a b => wrapB (isAlt a) (txt a) ++ wrapB (!isLeaf b) (txt b)
  | .alt a b => txt a ++ 124 :: wrapB (isAlt b) (txt b)
theorem wrapB_len (b : Bool) (l : List UInt8) : (wrapB b l).length ≤ l.length + 2 ∧ l.length ≤ (wrapB b l).length := by
  unfold wrapB par
  cases b
  · rw [if_neg (by simp)]; omega
  · rw [if_pos rfl]
    simp only [List.length_cons, List.length_append, List.length_nil]; omega
theorem txt_len : ∀ (x : Tr), 2 * (txt x).length + 3 ≤ 5 * (flat x).length
  | .col _ => by simp [txt, flat]
  | .any => by simp [txt, flat]
  | .thn a b => by
    have h1 := txt_len a
    have h2 := txt_len b
    have h3 := (wrapB_len (isAlt a) (txt a)).1
    have h4 := (wrapB_len (!isLeaf b) (txt b)).1
    simp only [txt, flat, List.length_append, List.length_cons, List.length_nil]
    omega
  | .alt a b => by
    have h1 := txt_len a
    have h2 := txt_len b
    have h4 := (wrapB_len (isAlt b) (txt b)).1
    simp only [txt, flat, List.length_append, List.length_cons, List.length_nil]
    omega
theorem txt_pos : ∀ (x : Tr), 1 ≤ (txt x).length
  | .col _ => by simp [txt]
  | .any => by simp [txt]
  | .thn a b => by
    have h1 := txt_pos a
    have h3 := (wrapB_len (isAlt a) (txt a)).2
    simp only [txt, List.length_append]
    omega
  | .alt a b => by simp only [txt, List.length_append, List.length_cons]; omega

abbrev Rest := Option (Tr × List UInt8)
/-- One letter, one dot or a part in brackets. -/
def pAtom (orF : List UInt8 → Rest) : List UInt8 → Rest
  | [] => none
  | c :: r =>
    if 97 ≤ c ∧ c ≤ 99 then some (.col (c.toNat - 97), r)
    else if c = 46 then some (.any, r)
    else if c = 40 then (match orF r with
      | some (t, d :: r') => if d = 41 then some (t, r') else none
      | _ => none)
    else none
def rowLoop (atF : List UInt8 → Rest) : Nat → Tr → List UInt8 → Rest
  | 0, t, l => some (t, l)
  | _ + 1, t, [] => some (t, [])
  | k + 1, t, c :: r => if c = 124 ∨ c = 41 then some (t, c :: r) else (match atF (c :: r) with
    | some (u, l') => rowLoop atF k (.thn t u) l'
    | none => none)
def pRow (atF : List UInt8 → Rest) (l : List UInt8) : Rest := match atF l with
  | some (t, l') => rowLoop atF l'.length t l'
  | none => none
def orLoop (rowF : List UInt8 → Rest) : Nat → Tr → List UInt8 → Rest
  | 0, t, l => some (t, l)
  | _ + 1, t, [] => some (t, [])
  | k + 1, t, c :: r => if c = 124 then (match rowF r with
    | some (u, l') => orLoop rowF k (.alt t u) l'
    | none => none) else some (t, c :: r)
def pOrF (rowF : List UInt8 → Rest) (l : List UInt8) : Rest := match rowF l with
  | some (t, l') => orLoop rowF l'.length t l'
  | none => none
def pOr : Nat → List UInt8 → Rest
  | 0, _ => none
  | n + 1, l => pOrF (pRow (pAtom (pOr n))) l
def atN (n : Nat) : List UInt8 → Rest := pAtom (pOr n)
def rowN (n : Nat) : List UInt8 → Rest := pRow (atN n)

/-! What is left is a shorter end of what was read. -/
def Eats (f : List UInt8 → Rest) : Prop := ∀ l t l', f l = some (t, l') → ∃ k, 1 ≤ k ∧ k ≤ l.length ∧ l' = l.drop k
theorem atom_eats {f : List UInt8 → Rest} (h : Eats f) : Eats (pAtom f) := by
  intro l t l' e
  match l with
  | [] => cases e
  | c :: r =>
    simp only [pAtom] at e
    by_cases h1 : 97 ≤ c ∧ c ≤ 99
    · rw [if_pos h1] at e
      injection e with e; injection e with _ e; subst e
      exact ⟨1, by omega, by simp, by simp⟩
    · rw [if_neg h1] at e
      by_cases h2 : c = 46
      · rw [if_pos h2] at e
        injection e with e; injection e with _ e; subst e
        exact ⟨1, by omega, by simp, by simp⟩
      · rw [if_neg h2] at e
        by_cases h3 : c = 40
        · rw [if_pos h3] at e
          cases hf : f r with
          | none => rw [hf] at e; cases e
          | some p =>
            obtain ⟨t2, l2⟩ := p
            rw [hf] at e
            match l2, hf, e with
            | [], hf, e => cases e
            | d :: r', hf, e =>
              dsimp only at e
              by_cases h4 : d = 41
              · rw [if_pos h4] at e
                injection e with e; injection e with _ e; subst e
                obtain ⟨k, k1, k2, k3⟩ := h r t2 _ hf
                have hl := congrArg List.length k3
                simp only [List.length_cons, List.length_drop] at hl
                refine ⟨k + 2, by omega, by simp only [List.length_cons]; omega, ?_⟩
                rw [List.drop_succ_cons, ← List.drop_drop, ← k3]; rfl
              · rw [if_neg h4] at e; cases e
        · rw [if_neg h3] at e; cases e
theorem rowLoop_eats {f : List UInt8 → Rest} (h : Eats f) : ∀ (k : Nat) (t : Tr) (l : List UInt8) (t' : Tr) (l' : List UInt8), rowLoop f k t l = some (t', l') → ∃ j, j ≤ l.length ∧ l' = l.drop j
  | 0, t, l, t', l', e => by
    simp only [rowLoop] at e
    injection e with e; injection e with _ e; subst e
    exact ⟨0, by omega, rfl⟩
  | k + 1, t, [], t', l', e => by
    simp only [rowLoop] at e
    injection e with e; injection e with _ e; subst e
    exact ⟨0, by omega, rfl⟩
  | k + 1, t, c :: r, t', l', e => by
    simp only [rowLoop] at e
    by_cases h1 : c = 124 ∨ c = 41
    · rw [if_pos h1] at e
      injection e with e; injection e with _ e; subst e
      exact ⟨0, by omega, rfl⟩
    · rw [if_neg h1] at e
      cases hf : f (c :: r) with
      | none => rw [hf] at e; cases e
      | some p =>
        obtain ⟨u, l2⟩ := p
        rw [hf] at e
        obtain ⟨k1, k2, k3, k4⟩ := h _ _ _ hf
        obtain ⟨j, j1, j2⟩ := rowLoop_eats h k _ _ _ _ e
        rw [k4, List.length_drop] at j1
        exact ⟨k1 + j, by omega, by rw [j2, k4, List.drop_drop]⟩
theorem row_eats {f : List UInt8 → Rest} (h : Eats f) : Eats (pRow f) := by
  intro l t l' e
  unfold pRow at e
  cases hf : f l with
  | none => rw [hf] at e; cases e
  | some p =>
    obtain ⟨u, l2⟩ := p
    rw [hf] at e
    obtain ⟨k1, k2, k3, k4⟩ := h _ _ _ hf
    obtain ⟨j, j1, j2⟩ := rowLoop_eats h _ _ _ _ _ e
    rw [k4, List.length_drop] at j1
    exact ⟨k1 + j, by omega, by omega, by rw [j2, k4, List.drop_drop]⟩
theorem orLoop_eats {f : List UInt8 → Rest} (h : Eats f) : ∀ (k : Nat) (t : Tr) (l : List UInt8) (t' : Tr) (l' : List UInt8), orLoop f k t l = some (t', l') → ∃ j, j ≤ l.length ∧ l' = l.drop j
  | 0, t, l, t', l', e => by
    simp only [orLoop] at e
    injection e with e; injection e with _ e; subst e
    exact ⟨0, by omega, rfl⟩
  | k + 1, t, [], t', l', e => by
    simp only [orLoop] at e
    injection e with e; injection e with _ e; subst e
    exact ⟨0, by omega, rfl⟩
  | k + 1, t, c :: r, t', l', e => by
    simp only [orLoop] at e
    by_cases h1 : c = 124
    · rw [if_pos h1] at e
      cases hf : f r with
      | none => rw [hf] at e; cases e
      | some p =>
        obtain ⟨u, l2⟩ := p
        rw [hf] at e
        obtain ⟨k1, k2, k3, k4⟩ := h _ _ _ hf
        obtain ⟨j, j1, j2⟩ := orLoop_eats h k _ _ _ _ e
        rw [k4, List.length_drop] at j1
        exact ⟨k1 + j + 1, by simp only [List.length_cons]; omega, by rw [j2, k4, List.drop_drop, List.drop_succ_cons]⟩
    · rw [if_neg h1] at e
      injection e with e; injection e with _ e; subst e
      exact ⟨0, by omega, rfl⟩
theorem or_eats {f : List UInt8 → Rest} (h : Eats f) : Eats (pOrF f) := by
  intro l t l' e
  unfold pOrF at e
  cases hf : f l with
  | none => rw [hf] at e; cases e
  | some p =>
    obtain ⟨u, l2⟩ := p
    rw [hf] at e
    obtain ⟨k1, k2, k3, k4⟩ := h _ _ _ hf
    obtain ⟨j, j1, j2⟩ := orLoop_eats h _ _ _ _ _ e
    rw [k4, List.length_drop] at j1
    exact ⟨k1 + j, by omega, by omega, by rw [j2, k4, List.drop_drop]⟩
theorem pOr_eats : ∀ (n : Nat), Eats (pOr n)
  | 0 => fun l t l' e => by cases e
  | n + 1 => or_eats (row_eats (atom_eats (pOr_eats n)))
theorem atN_eats (n : Nat) : Eats (atN n) := atom_eats (pOr_eats n)
theorem rowN_eats (n : Nat) : Eats (rowN n) := row_eats (atN_eats n)

/-! The marks of what is read are few. -/
def Thin (f : List UInt8 → Rest) : Prop := ∀ l t l', f l = some (t, l') → (flat t).length + 2 * l'.length + 1 ≤ 2 * l.length
theorem atom_thin {f : List UInt8 → Rest} (h : Thin f) : Thin (pAtom f) := by
  intro l t l' e
  match l with
  | [] => cases e
  | c :: r =>
    simp only [pAtom] at e
    by_cases h1 : 97 ≤ c ∧ c ≤ 99
    · rw [if_pos h1] at e
      injection e with e; injection e with e1 e; subst e; subst e1
      simp only [flat, List.length_cons, List.length_nil]; omega
    · rw [if_neg h1] at e
      by_cases h2 : c = 46
      · rw [if_pos h2] at e
        injection e with e; injection e with e1 e; subst e; subst e1
        simp only [flat, List.length_cons, List.length_nil]; omega
      · rw [if_neg h2] at e
        by_cases h3 : c = 40
        · rw [if_pos h3] at e
          cases hf : f r with
          | none => rw [hf] at e; cases e
          | some p =>
            obtain ⟨t2, l2⟩ := p
            rw [hf] at e
            match l2, hf, e with
            | [], hf, e => cases e
            | d :: r', hf, e =>
              dsimp only at e
              by_cases h4 : d = 41
              · rw [if_pos h4] at e
                injection e with e; injection e with e1 e; subst e; subst e1
                have := h r t2 _ hf
                simp only [List.length_cons] at this ⊢
                omega
              · rw [if_neg h4] at e; cases e
        · rw [if_neg h3] at e; cases e
theorem rowLoop_thin {f : List UInt8 → Rest} (h : Thin f) : ∀ (k : Nat) (t : Tr) (l : List UInt8) (t' : Tr) (l' : List UInt8), rowLoop f k t l = some (t', l') → (flat t').length + 2 * l'.length ≤ (flat t).length + 2 * l.length
  | 0, t, l, t', l', e => by
    simp only [rowLoop] at e
    injection e with e; injection e with e1 e; subst e; subst e1
    exact Nat.le_refl _
  | k + 1, t, [], t', l', e => by
    simp only [rowLoop] at e
    injection e with e; injection e with e1 e; subst e; subst e1
    exact Nat.le_refl _
  | k + 1, t, c :: r, t', l', e => by
    simp only [rowLoop] at e
    by_cases h1 : c = 124 ∨ c = 41
    · rw [if_pos h1] at e
      injection e with e; injection e with e1 e; subst e; subst e1
      exact Nat.le_refl _
    · rw [if_neg h1] at e
      cases hf : f (c :: r) with
      | none => rw [hf] at e; cases e
      | some p =>
        obtain ⟨u, l2⟩ := p
        rw [hf] at e
        have h2 := h _ _ _ hf
        have h3 := rowLoop_thin h k _ _ _ _ e
        simp only [flat, List.length_append, List.length_cons, List.length_nil] at h2 h3 ⊢
        omega
theorem row_thin {f : List UInt8 → Rest} (h : Thin f) : Thin (pRow f) := by
  intro l t l' e
  unfold pRow at e
  cases hf : f l with
  | none => rw [hf] at e; cases e
  | some p =>
    obtain ⟨u, l2⟩ := p
    rw [hf] at e
    have h2 := h _ _ _ hf
    have h3 := rowLoop_thin h _ _ _ _ _ e
    omega
theorem orLoop_thin {f : List UInt8 → Rest} (h : Thin f) : ∀ (k : Nat) (t : Tr) (l : List UInt8) (t' : Tr) (l' : List UInt8), orLoop f k t l = some (t', l') → (flat t').length + 2 * l'.length ≤ (flat t).length + 2 * l.length
  | 0, t, l, t', l', e => by
    simp only [orLoop] at e
    injection e with e; injection e with e1 e; subst e; subst e1
    exact Nat.le_refl _
  | k + 1, t, [], t', l', e => by
    simp only [orLoop] at e
    injection e with e; injection e with e1 e; subst e; subst e1
    exact Nat.le_refl _
  | k + 1, t, c :: r, t', l', e => by
    simp only [orLoop] at e
    by_cases h1 : c = 124
    · rw [if_pos h1] at e
      cases hf : f r with
      | none => rw [hf] at e; cases e
      | some p =>
        obtain ⟨u, l2⟩ := p
        rw [hf] at e
        have h2 := h _ _ _ hf
        have h3 := orLoop_thin h k _ _ _ _ e
        simp only [flat, List.length_append, List.length_cons, List.length_nil] at h2 h3 ⊢
        omega
    · rw [if_neg h1] at e
      injection e with e; injection e with e1 e; subst e; subst e1
      exact Nat.le_refl _
theorem or_thin {f : List UInt8 → Rest} (h : Thin f) : Thin (pOrF f) := by
  intro l t l' e
  unfold pOrF at e
  cases hf : f l with
  | none => rw [hf] at e; cases e
  | some p =>
    obtain ⟨u, l2⟩ := p
    rw [hf] at e
    have h2 := h _ _ _ hf
    have h3 := orLoop_thin h _ _ _ _ _ e
    omega
theorem pOr_thin : ∀ (n : Nat), Thin (pOr n)
  | 0 => fun l t l' e => by cases e
  | n + 1 => or_thin (row_thin (atom_thin (pOr_thin n)))
theorem atN_thin (n : Nat) : Thin (atN n) := atom_thin (pOr_thin n)
theorem rowN_thin (n : Nat) : Thin (rowN n) := row_thin (atN_thin n)

/-! What is written is read. -/
def small : Tr → Bool
  | .col c => decide (c < 3)
  | .any => true
  | .thn a b => small a && small b
  | .alt a b => small a && small b
theorem good_small {C : Int} (hC : C ≤ 3) : ∀ (x : Tr), good C x = true → small x = true
  | .col c, h => decide_eq_true (by have := of_decide_eq_true h; omega)
  | .any, _ => rfl
  | .thn a b, h => by
    simp only [good, Bool.and_eq_true] at h
    simp only [small, good_small hC a h.1.1, good_small hC b h.1.2, Bool.and_self]
  | .alt a b, h => by
    simp only [good, Bool.and_eq_true] at h
    simp only [small, good_small hC a h.1.1, good_small hC b h.1.2, Bool.and_self]
/-- A row ends here. -/
def ends (l : List UInt8) : Prop := l = [] ∨ ∃ c r, l = c :: r ∧ (c = 124 ∨ c = 41)
/-- A choice of rows ends here. -/
def stops (l : List UInt8) : Prop := l = [] ∨ ∃ r, l = 41 :: r
theorem stops_ends {l : List UInt8} (h : stops l) : ends l := by
  rcases h with h | ⟨r, h⟩
  · exact .inl h
  · exact .inr ⟨41, r, h, .inr rfl⟩
theorem rowLoop_end (f : List UInt8 → Rest) (k : Nat) (t : Tr) {l : List UInt8} (h : ends l) : rowLoop f k t l = some (t, l) := by
  rcases h with rfl | ⟨c, r, rfl, h⟩
  · cases k <;> rfl
  · cases k with
    | zero => rfl
    | succ k => simp only [rowLoop]; rw [if_pos h]
theorem orLoop_end (f : List UInt8 → Rest) (k : Nat) (t : Tr) {l : List UInt8} (h : stops l) : orLoop f k t l = some (t, l) := by
  rcases h with rfl | ⟨r, rfl⟩
  · cases k <;> rfl
  · cases k with
    | zero => rfl
    | succ k => simp only [orLoop]; rw [if_neg (by decide)]
/-- A part as one piece: a leaf, or in brackets. -/
def piece (x : Tr) : List UInt8 := wrapB (!isLeaf x) (txt x)
def ReadsOr (f : List UInt8 → Rest) (n : Nat) : Prop := ∀ x rest, small x = true → (txt x).length < n → stops rest → f (txt x ++ rest) = some (x, rest)
theorem letter_toNat {c : Nat} (h : c < 3) : 97 ≤ UInt8.ofNat (97 + c) ∧ UInt8.ofNat (97 + c) ≤ 99 ∧ (UInt8.ofNat (97 + c)).toNat - 97 = c := by
  match c, h with
  | 0, _ => decide
  | 1, _ => decide
  | 2, _ => decide
theorem atom_par {f : List UInt8 → Rest} {x : Tr} {rest : List UInt8} (h : f (txt x ++ 41 :: rest) = some (x, 41 :: rest)) : pAtom f (par (txt x) ++ rest) = some (x, rest) := by
  unfold par
  rw [List.cons_append, List.append_assoc, List.cons_append, List.nil_append]
  simp only [pAtom]
  rw [if_neg (by decide), if_neg (by decide), if_pos trivial, h]
  rfl
theorem atom_leaf (f : List UInt8 → Rest) {x : Tr} (hs : small x = true) (hl : isLeaf x = true) (rest : List UInt8) : pAtom f (txt x ++ rest) = some (x, rest) := by
  match x, hs, hl with
  | .col c, hs, _ =>
    obtain ⟨h1, h2, h3⟩ := letter_toNat (of_decide_eq_true hs)
    simp only [txt, List.cons_append, List.nil_append, pAtom]
    rw [if_pos ⟨h1, h2⟩, h3]
  | .any, _, _ =>
    simp only [txt, List.cons_append, List.nil_append, pAtom]
    rw [if_neg (by decide), if_pos trivial]
theorem atom_piece {f : List UInt8 → Rest} {n : Nat} (h : ReadsOr f n) {x : Tr} (hs : small x = true) (hl : (piece x).length ≤ n) (rest : List UInt8) : pAtom f (piece x ++ rest) = some (x, rest) := by
  unfold piece at hl ⊢
  cases hx : isLeaf x with
  | true =>
    exact atom_leaf f hs hx rest
  | false =>
    rw [hx] at hl
    refine atom_par (h x _ hs ?_ (.inr ⟨_, rfl⟩))
    simp only [wrapB, par] at hl
    simp at hl
    omega
theorem piece_head {x : Tr} (hs : small x = true) : ∃ c r, piece x = c :: r ∧ ¬(c = 124 ∨ c = 41) := by
  match x, hs with
  | .col c, hs =>
    refine ⟨UInt8.ofNat (97 + c), [], rfl, ?_⟩
    have h := of_decide_eq_true hs
    match c, h with
    | 0, _ => decide
    | 1, _ => decide
    | 2, _ => decide
  | .any, _ => exact ⟨46, [], rfl, by decide⟩
  | .thn a b, _ => exact ⟨40, _, rfl, by decide⟩
  | .alt a b, _ => exact ⟨40, _, rfl, by decide⟩
theorem row_step {f : List UInt8 → Rest} {n : Nat} (h : ReadsOr f n) {x : Tr} (hs : small x = true) (hl : (piece x).length ≤ n) (rest : List UInt8) (k : Nat) (hk : (piece x ++ rest).length ≤ k) (t : Tr) :
    ∃ j, rest.length ≤ j ∧ rowLoop (pAtom f) k t (piece x ++ rest) = rowLoop (pAtom f) j (.thn t x) rest := by
  obtain ⟨c, r, hc, hn⟩ := piece_head hs
  have ha := atom_piece h hs hl rest
  rw [hc, List.cons_append] at ha
  rw [hc, List.cons_append] at hk ⊢
  simp only [List.length_cons, List.length_append] at hk
  obtain ⟨j, rfl⟩ : ∃ j, k = j + 1 := ⟨k - 1, by omega⟩
  refine ⟨j, by omega, ?_⟩
  simp only [rowLoop]
  rw [if_neg hn, ha]
/-- A row is read up to what follows, and goes on there. -/
theorem row_reads {f : List UInt8 → Rest} {n : Nat} (h : ReadsOr f n) : ∀ (x : Tr), small x = true → (wrapB (isAlt x) (txt x)).length ≤ n → ∀ rest, ∃ k, rest.length ≤ k ∧ pRow (pAtom f) (wrapB (isAlt x) (txt x) ++ rest) = rowLoop (pAtom f) k x rest
  | .col c, hs, hl, rest => ⟨rest.length, Nat.le_refl _, by
    unfold pRow
    rw [show wrapB (isAlt (.col c)) (txt (.col c)) = txt (.col c) from rfl, atom_leaf f hs rfl rest]⟩
  | .any, hs, hl, rest => ⟨rest.length, Nat.le_refl _, by
    unfold pRow
    rw [show wrapB (isAlt .any) (txt .any) = txt .any from rfl, atom_leaf f hs rfl rest]⟩
  | .alt a b, hs, hl, rest => ⟨rest.length, Nat.le_refl _, by
    unfold pRow
    rw [show wrapB (isAlt (.alt a b)) (txt (.alt a b)) = piece (.alt a b) from rfl, atom_piece h hs hl rest]⟩
  | .thn a b, hs, hl, rest => by
    have hs2 : small a = true ∧ small b = true := by simpa only [small, Bool.and_eq_true] using hs
    have e : wrapB (isAlt (.thn a b)) (txt (.thn a b)) = wrapB (isAlt a) (txt a) ++ piece b := rfl
    rw [e, List.length_append] at hl
    rw [e, List.append_assoc]
    obtain ⟨k, hk, hr⟩ := row_reads h a hs2.1 (by omega) (piece b ++ rest)
    rw [hr]
    obtain ⟨j, hj, hr2⟩ := row_step h hs2.2 (by omega) rest k hk a
    exact ⟨j, hj, hr2⟩
theorem row_done {f : List UInt8 → Rest} {n : Nat} (h : ReadsOr f n) (x : Tr) (hs : small x = true) (hl : (wrapB (isAlt x) (txt x)).length ≤ n) {rest : List UInt8} (he : ends rest) : pRow (pAtom f) (wrapB (isAlt x) (txt x) ++ rest) = some (x, rest) := by
  obtain ⟨k, _, e⟩ := row_reads h x hs hl rest
  rw [e, rowLoop_end _ _ _ he]
theorem or_reads {f : List UInt8 → Rest} {n : Nat} (h : ReadsOr f n) : ∀ (x : Tr), small x = true → (txt x).length ≤ n → ∀ rest, ends rest → ∃ k, rest.length ≤ k ∧ pOrF (pRow (pAtom f)) (txt x ++ rest) = orLoop (pRow (pAtom f)) k x rest
  | .col c, hs, hl, rest, he => ⟨rest.length, Nat.le_refl _, by
    unfold pOrF
    rw [show txt (.col c) = wrapB (isAlt (.col c)) (txt (.col c)) from rfl, row_done h _ hs hl he]⟩
  | .any, hs, hl, rest, he => ⟨rest.length, Nat.le_refl _, by
    unfold pOrF
    rw [show txt .any = wrapB (isAlt .any) (txt .any) from rfl, row_done h _ hs hl he]⟩
  | .thn a b, hs, hl, rest, he => ⟨rest.length, Nat.le_refl _, by
    unfold pOrF
    rw [show txt (.thn a b) = wrapB (isAlt (.thn a b)) (txt (.thn a b)) from rfl, row_done h _ hs hl he]⟩
  | .alt a b, hs, hl, rest, he => by
    have hs2 : small a = true ∧ small b = true := by simpa only [small, Bool.and_eq_true] using hs
    have e : txt (.alt a b) = txt a ++ 124 :: wrapB (isAlt b) (txt b) := rfl
    rw [e, List.length_append, List.length_cons] at hl
    rw [e, List.append_assoc, List.cons_append]
    obtain ⟨k, hk, hr⟩ := or_reads h a hs2.1 (by omega) (124 :: (wrapB (isAlt b) (txt b) ++ rest)) (.inr ⟨124, _, rfl, .inl rfl⟩)
    rw [hr]
    simp only [List.length_cons, List.length_append] at hk
    obtain ⟨j, rfl⟩ : ∃ j, k = j + 1 := ⟨k - 1, by omega⟩
    refine ⟨j, by omega, ?_⟩
    simp only [orLoop]
    rw [if_pos trivial, row_done h b hs2.2 (by omega) he]
theorem pOr_reads : ∀ (n : Nat), ReadsOr (pOr n) n
  | 0 => fun x rest _ h _ => by omega
  | n + 1 => fun x rest hs hl hst => by
    obtain ⟨k, _, e⟩ := or_reads (pOr_reads n) x hs (by omega) rest (stops_ends hst)
    show pOrF (pRow (pAtom (pOr n))) (txt x ++ rest) = _
    rw [e, orLoop_end _ _ _ hst]
theorem pOr_txt {n : Nat} {x : Tr} (hs : small x = true) (hl : (txt x).length < n) : pOr n (txt x) = some (x, []) := by
  have := pOr_reads n x [] hs hl (.inl rfl)
  rwa [List.append_nil] at this
theorem pOr_par {n : Nat} {x : Tr} (hs : small x = true) (hl : (par (txt x)).length < n) : pOr n (par (txt x)) = some (x, []) := by
  obtain ⟨m, rfl⟩ : ∃ m, n = m + 1 := ⟨n - 1, by omega⟩
  have hl2 : (txt x).length < m := by
    simp only [par, List.length_cons, List.length_append, List.length_nil] at hl; omega
  have ha : pAtom (pOr m) (par (txt x)) = some (x, []) := by
    have := atom_par (f := pOr m) (x := x) (rest := []) (pOr_reads m x _ hs hl2 (.inr ⟨[], rfl⟩))
    rwa [List.append_nil] at this
  show pOrF (pRow (pAtom (pOr m))) (par (txt x)) = _
  unfold pOrF pRow
  rw [ha]
  rfl

/-- The term whose text a text is. -/
def readT (C : Int) (s : List UInt8) : Option Tr :=
  if s.length ≤ 60 then (match pOr (s.length + 1) s with
    | some (x, []) => if termOk C (flat x) = true ∧ txt x = s then some x else none
    | _ => none) else none
/-- Marks tell the tree, whether it is a term or not. -/
def unT : List Tr → List Mk → List Tr
  | st, [] => st
  | st, m :: r =>
    if m.1 = 0 then unT (.col m.2.toNat :: st) r
    else if m.1 = 1 then unT (.any :: st) r
    else match st with
      | b :: a :: q => if m.1 = 2 then unT (.thn a b :: q) r else unT (.alt a b :: q) r
      | q => unT q r
theorem unT_flat : ∀ (x : Tr) (st : List Tr) (rest : List Mk), unT st (flat x ++ rest) = unT (x :: st) rest
  | .col c, st, rest => by
    simp only [flat, List.cons_append, List.nil_append, unT]
    rw [if_pos trivial, Int.toNat_natCast]
  | .any, st, rest => by
    simp only [flat, List.cons_append, List.nil_append, unT]
    rw [if_neg (by simp), if_pos trivial]
  | .thn a b, st, rest => by
    simp only [flat, List.append_assoc]
    rw [unT_flat a, unT_flat b]
    simp only [List.cons_append, List.nil_append, unT]
    rw [if_neg (by simp), if_neg (by simp), if_pos trivial]
  | .alt a b, st, rest => by
    simp only [flat, List.append_assoc]
    rw [unT_flat a, unT_flat b]
    simp only [List.cons_append, List.nil_append, unT]
    rw [if_neg (by simp), if_neg (by simp), if_neg (by simp)]
theorem flat_inj {x y : Tr} (h : flat x = flat y) : x = y := by
  have h1 := unT_flat x [] []
  have h2 := unT_flat y [] []
  rw [h] at h1
  have := h1.symm.trans h2
  simp only [unT] at this
  injection this
theorem termOk_flat {C : Int} {x : Tr} (h : termOk C (flat x) = true) : Is C (flat x) x := by
  obtain ⟨_, _, _, y, hy⟩ := termOk_yes h
  have := flat_inj hy.2
  subst this
  exact hy
theorem readT_yes {C : Int} {s : List UInt8} {x : Tr} (h : readT C s = some x) : s.length ≤ 60 ∧ termOk C (flat x) = true ∧ Is C (flat x) x ∧ txt x = s := by
  unfold readT at h
  by_cases h1 : s.length ≤ 60
  · rw [if_pos h1] at h
    split at h
    · split at h
      · rename_i hh
        injection h with h
        subst h
        exact ⟨h1, hh.1, termOk_flat hh.1, hh.2⟩
      · cases h
    · cases h
  · rw [if_neg h1] at h; cases h
theorem txt_60 {C : Int} {x : Tr} (h : termOk C (flat x) = true) : (txt x).length ≤ 36 := by
  have h1 := (termOk_yes h).2.2.1
  have h2 := txt_len x
  omega
theorem termOk_small {C : Int} {x : Tr} (h : termOk C (flat x) = true) : small x = true := good_small (termOk_yes h).2.1 x (termOk_flat h).1
theorem readT_mk {C : Int} {x : Tr} (h : termOk C (flat x) = true) : readT C (txt x) = some x := by
  unfold readT
  have := txt_60 h
  rw [if_pos (by omega), pOr_txt (termOk_small h) (Nat.lt_succ_self _)]
  exact if_pos ⟨h, rfl⟩
theorem readT_par {C : Int} {x : Tr} (h : termOk C (flat x) = true) : readT C (par (txt x)) = none := by
  unfold readT
  split
  · rw [pOr_par (termOk_small h) (Nat.lt_succ_self _)]
    refine if_neg fun hh => ?_
    have := congrArg List.length hh.2
    simp only [par, List.length_cons, List.length_append, List.length_nil] at this
    omega
  · rfl
theorem readT_out {C : Int} {s : List UInt8} (h : ∀ x, ¬(termOk C (flat x) = true ∧ txt x = s)) : readT C s = none := by
  cases hr : readT C s with
  | none => rfl
  | some x => exact absurd ⟨(readT_yes hr).2.1, (readT_yes hr).2.2.2⟩ (h x)
def txtT (C : Int) (ts : List Mk) : List UInt8 := match treeOf C ts with
  | some x => txt x
  | none => []
theorem txtT_in {C : Int} {ts : List Mk} {x : Tr} (h : termOk C ts = true) (hx : Is C ts x) : txtT C ts = txt x := by unfold txtT; rw [treeOf_in h hx]
theorem txtT_out {C : Int} {ts : List Mk} (h : termOk C ts = false) : txtT C ts = [] := by unfold txtT; rw [treeOf_out h]
def readL (C : Int) (s : List UInt8) : List Mk := match readT C s with
  | some x => flat x
  | none => []
end Go.Proofs.Ytffllkmaifjpfab

namespace Go.Proofs.Ytffllkmaifjpfab
open Go.RowKit
set_option linter.unusedVariables false

theorem nsum_mono {n : Nat} {f g : Nat → Int} (h : ∀ k, k < n → f k ≤ g k) : nsum n f ≤ nsum n g := by
  induction n with
  | zero => exact Int.le_refl _
  | succ n ih =>
    simp only [nsum]
    have h1 := ih (fun k hk => h k (by omega))
    have h2 := h n (by omega)
    omega
theorem wsum_mono {C m : Nat} {g h : List Int → Int} (e : ∀ ws : List Int, g ws ≤ h ws) : wsum C m g ≤ wsum C m h := by
  induction m generalizing g h with
  | zero => exact e []
  | succ m ih => exact nsum_mono fun k _ => ih fun ws => e _
theorem wsum_nonneg {C m : Nat} {g : List Int → Int} (e : ∀ ws : List Int, 0 ≤ g ws) : 0 ≤ wsum C m g := by
  have := wsum_mono (C := C) (m := m) e
  rwa [wsum_zero] at this
theorem wsum_snoc (C : Nat) : ∀ (m : Nat) (g : List Int → Int), wsum C (m + 1) g = nsum C (fun c => wsum C m (fun ws => g (ws ++ [(c : Int)])))
  | 0, g => rfl
  | m + 1, g => by
    rw [show wsum C (m + 1 + 1) g = nsum C (fun c => wsum C (m + 1) (fun ws => g ((c : Int) :: ws))) from rfl]
    rw [nsum_congr (fun c _ => wsum_snoc C m (fun ws => g ((c : Int) :: ws))), nsum_swap]
    rfl
theorem wsum_reverse (C : Nat) : ∀ (m : Nat) (g : List Int → Int), wsum C m (fun ws => g ws.reverse) = wsum C m g
  | 0, g => rfl
  | m + 1, g => by
    rw [wsum_snoc C m g]
    show nsum C (fun c => wsum C m (fun ws => g ((c : Int) :: ws).reverse)) = _
    refine nsum_congr fun c _ => ?_
    rw [← wsum_reverse C m (fun us => g (us ++ [(c : Int)]))]
    simp only [List.reverse_cons]

/-- The ways of all words that fit a term. -/
def fitW (x : Tr) (rs : List (List Int)) (zs : List Int) (ws : List Int) : Int := if fitsT x ws = true then rways rs zs ws else 0
def termN (C : Nat) (x : Tr) (rs : List (List Int)) (zs : List Int) : Int := wsum C (ln x) (fitW x rs zs)
def termW (zs : List Int) (rs : List (List Int)) (ts : List Mk) : Int :=
  if begun zs rs then (match treeOf (zs.length : Int) ts with
    | some x => termN zs.length x rs zs
    | none => -1) else -1
theorem fitW_bounds (x : Tr) (rs : List (List Int)) (zs ws : List Int) : 0 ≤ fitW x rs zs ws ∧ fitW x rs zs ws ≤ rways rs zs ws := by
  have := rways_nonneg rs zs ws
  unfold fitW
  split <;> omega
theorem termN_le {C : Nat} {rs : List (List Int)} (h : Rule C rs) (x : Tr) {zs : List Int} (hl : zs.length = C) : 0 ≤ termN C x rs zs ∧ termN C x rs zs ≤ rall rs (ln x) zs := by
  unfold termN
  rw [← wsum_rways h (ln x) zs hl]
  exact ⟨wsum_nonneg fun ws => (fitW_bounds x rs zs ws).1, wsum_mono fun ws => (fitW_bounds x rs zs ws).2⟩
theorem termN_digs {C : Nat} (hC : 0 < C) (x : Tr) (rs : List (List Int)) (zs : List Int) : nsum (C ^ ln x) (fun q => fitW x rs zs (digs C (ln x) q)) = termN C x rs zs := nsum_digs hC (ln x) _
theorem termN_back {C : Nat} {c : Int} {s : Int} {x : Tr} {zs : List Int} (hg : good c x = true) (hl : zs.length = C) : termN C (back x) (sameR C s) zs = termN C x (sameR C s) zs := by
  unfold termN
  rw [back_ln, ← wsum_reverse C (ln x) (fitW (back x) (sameR C s) zs)]
  refine wsum_congr fun ws _ hw => ?_
  unfold fitW
  rw [fits_back x ws hg, rways_same hl hw, rways_same hl (fun y hy => hw y (by simpa using hy)), cntL_reverse]
/-- A row of any draws; and one with a last draw of one colour. -/
def anyT : Nat → Tr
  | 0 => .any
  | m + 1 => .thn (anyT m) .any
def lastT (c : Nat) : Nat → Tr
  | 0 => .col c
  | m + 1 => .thn (anyT m) (.col c)
theorem anyT_ln (m : Nat) : ln (anyT m) = m + 1 := by
  induction m with
  | zero => rfl
  | succ m ih => simp only [anyT, ln, ih]
theorem lastT_ln (c m : Nat) : ln (lastT c m) = m + 1 := by
  cases m with
  | zero => rfl
  | succ m => simp only [lastT, ln, anyT_ln]
theorem anyT_good (C : Int) (m : Nat) (h : m ≤ 5) : good C (anyT m) = true := by
  induction m with
  | zero => rfl
  | succ m ih => simp only [anyT, good, ih (by omega), anyT_ln, ln, Bool.true_and, Bool.and_true]; exact decide_eq_true (by omega)
theorem lastT_good (C : Int) (c m : Nat) (h : m ≤ 5) (hc : (c : Int) < C) : good C (lastT c m) = true := by
  cases m with
  | zero => exact decide_eq_true hc
  | succ m => simp only [lastT, good, anyT_good C m (by omega), anyT_ln, ln, Bool.true_and]; simp only [Bool.and_eq_true]; exact ⟨decide_eq_true hc, decide_eq_true (by omega)⟩
theorem anyT_flat (m : Nat) : flat (anyT (m + 1)) = flat (anyT m) ++ [(1, 0), (2, 0)] := by simp [anyT, flat]
theorem lastT_flat (c m : Nat) : flat (lastT c (m + 1)) = flat (anyT m) ++ [(0, (c : Int)), (2, 0)] := by simp [lastT, flat]
theorem anyT_size (m : Nat) : (flat (anyT m)).length = 2 * m + 1 := by
  induction m with
  | zero => rfl
  | succ m ih => rw [anyT_flat, List.length_append, ih]; simp; omega
theorem lastT_size (c m : Nat) : (flat (lastT c m)).length = 2 * m + 1 := by
  cases m with
  | zero => rfl
  | succ m => rw [lastT_flat, List.length_append, anyT_size]; simp; omega
theorem anyT_fits (m : Nat) (ws : List Int) : fitsT (anyT m) ws = decide (ws.length = m + 1) := by
  induction m generalizing ws with
  | zero => rfl
  | succ m ih =>
    simp only [anyT, fitsT, anyT_ln, ih, List.length_take, List.length_drop]
    by_cases h : ws.length = m + 1 + 1
    · rw [decide_eq_true (show ws.length = m + 1 + 1 from h), decide_eq_true (by omega), decide_eq_true (by omega), decide_eq_true (by omega)]; rfl
    · rw [decide_eq_false (show ¬ ws.length = m + 1 + 1 from h)]
      rcases Nat.lt_or_ge ws.length (m + 1) with h1 | h1
      · rw [decide_eq_false (by omega)]; rfl
      · rw [decide_eq_false (show ¬ ws.length - (m + 1) = 1 by omega), Bool.and_false]
theorem lastT_fits (c m : Nat) (ws : List Int) (y : Int) (h : ws.length = m) : fitsT (lastT c m) (ws ++ [y]) = decide (y = (c : Int)) := by
  cases m with
  | zero =>
    have := List.eq_nil_of_length_eq_zero h
    subst this
    simp [lastT, fitsT]
  | succ m =>
    simp only [lastT, fitsT, anyT_ln, anyT_fits]
    rw [List.take_left' h, List.drop_left' h, decide_eq_true (by simp; omega), decide_eq_true h]
    simp
theorem termN_any {C : Nat} {rs : List (List Int)} (h : Rule C rs) (m : Nat) {zs : List Int} (hl : zs.length = C) : termN C (anyT m) rs zs = rall rs (m + 1) zs := by
  unfold termN
  rw [← wsum_rways h (m + 1) zs hl, anyT_ln]
  refine wsum_congr fun ws hw _ => ?_
  unfold fitW
  rw [anyT_fits, decide_eq_true hw, if_pos rfl]
theorem termN_last {C : Nat} {rs : List (List Int)} (h : Rule C rs) (m : Nat) {zs : List Int} (hl : zs.length = C) : nsum C (fun c => termN C (lastT c m) rs zs) = rall rs (m + 1) zs := by
  rw [← wsum_rways h (m + 1) zs hl, wsum_snoc]
  have e : ∀ c, c < C → termN C (lastT c m) rs zs = wsum C m (fun ws => rways rs zs (ws ++ [(c : Int)])) := fun c hc => by
    unfold termN
    rw [lastT_ln, wsum_snoc]
    have e2 : nsum C (fun d => wsum C m (fun ws => fitW (lastT c m) rs zs (ws ++ [(d : Int)]))) = nsum C (fun d => if d = c then wsum C m (fun ws => rways rs zs (ws ++ [(c : Int)])) else 0) := by
      refine nsum_congr fun d _ => ?_
      by_cases hd : d = c
      · subst hd
        rw [if_pos rfl]
        refine wsum_congr fun ws hw _ => ?_
        unfold fitW
        rw [lastT_fits d m ws _ hw, decide_eq_true rfl, if_pos rfl]
      · rw [if_neg hd, ← wsum_zero C m]
        refine wsum_congr fun ws hw _ => ?_
        unfold fitW
        rw [lastT_fits c m ws _ hw, decide_eq_false (by omega), if_neg (by decide)]
    rw [e2, nsum_only hc]
  exact nsum_congr e
theorem termW_in {zs : List Int} {rs : List (List Int)} {ts : List Mk} {x : Tr} (hb : begun zs rs = true) (h : termOk (zs.length : Int) ts = true) (hx : Is (zs.length : Int) ts x) : termW zs rs ts = termN zs.length x rs zs := by
  unfold termW
  rw [if_pos hb, treeOf_in h hx]
theorem termW_out {zs : List Int} {rs : List (List Int)} {ts : List Mk} (h : begun zs rs = false ∨ termOk (zs.length : Int) ts = false) : termW zs rs ts = -1 := by
  unfold termW
  rcases h with h | h
  · rw [h]; rfl
  · rw [treeOf_out h]
    split <;> rfl
end Go.Proofs.Ytffllkmaifjpfab
