/-
  Plain functions and lemmas of chapter 14: deeds, their texts, journals, and how these are read. No program is named here.
-/
import Derived.Test.YtkgfbmlhplclfaaGreatDoorPlainAI
namespace Go.Proofs.YtkgfbmlhplclfaaGreatDoor
open Go.RowKit
set_option linter.unusedVariables false

structure Ded where
  k : Int
  a : Int
  b : Int
def noDed : Ded := ⟨0, 0, 0⟩
def wPut : Bs := [112, 117, 116]
def wStep : Bs := [115, 116, 101, 112]
def wDraw : Bs := [100, 114, 97, 119]
def wAgain : Bs := [97, 103, 97, 105, 110]
def wBack : Bs := [98, 97, 99, 107]
def numB (a b : Int) : Bool := decide ((-99 ≤ a ∧ a ≤ 99) ∧ (-99 ≤ b ∧ b ≤ 99))
def kindB (d : Ded) : Bool := decide (d.k = 0 ∨ (d.k = 1 ∧ d.b = 0) ∨ (d.k = 2 ∧ d.b = 0) ∨ (d.k = 3 ∧ d.a = 0 ∧ d.b = 0) ∨ (d.k = 4 ∧ d.a = 0 ∧ d.b = 0))
def deedB (d : Ded) : Bool := numB d.a d.b && kindB d
def deedW (d : Ded) : List Bs :=
  if d.k = 0 then [wPut, stepT d.a, stepT d.b] else if d.k = 1 then [wStep, stepT d.a] else if d.k = 2 then [wDraw, stepT d.a] else if d.k = 3 then [wAgain] else [wBack]
def deedT (d : Ded) : Bs := if deedB d then joinT 32 (deedW d) else []
def cands (s : Bs) : List Ded := [⟨3, 0, 0⟩, ⟨4, 0, 0⟩] ++ match cutT 32 s with
  | [_, x] => [⟨1, signP x, 0⟩, ⟨2, signP x, 0⟩]
  | [_, x, y] => [⟨0, signP x, signP y⟩]
  | _ => []
def readD (s : Bs) : Option Ded := (cands s).find? (fun d => decide (s ≠ []) && decide (deedT d = s))

theorem deedB_yes {d : Ded} (h : deedB d = true) : (-99 ≤ d.a ∧ d.a ≤ 99) ∧ (-99 ≤ d.b ∧ d.b ≤ 99) ∧ (d.k = 0 ∨ (d.k = 1 ∧ d.b = 0) ∨ (d.k = 2 ∧ d.b = 0) ∨ (d.k = 3 ∧ d.a = 0 ∧ d.b = 0) ∨ (d.k = 4 ∧ d.a = 0 ∧ d.b = 0)) := by
  unfold deedB numB kindB at h
  rw [Bool.and_eq_true] at h
  have h1 := of_decide_eq_true h.1
  exact ⟨h1.1, h1.2, of_decide_eq_true h.2⟩
theorem deedW_free {d : Ded} (h : deedB d = true) : ∀ p ∈ deedW d, (32 : UInt8) ∉ p := by
  obtain ⟨ha, hb, _⟩ := deedB_yes h
  have fa := step_free ha.1 ha.2
  have fb := step_free hb.1 hb.2
  unfold deedW
  intro p hp
  split at hp
  · simp only [List.mem_cons, List.not_mem_nil, or_false] at hp
    rcases hp with rfl | rfl | rfl
    · decide
    · exact fa
    · exact fb
  · split at hp
    · simp only [List.mem_cons, List.not_mem_nil, or_false] at hp
      rcases hp with rfl | rfl
      · decide
      · exact fa
    · split at hp
      · simp only [List.mem_cons, List.not_mem_nil, or_false] at hp
        rcases hp with rfl | rfl
        · decide
        · exact fa
      · split at hp
        · simp only [List.mem_cons, List.not_mem_nil, or_false] at hp
          subst hp; decide
        · simp only [List.mem_cons, List.not_mem_nil, or_false] at hp
          subst hp; decide
theorem deedW_ne (d : Ded) : deedW d ≠ [] := by
  unfold deedW
  repeat (first | split | simp)
theorem deedT_ok {d : Ded} (h : deedB d = true) : deedT d = joinT 32 (deedW d) := by unfold deedT; rw [if_pos h]
theorem deedT_no {d : Ded} (h : deedB d = false) : deedT d = [] := by unfold deedT; rw [h]; rfl
theorem deed_cut {d : Ded} (h : deedB d = true) : cutT 32 (deedT d) = deedW d := by
  rw [deedT_ok h]
  exact cutT_join _ (deedW_ne d) (deedW_free h)
theorem deedT_ne {d : Ded} : deedT d ≠ [] ↔ deedB d = true := by
  constructor
  · intro h
    cases hd : deedB d with
    | true => rfl
    | false => exact absurd (deedT_no hd) h
  · intro h he
    have := deed_cut h
    rw [he] at this
    obtain ⟨ha, hb, hk⟩ := deedB_yes h
    unfold deedW at this
    rcases hk with hk | hk | hk | hk | hk
    · rw [if_pos hk] at this; simp [cutT] at this
    · rw [if_neg (by omega), if_pos hk.1] at this; simp [cutT] at this
    · rw [if_neg (by omega), if_neg (by omega), if_pos hk.1] at this; simp [cutT] at this
    · rw [if_neg (by omega), if_neg (by omega), if_neg (by omega), if_pos hk.1] at this; simp [cutT, wAgain] at this
    · rw [if_neg (by omega), if_neg (by omega), if_neg (by omega), if_neg (by omega)] at this; simp [cutT, wBack] at this
theorem deed_cands {d : Ded} (h : deedB d = true) : d ∈ cands (deedT d) := by
  unfold cands
  rw [deed_cut h]
  obtain ⟨ha, hb, hk⟩ := deedB_yes h
  have sa := (step_at ha.1 ha.2).1
  have sb := (step_at hb.1 hb.2).1
  obtain ⟨k, a, b⟩ := d
  unfold deedW
  rcases hk with hk | hk | hk | hk | hk
  · simp only at hk sa sb ⊢
    rw [if_pos hk]
    simp [sa, sb, hk]
  · simp only at hk sa sb ⊢
    rw [if_neg (by omega), if_pos hk.1]
    simp [sa, hk]
  · simp only at hk sa sb ⊢
    rw [if_neg (by omega), if_neg (by omega), if_pos hk.1]
    simp [sa, hk]
  · simp only at hk sa sb ⊢
    rw [if_neg (by omega), if_neg (by omega), if_neg (by omega), if_pos hk.1]
    simp [hk]
  · simp only at hk sa sb ⊢
    rw [if_neg (by omega), if_neg (by omega), if_neg (by omega), if_neg (by omega)]
    simp [hk]
theorem stepT_inj {x y : Int} (h1 : -99 ≤ x ∧ x ≤ 99) (h2 : -99 ≤ y ∧ y ≤ 99) (h : stepT x = stepT y) : x = y := by
  have a := (step_at h1.1 h1.2).1
  rw [h, (step_at h2.1 h2.2).1] at a
  exact a.symm
theorem deedT_inj {d e : Ded} (hd : deedB d = true) (h : deedT d = deedT e) : d = e := by
  have he : deedB e = true := deedT_ne.1 (h ▸ deedT_ne.2 hd)
  have hw : deedW d = deedW e := by rw [← deed_cut hd, ← deed_cut he, h]
  obtain ⟨ha, hb, hk⟩ := deedB_yes hd
  obtain ⟨ha', hb', hk'⟩ := deedB_yes he
  obtain ⟨k, a, b⟩ := d
  obtain ⟨k', a', b'⟩ := e
  unfold deedW at hw
  simp only at ha hb hk ha' hb' hk' hw
  have key : k = k' ∧ (k = 0 → stepT a = stepT a' ∧ stepT b = stepT b') ∧ (k = 1 → stepT a = stepT a') ∧ (k = 2 → stepT a = stepT a') := by
    have k5 : k = 0 ∨ k = 1 ∨ k = 2 ∨ k = 3 ∨ k = 4 := by omega
    have k5' : k' = 0 ∨ k' = 1 ∨ k' = 2 ∨ k' = 3 ∨ k' = 4 := by omega
    rcases k5 with rfl | rfl | rfl | rfl | rfl <;> rcases k5' with rfl | rfl | rfl | rfl | rfl <;> simp [wPut, wStep, wDraw, wAgain, wBack] at hw ⊢ <;> exact hw
  obtain ⟨rfl, q0, q1, q2⟩ := key
  rcases hk with h0 | h0 | h0 | h0 | h0
  · obtain ⟨x, y⟩ := q0 h0
    rw [stepT_inj ha ha' x, stepT_inj hb hb' y]
  · have hb2 : b' = 0 := by omega
    rw [stepT_inj ha ha' (q1 h0.1), hb2, h0.2]
  · have hb2 : b' = 0 := by omega
    rw [stepT_inj ha ha' (q2 h0.1), hb2, h0.2]
  · have hb2 : b' = 0 ∧ a' = 0 := by omega
    rw [hb2.1, hb2.2, h0.2.1, h0.2.2]
  · have hb2 : b' = 0 ∧ a' = 0 := by omega
    rw [hb2.1, hb2.2, h0.2.1, h0.2.2]
theorem readD_iff {s : Bs} {d : Ded} : readD s = some d ↔ deedT d = s ∧ s ≠ [] := by
  constructor
  · intro h
    have := List.find?_some h
    simp only [Bool.and_eq_true, decide_eq_true_eq] at this
    exact ⟨this.2, this.1⟩
  · rintro ⟨h, hs⟩
    subst h
    have hd := deedT_ne.1 hs
    cases hr : readD (deedT d) with
    | none =>
      have := List.find?_eq_none.1 hr d (deed_cands hd)
      simp [hs] at this
    | some e =>
      have := List.find?_some hr
      simp only [Bool.and_eq_true, decide_eq_true_eq] at this
      rw [deedT_inj hd this.2.symm]
theorem readD_none {s : Bs} : readD s = none ↔ ∀ d, deedT d = s → s = [] := by
  constructor
  · intro h d hd
    cases hs : decide (s = []) with
    | true => exact of_decide_eq_true hs
    | false =>
      have := readD_iff.2 ⟨hd, of_decide_eq_false hs⟩
      rw [h] at this; cases this
  · intro h
    cases hr : readD s with
    | none => rfl
    | some d =>
      obtain ⟨h1, h2⟩ := readD_iff.1 hr
      exact absurd (h d h1) h2
theorem deedT_back {d : Ded} (h : deedB d = true) : readD (deedT d) = some d := readD_iff.2 ⟨rfl, deedT_ne.2 h⟩
theorem deedT_len (d : Ded) : (deedT d).length ≤ 11 := by
  unfold deedT
  split
  · next h =>
    obtain ⟨ha, hb, hk⟩ := deedB_yes h
    have la := (step_at ha.1 ha.2).2.2.2
    have lb := (step_at hb.1 hb.2).2.2.2
    unfold deedW
    split
    · simp only [joinT, wPut, List.length_append, List.length_cons, List.length_nil]; omega
    · split
      · simp only [joinT, wStep, List.length_append, List.length_cons, List.length_nil]; omega
      · split
        · simp only [joinT, wDraw, List.length_append, List.length_cons, List.length_nil]; omega
        · split
          · simp [joinT, wAgain]
          · simp [joinT, wBack]
  · simp
theorem deedT_free {d : Ded} (h : deedB d = true) {c : UInt8} (h32 : c ≠ 32) (h45 : c ≠ 45) (hdig : ¬(48 ≤ c ∧ c ≤ 57)) (hlet : c ≤ 90) : c ∉ deedT d := by
  obtain ⟨ha, hb, hk⟩ := deedB_yes h
  have na : c ∉ stepT d.a := fun hm => by
    rcases (step_at ha.1 ha.2).2.1 c hm with e | e
    · exact h45 e
    · exact hdig e
  have nb : c ∉ stepT d.b := fun hm => by
    rcases (step_at hb.1 hb.2).2.1 c hm with e | e
    · exact h45 e
    · exact hdig e
  have hw : ∀ (l : Bs), (∀ x ∈ l, (97 : UInt8) ≤ x) → c ∉ l := fun l hl hm => by
    have h1 := UInt8.le_iff_toNat_le.1 (hl c hm)
    have h2 := UInt8.le_iff_toNat_le.1 hlet
    simp at h1 h2
    omega
  rw [deedT_ok h]
  unfold deedW
  intro hm
  have w1 := hw wPut (by decide)
  have w2 := hw wStep (by decide)
  have w3 := hw wDraw (by decide)
  have w4 := hw wAgain (by decide)
  have w5 := hw wBack (by decide)
  split at hm
  · simp only [joinT, List.mem_append, List.mem_cons] at hm
    rcases hm with hm | hm | hm | hm | hm
    · exact w1 hm
    · exact h32 hm
    · exact na hm
    · exact h32 hm
    · exact nb hm
  · split at hm
    · simp only [joinT, List.mem_append, List.mem_cons] at hm
      rcases hm with hm | hm | hm
      · exact w2 hm
      · exact h32 hm
      · exact na hm
    · split at hm
      · simp only [joinT, List.mem_append, List.mem_cons] at hm
        rcases hm with hm | hm | hm
        · exact w3 hm
        · exact h32 hm
        · exact na hm
      · split at hm
        · exact w4 hm
        · exact w5 hm
theorem deedT_line {d : Ded} : (10 : UInt8) ∉ deedT d := by
  cases hd : deedB d with
  | true => exact deedT_free hd (by decide) (by decide) (by decide) (by decide)
  | false => rw [deedT_no hd]; simp
theorem deedT_last {d : Ded} (h : deedB d = true) : (deedT d).getLast? ≠ some 32 := by
  have hf := deedW_free h
  have hc := deed_cut h
  intro he
  obtain ⟨l, hl⟩ := List.getLast?_eq_some_iff.1 he
  rw [hl] at hc
  have hlast : (deedW d).getLast? = some [] := by
    rw [← hc]
    clear hc he hl
    induction l with
    | nil => rfl
    | cons x l ih =>
      rw [List.cons_append, cutT_cons]
      split
      · rw [List.getLast?_cons, ih]; rfl
      · cases hq : cutT 32 (l ++ [32]) with
        | nil => exact absurd hq (cutT_ne _ _)
        | cons u v =>
          rw [hq] at ih
          cases v with
          | nil =>
            have hj := join_cut 32 (l ++ [32])
            rw [hq] at hj
            have := cut_free 32 (l ++ [32]) u (by rw [hq]; exact List.mem_cons_self)
            simp only [joinT] at hj
            rw [hj] at this
            exact absurd (by simp) this
          | cons u2 v =>
            simp only [List.getLast?_cons_cons] at ih ⊢
            exact ih
  obtain ⟨ha, hb, hk⟩ := deedB_yes h
  have la := (step_at ha.1 ha.2).2.2.1
  have lb := (step_at hb.1 hb.2).2.2.1
  unfold deedW at hlast
  have hnil : ∀ (x : Bs), 1 ≤ x.length → x ≠ [] := fun x hx e => by rw [e] at hx; simp at hx
  rcases hk with h0 | h0 | h0 | h0 | h0
  · rw [if_pos h0] at hlast
    simp at hlast
    exact hnil _ lb hlast
  · rw [if_neg (by omega), if_pos h0.1] at hlast
    simp at hlast
    exact hnil _ la hlast
  · rw [if_neg (by omega), if_neg (by omega), if_pos h0.1] at hlast
    simp at hlast
    exact hnil _ la hlast
  · rw [if_neg (by omega), if_neg (by omega), if_neg (by omega), if_pos h0.1] at hlast
    simp [wAgain] at hlast
  · rw [if_neg (by omega), if_neg (by omega), if_neg (by omega), if_neg (by omega)] at hlast
    simp [wBack] at hlast
theorem readD_space {s : Bs} {d : Ded} (h : readD s = some d) : readD (s ++ [32]) = none := by
  cases hr : readD (s ++ [32]) with
  | none => rfl
  | some e =>
    obtain ⟨h1, h2⟩ := readD_iff.1 hr
    exact absurd (by rw [h1]; simp) (deedT_last (deedT_ne.1 (h1 ▸ h2)))
def readDQ (l : Bs) : Ded := (readD l).getD noDed
def readDB (l : Bs) : Bool := (readD l).isSome
end Go.Proofs.YtkgfbmlhplclfaaGreatDoor
