/-
  Plain functions and lemmas of chapter 14: desks and deeds done at them. No program is named here.
-/
import Derived.Test.YtkgfbmlhplclfaaGreatDoorPlainAJ
namespace Go.Proofs.YtkgfbmlhplclfaaGreatDoor
open Go.RowKit
set_option linter.unusedVariables false

structure Dsk where
  now : Plc
  past : List Plc
def noDsk : Dsk := ⟨noPlc, []⟩
def deskOk (d : Dsk) : Bool := d.past.all placeOk && placeOk d.now && decide (d.past.length ≤ 8)
def madeP (p : Plc) (a : Ded) : Plc :=
  if a.k = 0 ∧ p.word = [] then ⟨putL p.start a.a a.b, p.step, []⟩
  else if a.k = 1 ∧ a.b = 0 ∧ p.word = [] then ⟨p.start, a.a, p.word⟩
  else if a.k = 2 ∧ a.b = 0 then ⟨p.start, p.step, p.word ++ [a.a]⟩
  else if a.k = 3 ∧ a.a = 0 ∧ a.b = 0 then ⟨p.start, p.step, []⟩
  else noPlc
def pushP (ps : List Plc) (p : Plc) : List Plc := if 8 < (ps ++ [p]).length then (ps ++ [p]).drop 1 else ps ++ [p]
def backB (d : Dsk) (a : Ded) : Bool := decide (a.k = 4 ∧ a.a = 0 ∧ a.b = 0) && !d.past.isEmpty
def newB (d : Dsk) (a : Ded) : Bool := placeOk (madeP d.now a) && decide (placeT (madeP d.now a) ≠ placeT d.now)
def deskD (d : Dsk) (a : Ded) : Dsk :=
  if backB d a then ⟨d.past.getLast?.getD noPlc, d.past.dropLast⟩
  else if newB d a then ⟨madeP d.now a, pushP d.past d.now⟩ else d
def doneB (d : Dsk) (a : Ded) : Bool := backB d a || newB d a
def deskX (d : Dsk) (a : Ded) : Dsk := if deskOk d then deskD d a else noDsk
def deskB (d : Dsk) (a : Ded) : Bool := deskOk d && doneB d a
def runD : Dsk → List Ded → Dsk
  | d, [] => d
  | d, a :: r => runD (if deskB d a then deskX d a else d) r
def runN : Dsk → List Ded → Nat
  | d, [] => 0
  | d, a :: r => (if deskB d a then 1 else 0) + runN (if deskB d a then deskX d a else d) r
def runOk (d : Dsk) (l : List Ded) : Bool := deskOk d && decide (l.length ≤ 40)
def deskR (d : Dsk) (l : List Ded) : Dsk := if runOk d l then runD d l else noDsk
def deskN (d : Dsk) (l : List Ded) : Int := if runOk d l then (runN d l : Int) else 0

theorem noPlc_no : placeOk noPlc = false := by decide
theorem noDsk_no : deskOk noDsk = false := by unfold deskOk noDsk; rw [noPlc_no]; rfl
theorem deskOk_yes {d : Dsk} (h : deskOk d = true) : (∀ p ∈ d.past, placeOk p = true) ∧ placeOk d.now = true ∧ d.past.length ≤ 8 := by
  unfold deskOk at h
  simp only [Bool.and_eq_true, List.all_eq_true, decide_eq_true_eq] at h
  exact ⟨h.1.1, h.1.2, h.2⟩
theorem deskOk_mk {d : Dsk} (h1 : ∀ p ∈ d.past, placeOk p = true) (h2 : placeOk d.now = true) (h3 : d.past.length ≤ 8) : deskOk d = true := by
  unfold deskOk
  simp only [Bool.and_eq_true, List.all_eq_true, decide_eq_true_eq]
  exact ⟨⟨h1, h2⟩, h3⟩
theorem pushP_len {ps : List Plc} {p : Plc} (h : ps.length ≤ 8) : (pushP ps p).length ≤ 8 := by
  unfold pushP
  split
  · simp; omega
  · omega
theorem pushP_mem {ps : List Plc} {p q : Plc} (h : q ∈ pushP ps p) : q ∈ ps ∨ q = p := by
  unfold pushP at h
  have : q ∈ ps ++ [p] := by
    split at h
    · exact List.mem_of_mem_drop h
    · exact h
  simpa using this
theorem deskD_ok {d : Dsk} {a : Ded} (h : deskOk d = true) : deskOk (deskD d a) = true := by
  obtain ⟨h1, h2, h3⟩ := deskOk_yes h
  unfold deskD
  split
  · next hb =>
    unfold backB at hb
    rw [Bool.and_eq_true] at hb
    have hne : d.past ≠ [] := by
      intro e
      rw [e] at hb
      exact absurd hb.2 (by decide)
    refine deskOk_mk (fun p hp => h1 p (List.dropLast_subset _ hp)) ?_ (by show d.past.dropLast.length ≤ 8; rw [List.length_dropLast]; omega)
    show placeOk (d.past.getLast?.getD noPlc) = true
    rw [List.getLast?_eq_some_getLast hne]
    exact h1 _ (List.getLast_mem hne)
  · split
    · next hb =>
      unfold newB at hb
      rw [Bool.and_eq_true] at hb
      refine deskOk_mk (fun p hp => ?_) hb.1 (pushP_len h3)
      rcases pushP_mem hp with e | e
      · exact h1 p e
      · rw [e]; exact h2
    · exact h
theorem deskX_ok {d : Dsk} {a : Ded} (h : deskOk d = true) : deskOk (deskX d a) = true := by
  unfold deskX; rw [if_pos h]; exact deskD_ok h
theorem deskX_not {d : Dsk} {a : Ded} (h : deskOk d = true) (hb : deskB d a = false) : deskX d a = d := by
  unfold deskB doneB at hb
  rw [h, Bool.true_and, Bool.or_eq_false_iff] at hb
  unfold deskX deskD
  rw [if_pos h, hb.1, hb.2]
  rfl
theorem deskX_no {d : Dsk} {a : Ded} (h : deskOk d = false) : deskX d a = noDsk := by unfold deskX; rw [h]; rfl
theorem deskB_no {d : Dsk} {a : Ded} (h : deskOk d = false) : deskB d a = false := by unfold deskB; rw [h]; rfl
theorem stepD_eq {d : Dsk} {a : Ded} (h : deskOk d = true) : (if deskB d a then deskX d a else d) = deskX d a := by
  cases hb : deskB d a with
  | true => rfl
  | false => rw [deskX_not h hb]; rfl
theorem stepD_ok {d : Dsk} {a : Ded} (h : deskOk d = true) : deskOk (if deskB d a then deskX d a else d) = true := by
  rw [stepD_eq h]; exact deskX_ok h
theorem runD_ok {d : Dsk} (h : deskOk d = true) (l : List Ded) : deskOk (runD d l) = true := by
  induction l generalizing d with
  | nil => exact h
  | cons a r ih => exact ih (stepD_ok h)
theorem runD_append (d : Dsk) (l m : List Ded) : runD d (l ++ m) = runD (runD d l) m := by
  induction l generalizing d with
  | nil => rfl
  | cons a r ih => exact ih _
theorem runN_append (d : Dsk) (l m : List Ded) : runN d (l ++ m) = runN d l + runN (runD d l) m := by
  induction l generalizing d with
  | nil => simp [runN, runD]
  | cons a r ih =>
    show _ + runN _ (r ++ m) = _ + runN _ r + runN _ m
    rw [ih, Nat.add_assoc]
    rfl
theorem runN_le (d : Dsk) (l : List Ded) : runN d l ≤ l.length := by
  induction l generalizing d with
  | nil => exact Nat.le_refl _
  | cons a r ih =>
    have := ih (if deskB d a then deskX d a else d)
    show _ + runN (if deskB d a then deskX d a else d) r ≤ r.length + 1
    have h1 : (if deskB d a then 1 else 0) ≤ 1 := by split <;> omega
    omega
theorem runD_snoc {d : Dsk} {l : List Ded} {a : Ded} : runD d (l ++ [a]) = if deskB (runD d l) a then deskX (runD d l) a else runD d l := by
  rw [runD_append]; rfl
theorem runD_take {d : Dsk} {l : List Ded} {k : Nat} {a : Ded} (h : l[k]? = some a) : runD d (l.take (k + 1)) = if deskB (runD d (l.take k)) a then deskX (runD d (l.take k)) a else runD d (l.take k) := by
  rw [List.take_add_one, h]
  exact runD_snoc
theorem runN_take {d : Dsk} {l : List Ded} {k : Nat} {a : Ded} (h : l[k]? = some a) : runN d (l.take (k + 1)) = runN d (l.take k) + if deskB (runD d (l.take k)) a then 1 else 0 := by
  rw [List.take_add_one, h, runN_append]
  simp [runN]
/-- What a deed other than the way back does can be undone. -/
theorem deskX_back {d : Dsk} {a : Ded} (h : deskOk d = true) (hb : deskB d a = true) (hk : a.k ≠ 4) (h8 : d.past.length < 8) : deskB (deskX d a) ⟨4, 0, 0⟩ = true ∧ deskX (deskX d a) ⟨4, 0, 0⟩ = d := by
  have hx := deskX_ok (a := a) h
  have hnb : backB d a = false := by
    unfold backB
    rw [decide_eq_false (by omega)]
    rfl
  have hnew : newB d a = true := by
    unfold deskB doneB at hb
    rw [h, hnb] at hb
    simpa using hb
  have he : deskX d a = ⟨madeP d.now a, d.past ++ [d.now]⟩ := by
    unfold deskX deskD
    rw [if_pos h, hnb, hnew]
    show Dsk.mk _ (pushP _ _) = _
    unfold pushP
    rw [if_neg (by simp; omega)]
  have hbk : backB (deskX d a) ⟨4, 0, 0⟩ = true := by
    rw [he]
    unfold backB
    simp
  constructor
  · unfold deskB doneB
    rw [hx, hbk]; rfl
  · unfold deskX
    rw [if_pos (by unfold deskX at hx; exact hx)]
    have hbk2 := hbk
    unfold deskX at hbk2
    unfold deskD
    rw [if_pos (by unfold deskD at hbk2; exact hbk2)]
    have he2 := he
    unfold deskX deskD at he2
    rw [he2]
    simp
end Go.Proofs.YtkgfbmlhplclfaaGreatDoor
