/-
  Plain functions and lemmas of chapter 14: journals. No program is named here.
-/
import Derived.Test.YtpnjihpdipoajabDoorPlainAK
namespace Go.Proofs.YtpnjihpdipoajabDoor
open Go.RowKit
set_option linter.unusedVariables false

/-- The lines of some deeds, one after the other. -/
def linesT : List Ded → Bs
  | [] => []
  | d :: r => deedT d ++ 10 :: linesT r
def journT (ds : List Ded) : Bs := if ds.all deedB then linesT ds else []
def journTo (ds : List Ded) (k : Nat) : Bs := linesT (ds.take k)
theorem linesT_append (a b : List Ded) : linesT (a ++ b) = linesT a ++ linesT b := by
  induction a with
  | nil => rfl
  | cons d r ih => simp only [List.cons_append, linesT, ih, List.append_assoc]
theorem journTo_step {ds : List Ded} {k : Nat} {x : Ded} (h : ds[k]? = some x) : journTo ds (k + 1) = journTo ds k ++ (deedT x ++ [10]) := by
  unfold journTo
  rw [List.take_add_one, h, linesT_append]; rfl
theorem linesT_len (ds : List Ded) : (linesT ds).length ≤ 12 * ds.length := by
  induction ds with
  | nil => exact Nat.le_refl _
  | cons d r ih =>
    have := deedT_len d
    simp only [linesT, List.length_append, List.length_cons]
    omega
theorem journTo_len (ds : List Ded) (k : Nat) : (journTo ds k).length ≤ 12 * k := by
  have := linesT_len (ds.take k)
  unfold journTo
  rw [List.length_take] at this
  omega
theorem journT_bad {ds : List Ded} {k : Nat} {x : Ded} (h : ds[k]? = some x) (hd : deedB x = false) : journT ds = [] := by
  unfold journT
  rw [if_neg ?_]
  intro hh
  have := List.all_eq_true.1 hh x (List.mem_of_getElem? h)
  rw [hd] at this; cases this
theorem journT_end {ds : List Ded} (h : ∀ (k : Nat) x, ds[k]? = some x → deedB x = true) : journT ds = linesT ds := by
  unfold journT
  rw [if_pos (List.all_eq_true.2 fun x hx => by
    obtain ⟨k, hk, rfl⟩ := List.getElem_of_mem hx
    exact h k _ (List.getElem?_eq_getElem hk))]
/-- The deeds of some lines, as far as each is one, and how many bytes these have. -/
def jrnL : List Bs → List Ded × Nat
  | [] => ([], 0)
  | l :: r => match readD l with
    | none => ([], 0)
    | some d => (d :: (jrnL r).1, l.length + 1 + (jrnL r).2)
def readJ (s : Bs) : List Ded × Nat := jrnL (cutT 10 s).dropLast
end Go.Proofs.YtpnjihpdipoajabDoor
