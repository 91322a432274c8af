/-
  Contracts of the laws' helpers samePlace, sameDesk and noDesk (written by wip/gen_f2.py).
-/
import Derived.Test.YtoafpokcbbncfaaZpx
import Derived.Test.YtoafpokcbbncfaaZdraw
import Derived.Deep.RegionHeld3
import Derived.Deep.RegionLaw
namespace Go.Proofs.Ytoafpokcbbncfaa
open Go.RowKit
set_option linter.unusedVariables false

/-- Whether two desks read alike. -/
def sameAt (ps qs : List Plc) (j : Nat) : Bool := match ps[j]?, qs[j]? with
  | some p, some q => sameP p q
  | _, _ => true
def samePs (ps qs : List Plc) : Bool := decide (ps.length = qs.length) && (List.range ps.length).all (sameAt ps qs)
def sameK (d e : Dsk) : Bool := sameP d.now e.now && samePs d.past e.past
theorem samePs_len {ps qs : List Plc} (h : ps.length ≠ qs.length) : samePs ps qs = false := by unfold samePs; rw [decide_eq_false h]; rfl
theorem samePs_bad {ps qs : List Plc} {j : Nat} {p q : Plc} (h1 : ps[j]? = some p) (h2 : qs[j]? = some q) (h : sameP p q = false) : samePs ps qs = false := by
  unfold samePs
  rw [Bool.and_eq_false_iff]
  refine .inr (List.all_eq_false.2 ⟨j, List.mem_range.2 (List.getElem?_eq_some_iff.1 h1).1, ?_⟩)
  unfold sameAt
  rw [h1, h2]
  simp [h]
theorem samePs_good {ps qs : List Plc} (hl : ps.length = qs.length) (h : ∀ (j : Nat) p q, ps[j]? = some p → qs[j]? = some q → sameP p q = true) : samePs ps qs = true := by
  unfold samePs
  rw [decide_eq_true hl, Bool.true_and, List.all_eq_true]
  intro j _
  unfold sameAt
  cases h1 : ps[j]? with
  | none => rfl
  | some p =>
    cases h2 : qs[j]? with
    | none => rfl
    | some q => exact h j p q h1 h2
theorem samePs_refl (ps : List Plc) : samePs ps ps = true := samePs_good rfl fun j p q h1 h2 => by
  rw [h1] at h2
  injection h2 with h2
  rw [h2, sameP_refl]
theorem sameK_refl (d : Dsk) : sameK d d = true := by unfold sameK; rw [sameP_refl, samePs_refl]; rfl

end Go.Proofs.Ytoafpokcbbncfaa
