/-
  Contracts of chapter 4, the specification's side: the recursions l4All and l4Balls; RuleAll, BallSum.
-/
import Derived.Test.YtkgfbmlhplclfaaGreatDoorZrule
import Derived.Test.YtkgfbmlhplclfaaGreatDoorZdraw
import Derived.Deep.RegionWith
namespace Go.Proofs.YtkgfbmlhplclfaaGreatDoor
open Go.RowKit

/-- One term of the sum over all colours. -/
def termF (rs : List (List Int)) (F : List Int → Int) (zs : List Int) (c : Nat) : Int := max (zs[c]?.getD 0) 0 * F (addL zs (rowOf rs c))
theorem termF_pos {rs : List (List Int)} {F : List Int → Int} {zs l : List Int} {c : Nat} {z : Int} (hz : zs[c]? = some z) (hr : rs[c]? = some l) (h : 0 < z) : termF rs F zs c = z * F (addL zs l) := by
  unfold termF rowOf
  rw [hz, hr, Option.getD_some, Option.getD_some, Int.max_eq_left (by omega)]
theorem termF_zero {rs : List (List Int)} {F : List Int → Int} {zs : List Int} {c : Nat} {z : Int} (hz : zs[c]? = some z) (h : ¬ 0 < z) : termF rs F zs c = 0 := by
  unfold termF
  rw [hz, Option.getD_some, show max z 0 = 0 by omega, Int.zero_mul]
theorem rall_term (rs : List (List Int)) (m : Nat) (zs : List Int) : rall rs (m + 1) zs = nsum zs.length (termF rs (rall rs m) zs) := rfl
theorem bsum_term (rs : List (List Int)) (col m : Nat) (zs : List Int) : bsum rs col (m + 1) zs = nsum zs.length (termF rs (bsum rs col m) zs) := rfl
theorem nsum_term {C m : Nat} {rs : List (List Int)} (h : Rule C rs) {zs : List Int} {M P : Int} {F : List Int → Int} (hP : 0 ≤ P) (hl : zs.length = C) (hm : ∀ y ∈ zs, 0 ≤ y ∧ y ≤ M) (hM : M + 3 * ((m + 1 : Nat) : Int) ≤ 28)
    (ih : ∀ us : List Int, us.length = C → (∀ y ∈ us, 0 ≤ y ∧ y ≤ M + 3) → 0 ≤ F us ∧ F us ≤ P) {k : Nat} (hk : k ≤ C) : 0 ≤ nsum k (termF rs F zs) ∧ nsum k (termF rs F zs) ≤ 84 * P := by
  have hs := nsum_le (n := k) (C := C) (B := 28 * P) hk (Int.mul_nonneg (by decide) hP) (fun c hc => way_bound (m := m) (F := F) h hP hl hm hM ih hc)
  refine ⟨hs.1, Int.le_trans hs.2 ?_⟩
  have h3 := h.le
  have := Int.mul_le_mul_of_nonneg_right (show (C : Int) ≤ 3 by omega) (Int.mul_nonneg (show (0 : Int) ≤ 28 by decide) hP)
  omega
theorem nsum_succ (n : Nat) (f : Nat → Int) : nsum (n + 1) f = nsum n f + f n := rfl

end Go.Proofs.YtkgfbmlhplclfaaGreatDoor
