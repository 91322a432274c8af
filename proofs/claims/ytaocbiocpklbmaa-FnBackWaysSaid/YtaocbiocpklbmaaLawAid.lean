/-
  What every law calls: laws.sameInts, laws.alive.
-/
import Derived.Test.YtaocbiocpklbmaaDrawUrn
namespace Go.Proofs.Ytaocbiocpklbmaa
open Go.RowKit

theorem alive_c (w : World) : Calls Try.prog 14 #[] w fun e w' => e = .returned (.bool true) ∧ Below w.heap.size w w' := by
  have h1 := hide ((ints_lit (w := w) [1] (by intro x hx; simp at hx; subst hx; decide) (by decide) rfl).ints)
  have e1 : urnOk [1] = true := by decide
  have e0 : urnOk [] = false := by decide
  go_enter Try.func14, Try.ntmps14
  go_wp2_with fail
  refine (urnOk_impl _ _ _ _ _ _ h1.out).mono ?_
  rw [e1]
  rintro e w' ⟨rfl, rfl⟩
  go_wp2_with fail
  refine (urnOk_impl _ _ _ _ [] _ (own_empty' (by simp) (Nat.le_refl _)).ints).mono ?_
  rw [e0]
  rintro e w' ⟨rfl, rfl⟩
  go_wp2_with fail
  go_ret
  exact ⟨rfl, ((Below.refl _ _).alloc (Nat.le_refl _) _).alloc (by simp) _⟩

end Go.Proofs.Ytaocbiocpklbmaa
