/-
  Contracts of chapter 2, the program's side: WordOk, CountRowOk, AllWays, SameApart.
-/
import Derived.Test.YtdejlalodjhlbaaZoks
import Derived.Test.YtdejlalodjhlbaaZpl
namespace Go.Proofs.Ytdejlalodjhlbaa
open Go.RowKit

theorem isum_take_le {cs : List Int} (h : ∀ x ∈ cs, 0 ≤ x ∧ x ≤ 6) (k : Nat) : isum (cs.take k) ≤ isum cs := by
  have e := isum_append (cs.take k) (cs.drop k)
  rw [List.take_append_drop] at e
  have := (isum_bounds 6 (cs.drop k) (fun x hx => h x (List.mem_of_mem_drop hx))).1
  omega
theorem countRowOk_far {c : Int} {cs : List Int} {k : Nat} {x : Int} (hx : cs[k]? = some x) (h : 6 - isum (cs.take k) < x) : countRowOk c cs = false := by
  rw [Bool.eq_false_iff]
  intro hh
  obtain ⟨_, _, _, h4, h5⟩ := countRowOk_yes hh
  have h1 := isum_take_le h4 (k + 1)
  rw [isum_take_succ hx] at h1
  omega

theorem fall_next {s : Int} (h : 0 ≤ s) (k : Nat) : fall s (k + 1) = fall s k * (s - (k : Int)) := by
  rw [fall_snoc]
  rcases Int.lt_or_le s (k : Int) with h1 | h1
  · rw [(fall_zero h).2 h1, Int.zero_mul, Int.zero_mul]
  · rw [Int.max_eq_left (by omega)]

end Go.Proofs.Ytdejlalodjhlbaa
