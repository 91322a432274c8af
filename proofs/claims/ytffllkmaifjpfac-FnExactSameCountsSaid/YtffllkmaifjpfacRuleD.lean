/-
  Contracts of chapter 4, the program's side: drawnByRule (a fold over a struct), AfterWord, RuleWays.
-/
import Derived.Test.YtffllkmaifjpfacRuleB
namespace Go.Proofs.Ytffllkmaifjpfac
open Go.RowKit

/-- What the fold has in its hand behind the first k draws. -/
structure DrawnAt (rs : List (List Int)) (zs ws : List Int) (k : Nat) (P : Int) (us : List Int) : Prop where
  len : us.length = zs.length
  lo : 0 ≤ P
  hi : P ≤ 481890304
  bd : ∀ y ∈ us, -1000 ≤ y ∧ y ≤ 1000
  at_ : WaysAt rs zs ws k P us

theorem DrawnAt.zero {rs : List (List Int)} {zs ws us : List Int} {k : Nat} (h : DrawnAt rs zs ws k 0 us) : rways rs zs ws = 0 := by
  rcases h.at_ with h1 | h1
  · exact absurd h1.1 (by decide)
  · exact h1.2
/-- The block of a slice that the call owns, or none. -/
def Off (A : Option Addr) (n c g : Nat) : Prop := (Value.slice A n c).ownBlock ≠ some g
theorem Off.of_own {w : World} {base n c g : Nat} {A : Option Addr} {zs : List Int} (h : Own w base (.slice A n c) zs) (hg : g < base) : Off A n c g := by
  unfold Off
  rcases h.shape with ⟨e, _⟩ | ⟨b, c', e, hb, _⟩
  · rw [e]; simp [Value.ownBlock]
  · rw [e]; simp [Value.ownBlock]; omega
theorem Off.of_own_lt {w : World} {base n c g : Nat} {A : Option Addr} {zs : List Int} (h : Own w base (.slice A n c) zs) (hg : w.heap.size ≤ g) : Off A n c g := by
  unfold Off
  rcases h.shape with ⟨e, _⟩ | ⟨b, c', e, _, hb⟩
  · rw [e]; simp [Value.ownBlock]
  · rw [e]; simp [Value.ownBlock]; omega

theorem DrawnAt.ways {rs : List (List Int)} {zs ws us : List Int} {P : Int} (h : DrawnAt rs zs ws ws.length P us) : P = rways rs zs ws := by
  rcases h.at_ with h1 | h1
  · have := h1.2.2
    rwa [List.take_length] at this
  · rw [h1.1, h1.2]
theorem DrawnAt.urn {rs : List (List Int)} {zs ws us : List Int} {P : Int} (h : DrawnAt rs zs ws ws.length P us) (hP : P ≠ 0) : afterW rs zs ws = some us := by
  rcases h.at_ with h1 | h1
  · have := h1.2.1
    rwa [List.take_length] at this
  · exact absurd h1.1 hP
theorem DrawnAt.none_ {rs : List (List Int)} {zs ws us : List Int} (h : DrawnAt rs zs ws ws.length 0 us) : afterW rs zs ws = none := by
  have h0 := h.ways
  cases ha : afterW rs zs ws with
  | none => rfl
  | some vs => have := rways_some ha; omega

theorem afterL_len (zs : List Int) (rs : List (List Int)) (ws : List Int) : (afterL zs rs ws).length ≤ zs.length := by
  by_cases h : afterC zs rs ws = true
  · obtain ⟨hu, hm, hR, hw6, hwm⟩ := afterC_yes h
    cases ha : afterW rs zs ws with
    | none => rw [(afterL_no ha).1]; exact Nat.zero_le _
    | some us => rw [(afterL_yes h ha).1, (afterW_good hR rfl hm hwm ha).1]; exact Nat.le_refl _
  · rw [(afterL_not (by simpa using h)).1]; exact Nat.zero_le _

end Go.Proofs.Ytffllkmaifjpfac
