/-
  Words, plain lemmas and contracts that belong together, joined into one file.
-/
import Derived.Test.YtdejlalodjhlbaaZoks
import Derived.Test.YtdejlalodjhlbaaZpl
import Derived.Test.YtdejlalodjhlbaaZword
import Derived.Deep.QuietTactic
import Derived.BigQuiet
namespace Go.Proofs.Ytdejlalodjhlbaa
open Go.RowKit

def entP (i j : Nat) (x : Int) : Prop := (0 ≤ x ∧ x ≤ 3) ∨ (x = -1 ∧ j = i)
theorem ruleOk_not {c : Int} {rs : List (List Int)} (h : c < 1 ∨ 3 < c ∨ (rs.length : Int) ≠ c ∨ (∃ (k : Nat) (l : List Int), rs[k]? = some l ∧ ((l.length : Int) ≠ c ∨ ∃ (j : Nat) (x : Int), l[j]? = some x ∧ ¬ entP k j x))) : ruleOk c rs = false := by
  rw [Bool.eq_false_iff]
  intro hh
  obtain ⟨h1, h2⟩ := ruleOk_yes hh
  have p1 := h2.pos; have p2 := h2.le; have p3 := h2.len
  rcases h with h | h | h | ⟨k, l, hl, h⟩
  · omega
  · omega
  · omega
  · obtain ⟨q1, q2⟩ := h2.rows k l hl
    rcases h with h | ⟨j, x, hx, h⟩
    · omega
    · exact h (q2 j x hx)
theorem ruleOk_all {c : Int} {rs : List (List Int)} (h1 : 1 ≤ c) (h3 : c ≤ 3) (hl : (rs.length : Int) = c) (h : ∀ (k : Nat) l, rs[k]? = some l → (l.length : Int) = c ∧ ∀ (j : Nat) x, l[j]? = some x → entP k j x) : ruleOk c rs = true := by
  obtain ⟨C, rfl⟩ : ∃ C : Nat, c = (C : Int) := ⟨c.toNat, by omega⟩
  exact ruleOk_mk ⟨by omega, by omega, by omega, fun k l hk => ⟨by have := (h k l hk).1; omega, (h k l hk).2⟩⟩

end Go.Proofs.Ytdejlalodjhlbaa

namespace Go.Proofs.Ytdejlalodjhlbaa
open Go.RowKit

theorem sum_small {zs : List Int} {M : Int} (_hM : 0 ≤ M) (h : ∀ x ∈ zs, -M ≤ x ∧ x ≤ M) : -(M * zs.length) ≤ isum zs ∧ isum zs ≤ M * zs.length := by
  induction zs with
  | nil => simp [isum]
  | cons x r ih =>
    have h1 := h x (by simp)
    have h2 := ih (fun y hy => h y (by simp [hy]))
    have e : M * ((x :: r).length : Int) = M * (r.length : Int) + M := by rw [List.length_cons, Int.natCast_add, Int.mul_add]; simp
    rw [e]; simp only [isum]; omega

end Go.Proofs.Ytdejlalodjhlbaa

namespace Go.Proofs.Ytdejlalodjhlbaa
open Go.RowKit

theorem evenN_no {c : Int} {rs : List (List Int)} (h : evenOk c rs = false) : evenN c rs = 0 := by unfold evenN; rw [h]; rfl
theorem evenN_yes {c : Int} {rs : List (List Int)} {l : List Int} (h : evenOk c rs = true) (hl : rs[0]? = some l) : evenN c rs = isum l := by unfold evenN rowOf; rw [h, hl]; rfl
theorem ret_ib {a b : Int} {x y : Bool} (h : a = b) (k : x = y) : Ending.returned (.tuple #[.int .i64 a, .bool x]) = .returned (.tuple #[.int .i64 b, .bool y]) := by rw [h, k]

theorem afterL_no {zs : List Int} {rs : List (List Int)} {ws : List Int} (h : afterW rs zs ws = none) : afterL zs rs ws = [] ∧ afterOk zs rs ws = false := by
  unfold afterL afterOk
  rw [h]
  refine ⟨by split <;> rfl, by simp⟩
theorem afterL_not {zs : List Int} {rs : List (List Int)} {ws : List Int} (h : afterC zs rs ws = false) : afterL zs rs ws = [] ∧ afterOk zs rs ws = false := by
  unfold afterL afterOk
  rw [h]
  exact ⟨rfl, rfl⟩
theorem afterL_yes {zs us : List Int} {rs : List (List Int)} {ws : List Int} (h : afterC zs rs ws = true) (h2 : afterW rs zs ws = some us) : afterL zs rs ws = us ∧ afterOk zs rs ws = true := by
  unfold afterL afterOk
  rw [h, h2]
  exact ⟨rfl, rfl⟩
theorem ret_sb {A : Option Addr} {n c : Nat} {x y : Bool} (k : x = y) : Ending.returned (.tuple #[.slice A n c, .bool x]) = .returned (.tuple #[.slice A n c, .bool y]) := by rw [k]
theorem afterC_split {zs : List Int} {rs : List (List Int)} {ws : List Int} {n : Nat} (hl : zs.length = n) (h : startOk zs = false ∨ ruleOk (n : Int) rs = false ∨ wordOk (n : Int) ws = false) : afterC zs rs ws = false := by
  unfold afterC begun
  rw [hl]
  rcases h with h | h | h <;> simp [h]
theorem afterC_all {zs : List Int} {rs : List (List Int)} {ws : List Int} {n : Nat} (hl : zs.length = n) (h1 : startOk zs = true) (h2 : ruleOk (n : Int) rs = true) (h3 : wordOk (n : Int) ws = true) : afterC zs rs ws = true := by
  unfold afterC begun
  rw [hl, h1, h2, h3]; rfl

end Go.Proofs.Ytdejlalodjhlbaa
