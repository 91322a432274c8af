/-
  The drawn urns: spec.l20Urn.
-/
import Derived.Test.YthdelfhfglnhfabDraw
namespace Go.Proofs.Ythdelfhfglnhfab
open Go.RowKit

theorem grown_new {a b c : World} {row : Option Nat} {q : Option Nat} (h : a.grownBy b row) (k : b.grownBy c q) (hq : ∀ j, q = some j → a.heap.size ≤ j ∨ q = row) : a.grownBy c row :=
  ⟨k.os.trans h.os, k.tape.trans h.tape, k.output.trans h.output, Nat.le_trans h.size k.size, fun i hi hne => (k.block i (Nat.lt_of_lt_of_le hi h.size) (fun e => by
    rcases hq i e.symm with h1 | h1
    · omega
    · exact hne (e.trans h1))).trans (h.block i hi hne)⟩
theorem grown_alloc {a b : World} {row : Option Nat} (h : a.grownBy b row) (o : Obj) : a.grownBy (b.alloc o) row :=
  grown_new h (World.grownBy_alloc b o none) (fun _ e => by cases e)

theorem ints_lit {w : World} (xs : List Int) (hx : ∀ x ∈ xs, (Lit.int .i64 x).wf = true) (hn : xs.length ≤ 1000) {cs : Array Value} (hc : cs = (xs.map (Value.int .i64)).toArray) : Own (w.alloc (.cells cs 3)) w.heap.size (.slice (some ⟨w.heap.size, 0, none⟩) xs.length xs.length) xs := by
  subst hc
  have := World.ownsRow_lit (e := 3) (size := 1) w (xs.map (Value.int .i64)).toArray xs.length (Nat.le_refl _) (by unfold maxLen; omega) (by simp)
  exact ⟨by simpa using this, hx⟩

theorem Own.past {w w' : World} {base g : Nat} {v : Value} {zs : List Int} (h : Own w base v zs) (hg : w.grownBy w' (some g)) (hlt : g < base) : Own w' base v zs :=
  h.kept hg (by
    cases hk : v.ownBlock with
    | none => exact .inl rfl
    | some k => exact .inr (fun e => by injection e with e; have := (h.row.lt k hk).1; omega))

end Go.Proofs.Ythdelfhfglnhfab
