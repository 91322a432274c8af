/-
  Words, plain lemmas and contracts that belong together, joined into one file.
-/
import Derived.Test.YtoafpokcbbncfaaDoorZdk
import Derived.Test.YtoafpokcbbncfaaDoorZpx
namespace Go.Proofs.YtoafpokcbbncfaaDoor
open Go.RowKit
set_option linter.unusedVariables false

/-- All blocks but those from 'lo' on, below 'hi', are as they were. -/
structure Only (w w' : World) (lo hi : Nat) : Prop where
  b0 : Below 0 w w'
  block : ∀ k, k < w.heap.size → (k < lo ∨ hi ≤ k) → w'.heap[k]? = w.heap[k]?
section
variable {w w' w1 w2 : World} {lo hi lo' hi' B n c b : Nat} {v : Value} {A : Option Addr} {zs : List Int} {x y z u : Value} {ps : List Plc}
theorem Only.size (h : Only w w' lo hi) : w.heap.size ≤ w'.heap.size := h.b0.size
theorem Only.refl (w : World) (lo hi : Nat) : Only w w lo hi := ⟨Below.refl _ _, fun _ _ _ => rfl⟩
theorem Only.up (h : Only w w1 lo hi) (hq : Below w1.heap.size w1 w2) : Only w w2 lo hi :=
  ⟨h.b0.trans (hq.mono (Nat.zero_le _)), fun k hk ho => (hq.block k (Nat.lt_of_lt_of_le hk h.size)).trans (h.block k hk ho)⟩
theorem Only.grown {row : Option Nat} (h : Only w w1 lo hi) (hg : w1.grownBy w2 row) (hr : ∀ k, row = some k → lo ≤ k ∧ k < hi) : Only w w2 lo hi :=
  ⟨h.b0.trans ⟨hg.os, hg.tape, hg.output, hg.size, fun k hk => absurd hk (Nat.not_lt_zero _)⟩, fun k hk ho => (hg.block k (Nat.lt_of_lt_of_le hk h.size) (fun e => by have := hr k e.symm; omega)).trans (h.block k hk ho)⟩
theorem Only.trans (h : Only w w1 lo hi) (h2 : Only w1 w2 lo hi) : Only w w2 lo hi :=
  ⟨h.b0.trans h2.b0, fun k hk ho => (h2.block k (Nat.lt_of_lt_of_le hk h.size) ho).trans (h.block k hk ho)⟩
theorem Only.wide (h : Only w w' lo hi) (h1 : lo' ≤ lo) (h2 : hi ≤ hi') : Only w w' lo' hi' := ⟨h.b0, fun k hk ho => h.block k hk (by omega)⟩
theorem Only.cell (h : Only w w' lo hi) {a : Addr} (ha : a.block < w.heap.size) (ho : a.block < lo ∨ hi ≤ a.block) : w'.cell? a = w.cell? a := World.cell?_of_block (h.block _ ha ho)
theorem row_same {e : TypeId} {size : Nat} {xs : List Value} (h : w.ownsRow b e size v n xs) (hs : ∀ k, v.ownBlock = some k → w'.heap[k]? = w.heap[k]?) : w'.ownsRow b e size v n xs := by
  refine ⟨h.1, ?_⟩
  rcases h.2 with hn | ⟨g, cap, cur, hv, hg, hh, r⟩
  · exact .inl hn
  · exact .inr ⟨g, cap, cur, hv, hg, (hs g (by rw [hv]; rfl)).trans hh, r⟩
theorem Only.own (h : Only w w' lo hi) (ho : Own w b v zs) (hv : ∀ k, v.ownBlock = some k → k < lo ∨ hi ≤ k) : Own w' b v zs :=
  ⟨row_same ho.row fun k hk => h.block k (ho.row.lt k hk).2 (hv k hk), ho.wf⟩
theorem Only.tri {g : Nat} (h : Only w w' lo hi) (ht : Tri w g x y z) (hg : g < lo ∨ hi ≤ g) : Tri w' g x y z :=
  ⟨(h.cell ht.lt hg).trans ht.c0, (h.cell ht.lt hg).trans ht.c1, (h.cell ht.lt hg).trans ht.c2, Nat.lt_of_lt_of_le ht.lt h.size⟩
theorem Only.qua {g : Nat} (h : Only w w' lo hi) (ht : Qua w g x y z u) (hg : g < lo ∨ hi ≤ g) : Qua w' g x y z u :=
  ⟨(h.cell ht.lt hg).trans ht.c0, (h.cell ht.lt hg).trans ht.c1, (h.cell ht.lt hg).trans ht.c2, (h.cell ht.lt hg).trans ht.c3, Nat.lt_of_lt_of_le ht.lt h.size⟩
theorem Only.below {a : World} (h : Only w w' lo hi) (hb : Below B a w) (hB : B ≤ lo) (hs : B ≤ a.heap.size) : Below B a w' :=
  ⟨h.b0.os.trans hb.os, h.b0.tape.trans hb.tape, h.b0.output.trans hb.output, Nat.le_trans hb.size h.size, fun k hk => (h.block k (by have := hb.size; omega) (.inl (by omega))).trans (hb.block k hk)⟩
theorem Only.plM {p : Plc} (h : Only w w' lo hi) (hp : PlM w B v p) (hB : B ≤ lo) (hs : B ≤ w.heap.size) : PlM w' B v p := hp.keep fun q hq => h.cell (by omega) (.inl (by omega))
theorem Only.dkM {p : Dsk} (h : Only w w' lo hi) (hp : DkM w B v p) (hB : B ≤ lo) (hs : B ≤ w.heap.size) : DkM w' B v p := hp.keep fun q hq => h.cell (by omega) (.inl (by omega))
end

end Go.Proofs.YtoafpokcbbncfaaDoor

namespace Go.Proofs.YtoafpokcbbncfaaDoor
open Go.RowKit
set_option linter.unusedVariables false

end Go.Proofs.YtoafpokcbbncfaaDoor

namespace Go.Proofs.YtoafpokcbbncfaaDoor
open Go.RowKit
set_option linter.unusedVariables false

end Go.Proofs.YtoafpokcbbncfaaDoor

namespace Go.Proofs.YtoafpokcbbncfaaDoor
open Go.RowKit
set_option linter.unusedVariables false

/-- A place all of whose cells lie below block B, which is there. -/
structure PlB (w : World) (B : Nat) (v : Value) (p : Plc) : Prop where
  pl : PlM w B v p
  le : B ≤ w.heap.size
section
variable {w w' : World} {B lo hi b : Nat} {v x y z u : Value} {p : Plc} {zs : List Int}
theorem PlB.up (h : PlB w B v p) (hq : Below w.heap.size w w') : PlB w' B v p := ⟨h.pl.below (hq.mono h.le), Nat.le_trans h.le hq.size⟩
theorem PlB.only (h : PlB w B v p) (hO : Only w w' lo hi) (hB : B ≤ lo) : PlB w' B v p := ⟨hO.plM h.pl hB h.le, Nat.le_trans h.le hO.size⟩
theorem PlB.plM (h : PlB w B v p) : PlM w w.heap.size v p := h.pl.more h.le
theorem Only.frozen (h : Only w w' lo hi) {a : Addr} (ha : a.block < w.heap.size) (ho : a.block < lo ∨ hi ≤ a.block) : w'.frozen? a = w.frozen? a := World.frozen?_of_block (h.block _ ha ho)
theorem TriW.only (h : TriW w b x y z) (hO : Only w w' lo hi) (hb : b < lo ∨ hi ≤ b) : TriW w' b x y z :=
  ⟨(hO.cell h.lt hb).trans h.c0, (hO.cell h.lt hb).trans h.c1, (hO.cell h.lt hb).trans h.c2, (hO.frozen h.lt hb).trans h.f0, (hO.frozen h.lt hb).trans h.f1, (hO.frozen h.lt hb).trans h.f2, Nat.lt_of_lt_of_le h.lt hO.size⟩
theorem QuaW.only (h : QuaW w b x y z u) (hO : Only w w' lo hi) (hb : b < lo ∨ hi ≤ b) : QuaW w' b x y z u :=
  ⟨(hO.cell h.lt hb).trans h.c0, (hO.cell h.lt hb).trans h.c1, (hO.cell h.lt hb).trans h.c2, (hO.cell h.lt hb).trans h.c3, (hO.frozen h.lt hb).trans h.f0, (hO.frozen h.lt hb).trans h.f1, (hO.frozen h.lt hb).trans h.f2, (hO.frozen h.lt hb).trans h.f3, Nat.lt_of_lt_of_le h.lt hO.size⟩
end
end Go.Proofs.YtoafpokcbbncfaaDoor
