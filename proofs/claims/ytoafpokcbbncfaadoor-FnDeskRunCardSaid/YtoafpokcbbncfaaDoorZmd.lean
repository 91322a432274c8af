/-
  Words, plain lemmas and contracts that belong together, joined into one file.
-/
import Derived.Test.YtoafpokcbbncfaaDoorZmk
import Derived.Test.YtoafpokcbbncfaaDoorZdk
import Derived.Test.YtoafpokcbbncfaaDoorZdsk
import Derived.Test.YtoafpokcbbncfaaDoorZpx
import Derived.Test.YtoafpokcbbncfaaDoorZdsl
namespace Go.Proofs.YtoafpokcbbncfaaDoor
open Go.RowKit
set_option linter.unusedVariables false

section
variable {w w' w1 : World} {lo hi b n c j : Nat} {A : Option Addr} {v : Value} {t t0 : Trp} {ts : List Trp} {d : Dsk} {zs : List Int} {xs : List Value} {q : Plc}
/-- A desk that the call owns, in blocks below hi. -/
structure DkH (w : World) (lo hi : Nat) (v : Value) (d : Dsk) : Prop where
  ex : ∃ (t : Trp) (ts : List Trp) (A : Option Addr) (n c : Nat), v = .agg #[t.1, .int .i64 t.2.2.step, t.2.1, .slice A n c] ∧ t.2.2 = d.now ∧ plcs ts = d.past ∧ n = ts.length ∧ SlO w lo A n c (cellsT ts) ∧ RowsT w lo (t :: ts) ∧ (∀ g, (Value.slice A n c).ownBlock = some g → g < hi) ∧ ∀ s ∈ t :: ts, ∀ g, (s.1.ownBlock = some g → g < hi) ∧ (s.2.1.ownBlock = some g → g < hi)
theorem DkH.toR (h : DkH w lo hi v d) : DkR w lo v d := by
  obtain ⟨t, ts, A, n, c, e, h1, h2, h3, h4, h5, _⟩ := h.ex
  exact ⟨t, ts, A, n, c, e, h1, h2, h3, h4, h5⟩
theorem DkH.up (h : DkH w lo hi v d) (hq : Below w.heap.size w w') : DkH w' lo hi v d := by
  obtain ⟨t, ts, A, n, c, e, h1, h2, h3, h4, h5, h6, h7⟩ := h.ex
  exact ⟨t, ts, A, n, c, e, h1, h2, h3, h4.up hq, h5.up hq, h6, h7⟩
theorem SlO.only {lo' hi' : Nat} (ho : SlO w lo A n c xs) (h : Only w w' lo' hi') (hv : ∀ k, (Value.slice A n c).ownBlock = some k → k < lo' ∨ hi' ≤ k) : SlO w' lo A n c xs := ho.same fun k hk => h.block k (ho.lt k hk).2.1 (hv k hk)
theorem OneT.only {lo' hi' : Nat} (ho : OneT w lo t) (h : Only w w' lo' hi') (hv : ∀ g, (t.1.ownBlock = some g → g < lo' ∨ hi' ≤ g) ∧ (t.2.1.ownBlock = some g → g < lo' ∨ hi' ≤ g)) : OneT w' lo t := ⟨h.own ho.s (fun k => (hv k).1), h.own ho.d (fun k => (hv k).2), ho.ne, ho.wf⟩
/-- Marks elsewhere leave a desk as it is. -/
theorem DkH.only {lo' hi' : Nat} (h : DkH w lo hi v d) (hO : Only w w' lo' hi') (hv : hi ≤ lo' ∨ hi' ≤ lo) : DkH w' lo hi v d := by
  obtain ⟨t, ts, A, n, c, e, h1, h2, h3, h4, h5, h6, h7⟩ := h.ex
  refine ⟨t, ts, A, n, c, e, h1, h2, h3, h4.only hO (fun k hk => ?_), ⟨fun s hs => (h5.one s hs).only hO (fun g => ⟨fun hg => ?_, fun hg => ?_⟩), h5.two⟩, h6, h7⟩
  · have := h6 k hk; have := (h4.lt k hk).1; omega
  · have := (h7 s hs g).1 hg; have := ((h5.one s hs).s.row.lt g hg).1; omega
  · have := (h7 s hs g).2 hg; have := ((h5.one s hs).d.row.lt g hg).1; omega
end
end Go.Proofs.YtoafpokcbbncfaaDoor

namespace Go.Proofs.YtoafpokcbbncfaaDoor
open Go.RowKit
set_option linter.unusedVariables false

/-- A desk that may be read, its cells below block B. -/
structure DkB (w : World) (B : Nat) (v : Value) (p : Dsk) : Prop where
  pl : DkM w B v p
  le : B ≤ w.heap.size
section
variable {w w' : World} {B lo hi : Nat} {v : Value} {p : Dsk}
theorem DkB.up (h : DkB w B v p) (hq : Below w.heap.size w w') : DkB w' B v p := ⟨h.pl.below (hq.mono h.le), Nat.le_trans h.le hq.size⟩
theorem DkB.only (h : DkB w B v p) (hO : Only w w' lo hi) (hB : B ≤ lo) : DkB w' B v p := ⟨hO.dkM h.pl hB h.le, Nat.le_trans h.le hO.size⟩
theorem DkB.dkM (h : DkB w B v p) : DkM w w.heap.size v p := h.pl.more h.le
theorem DkH.dkM (h : DkH w lo hi v p) : DkM w w.heap.size v p := h.toR.dkM
theorem DkH.open_ (h : DkH w lo hi v p) : ∃ A n c A' n' c' A3 n3 c3, v = .agg #[.slice A n c, .int .i64 p.now.step, .slice A' n' c', .slice A3 n3 c3] := by
  obtain ⟨A, n, c, A', n', c', A3, n3, c3, e, _⟩ := h.dkM.ex
  exact ⟨A, n, c, A', n', c', A3, n3, c3, e⟩
end
theorem DkM.open_ {w : World} {B : Nat} {v : Value} {p : Dsk} (h : DkM w B v p) : ∃ A n c A' n' c' A3 n3 c3, v = .agg #[.slice A n c, .int .i64 p.now.step, .slice A' n' c', .slice A3 n3 c3] := by
  obtain ⟨A, n, c, A', n', c', A3, n3, c3, e, _⟩ := h.ex
  exact ⟨A, n, c, A', n', c', A3, n3, c3, e⟩
end Go.Proofs.YtoafpokcbbncfaaDoor
