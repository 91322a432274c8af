/-
  Words, plain lemmas and contracts that belong together, joined into one file.
-/
import Derived.Test.YtpkbmmepapgogaaGreatDoorZpl
import Derived.Test.YtpkbmmepapgogaaGreatDoorZoks
import Derived.Deep.QuietTactic
import Derived.BigQuiet
import Derived.StillTailTactics
namespace Go.Proofs.YtpkbmmepapgogaaGreatDoor
open Go.RowKit

/-- The slice '.slice A n c' holds the bytes bs; its cells lie below block B. -/
structure Bts (w : World) (B : Nat) (A : Option Addr) (n c : Nat) (bs : List Int) : Prop where
  len : bs.length = n
  le : n ≤ c
  big : c ≤ maxLen
  cells : 0 < n → ∃ b off, A = some ⟨b, off, none⟩ ∧ b < B ∧ ∀ j x, bs[j]? = some x → w.cell? ⟨b, off + j, none⟩ = some (.int .u8 x)
  wf : ∀ z ∈ bs, 0 ≤ z ∧ z ≤ 255
section
variable {w w' : World} {B B' n c k : Nat} {A : Option Addr} {bs : List Int}
theorem Bts.look (h : Bts w B A n c bs) (hk : k < n) : ∃ b off x, A = some ⟨b, off, none⟩ ∧ b < B ∧ 0 ≤ x ∧ x ≤ 255 ∧ w.cell? ⟨b, off + k, none⟩ = some (.int .u8 x) := by
  obtain ⟨b, off, e, hb, hc⟩ := h.cells (by omega)
  have hl : k < bs.length := by have := h.len; omega
  have hx := h.wf bs[k] (List.getElem_mem hl)
  exact ⟨b, off, bs[k], e, hb, hx.1, hx.2, hc k _ (List.getElem?_eq_getElem hl)⟩
theorem Bts.keep (h : Bts w B A n c bs) (hk : ∀ p : Addr, p.block < B → w'.cell? p = w.cell? p) : Bts w' B A n c bs :=
  ⟨h.len, h.le, h.big, fun hn => by
    obtain ⟨b, off, e, hb, hc⟩ := h.cells hn
    exact ⟨b, off, e, hb, fun j x hx => (hk _ hb).trans (hc j x hx)⟩, h.wf⟩
theorem Bts.more (h : Bts w B A n c bs) (hB : B ≤ B') : Bts w B' A n c bs :=
  ⟨h.len, h.le, h.big, fun hn => by
    obtain ⟨b, off, e, hb, hc⟩ := h.cells hn
    exact ⟨b, off, e, by omega, hc⟩, h.wf⟩
theorem Bts.below (h : Bts w B A n c bs) (hb : Below B w w') : Bts w' B A n c bs := h.keep fun _ hp => hb.cell hp
theorem bts_of {w : World} {a : Option Addr} {len cap : Nat} {zs : List Int}
    (h : (a = none ∧ len = 0 ∧ cap = 0 ∧ zs = []) ∨ ∃ x, a = some x ∧ len ≤ cap ∧ cap ≤ maxLen ∧ zs.length = cap ∧ (∀ i, i < zs.length → w.cell? (x.add i) = some (.int .u8 (zs.getD i 0))) ∧ ∀ n ∈ zs, (Lit.int .u8 n).wf = true) :
    Bts w w.heap.size a len cap (zs.take len) := by
  rcases h with ⟨rfl, rfl, rfl, rfl⟩ | ⟨x, rfl, hl, hm, hz, hc, hw⟩
  · exact ⟨rfl, Nat.le_refl _, Nat.zero_le _, fun h => absurd h (by omega), (fun _ h => by cases h)⟩
  · refine ⟨by rw [List.length_take]; omega, hl, hm, fun hp => ?_, fun z hz => ?_⟩
    · obtain ⟨b, off, spot⟩ := x
      have h0 := hc 0 (by omega)
      have hspot : spot = none := by simpa [Addr.add] using World.cell?_spot h0
      subst hspot
      refine ⟨b, off, rfl, ?_, fun j y hy => ?_⟩
      · have := World.block_lt_of_cell? w _ h0
        simpa [Addr.add] using this
      · have hj : j < len := by
          have := (List.getElem?_eq_some_iff.1 hy).1
          rw [List.length_take] at this
          omega
        have h1 := hc j (by omega)
        rw [List.getElem?_take_of_lt hj] at hy
        have e : (Addr.mk b off none).add j = ⟨b, off + j, none⟩ := by
          unfold Addr.add
          by_cases hj0 : j = 0 <;> simp [hj0]
        rw [e] at h1
        rw [h1]
        simp [hy]
    · have := hw z (List.mem_of_mem_take hz)
      simpa [Lit.wf, IntKind.min, IntKind.max, IntKind.signed, IntKind.bits] using this
end

/-- The reader in block g: its bytes lie below g; it has read at most m times. -/
def Rd (w : World) (g m : Nat) : Prop :=
  ∃ A n c bs, ∃ p : Nat, w.heap[g]? = some (.cells #[.slice A n c, .int .i64 (p : Int)] 103 (0, 0)) ∧ Bts w g A n c bs ∧ n ≤ 2000 ∧ p ≤ m
theorem Rd.lt {w : World} {g m : Nat} (h : Rd w g m) : g < w.heap.size := by
  obtain ⟨A, n, c, bs, p, hg, _⟩ := h
  exact (Array.getElem?_eq_some_iff.1 hg).1
theorem Rd.kept {w w' : World} {g m : Nat} {row : Option Nat} (h : Rd w g m) (hg : w.grownBy w' row) (hr : ∀ k, row = some k → g < k) : Rd w' g m := by
  have hlt := h.lt
  obtain ⟨A, n, c, bs, p, h1, h2, h3⟩ := h
  refine ⟨A, n, c, bs, p, ?_, h2.keep fun q hq => ?_, h3⟩
  · rw [hg.block g hlt (fun e => by have := hr g e.symm; omega)]; exact h1
  · exact World.cell?_of_block (hg.block q.block (by omega) (fun e => by have := hr _ e.symm; omega))
theorem Rd.drewN {w : World} {g m : Nat} (h : Rd w g m) (n : Nat) : Rd (w.drewN n) g m :=
  h.kept (row := none) ⟨rfl, rfl, rfl, Nat.le_refl _, fun _ _ _ => rfl⟩ (fun _ e => by cases e)
theorem Rd.more {w : World} {g m m' : Nat} (h : Rd w g m) (hm : m ≤ m') : Rd w g m' := by
  obtain ⟨A, n, c, bs, p, h1, h2, h3, h4⟩ := h
  exact ⟨A, n, c, bs, p, h1, h2, h3, by omega⟩

end Go.Proofs.YtpkbmmepapgogaaGreatDoor

namespace Go.Proofs.YtpkbmmepapgogaaGreatDoor
open Go.RowKit

theorem grown_new {a b c : World} {row : Option Nat} {q : Option Nat} (h : a.grownBy b row) (k : b.grownBy c q) (hq : ∀ j, q = some j → a.heap.size ≤ j ∨ q = row) : a.grownBy c row :=
  ⟨k.os.trans h.os, k.tape.trans h.tape, k.output.trans h.output, Nat.le_trans h.size k.size, fun i hi hne => (k.block i (Nat.lt_of_lt_of_le hi h.size) (fun e => by
    rcases hq i e.symm with h1 | h1
    · omega
    · exact hne (e.trans h1))).trans (h.block i hi hne)⟩
theorem Own.past {w w' : World} {base g : Nat} {v : Value} {zs : List Int} (h : Own w base v zs) (hg : w.grownBy w' (some g)) (hlt : g < base) : Own w' base v zs :=
  h.kept hg (by
    cases hk : v.ownBlock with
    | none => exact .inl rfl
    | some k => exact .inr (fun e => by injection e with e; have := (h.row.lt k hk).1; omega))

end Go.Proofs.YtpkbmmepapgogaaGreatDoor

namespace Go.Proofs.YtpkbmmepapgogaaGreatDoor
open Go.RowKit

/-! What a step leaves: facts on the world at hand are carried over 'Below' of its whole heap. -/
theorem Ints.up {w w' : World} {n c : Nat} {A : Option Addr} {zs : List Int} (h : Ints w w.heap.size A n c zs) (hq : Below w.heap.size w w') : Ints w' w'.heap.size A n c zs := (h.below hq).more hq.size
theorem Own.up {w w' : World} {base : Nat} {v : Value} {zs : List Int} (h : Own w base v zs) (hq : Below w.heap.size w w') : Own w' base v zs := h.below hq (Nat.le_refl _)
theorem upB {w0 w w' : World} (hb : Below w0.heap.size w0 w) (hq : Below w.heap.size w w') : Below w0.heap.size w0 w' := hb.trans (hq.mono hb.size)
theorem al (w : World) (o : Obj) : Below w.heap.size w (w.alloc o) := (Below.refl _ _).alloc (Nat.le_refl _) o
theorem own_made {w : World} {h m : Nat} (ho : w.ownsRow h 3 1 (.slice (some ⟨h, 0, none⟩) m m) m (madeCells (Value.int .i64 0).cells (m * 1)).toList) : Own w h (.slice (some ⟨h, 0, none⟩) m m) (List.replicate m 0) :=
  ⟨by
    have e1 : (madeCells (Value.int .i64 0).cells (m * 1)).toList = (List.replicate m (0 : Int)).map (Value.int .i64) := by
      simp [Value.cells, toList_madeCells_one]
    rw [List.length_replicate, ← e1]; exact ho, fun z hz => by
      have := List.eq_of_mem_replicate hz
      subst this; decide⟩
end Go.Proofs.YtpkbmmepapgogaaGreatDoor

namespace Go.Proofs.YtpkbmmepapgogaaGreatDoor
open Go.RowKit

end Go.Proofs.YtpkbmmepapgogaaGreatDoor
