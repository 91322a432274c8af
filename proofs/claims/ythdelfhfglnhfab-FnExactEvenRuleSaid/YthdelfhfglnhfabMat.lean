/-
  Words for slices of slices of ints: what such a slice reads as, and how that is carried. No program is named here.
-/
import Derived.Test.YthdelfhfglnhfabWords
namespace Go.Proofs.Ythdelfhfglnhfab
open Go.RowKit

/-- The slice '.slice A n c' holds rows of ints; all its cells lie below block B. -/
structure Mat (w : World) (B : Nat) (A : Option Addr) (n c : Nat) (rs : List (List Int)) : Prop where
  len : rs.length = n
  le : n ≤ c
  big : c ≤ maxLen
  cells : 0 < n → ∃ b off, A = some ⟨b, off, none⟩ ∧ b < B ∧ ∀ j l, rs[j]? = some l → ∃ A' n' c', w.cell? ⟨b, off + j, none⟩ = some (.slice A' n' c') ∧ Ints w B A' n' c' l
  nil0 : A = none → c = 0

section
variable {w w' : World} {B B' n c k : Nat} {A : Option Addr} {rs : List (List Int)}
theorem Mat.look (h : Mat w B A n c rs) (hk : k < n) : ∃ b off l A' n' c', A = some ⟨b, off, none⟩ ∧ b < B ∧ Hid (rs[k]? = some l) ∧ w.cell? ⟨b, off + k, none⟩ = some (.slice A' n' c') ∧ Hid (Ints w B A' n' c' l) := by
  obtain ⟨b, off, e, hb, hc⟩ := h.cells (by omega)
  have hl : k < rs.length := by have := h.len; omega
  obtain ⟨A', n', c', h1, h2⟩ := hc k _ (List.getElem?_eq_getElem hl)
  exact ⟨b, off, rs[k], A', n', c', e, hb, hide (List.getElem?_eq_getElem hl), h1, hide h2⟩
theorem Mat.nb (h : Mat w B A n c rs) : n ≤ 9223372036854775807 := by have := h.le; have := h.big; unfold maxLen at this; omega
theorem Mat.keep (h : Mat w B A n c rs) (hk : ∀ p : Addr, p.block < B → w'.cell? p = w.cell? p) : Mat w' B A n c rs :=
  ⟨h.len, h.le, h.big, fun hn => by
    obtain ⟨b, off, e, hb, hc⟩ := h.cells hn
    refine ⟨b, off, e, hb, fun j l hl => ?_⟩
    obtain ⟨A', n', c', h1, h2⟩ := hc j l hl
    exact ⟨A', n', c', (hk _ hb).trans h1, h2.keep hk⟩, h.nil0⟩
theorem Mat.more (h : Mat w B A n c rs) (hB : B ≤ B') : Mat w B' A n c rs :=
  ⟨h.len, h.le, h.big, fun hn => by
    obtain ⟨b, off, e, hb, hc⟩ := h.cells hn
    refine ⟨b, off, e, by omega, fun j l hl => ?_⟩
    obtain ⟨A', n', c', h1, h2⟩ := hc j l hl
    exact ⟨A', n', c', h1, h2.more hB⟩, h.nil0⟩
theorem Mat.below (h : Mat w B A n c rs) (hb : Below B w w') : Mat w' B A n c rs := h.keep fun _ hp => hb.cell hp
theorem Mat.up (h : Mat w w.heap.size A n c rs) (hq : Below w.heap.size w w') : Mat w' w'.heap.size A n c rs := (h.below hq).more hq.size
theorem Mat.drewN (h : Mat w B A n c rs) (k : Nat) : Mat (w.drewN k) B A n c rs := h.keep fun _ _ => rfl
theorem Mat.alloc (h : Mat w B A n c rs) (hB : B ≤ w.heap.size) (o : Obj) : Mat (w.alloc o) B A n c rs := h.keep fun p hp => World.cell?_alloc_lt w o p (by omega)
theorem Mat.nil : Mat w B none 0 0 [] := ⟨rfl, Nat.le_refl _, Nat.zero_le _, fun h => absurd h (by omega), fun _ => rfl⟩
/-- One row more at the end of a slice of slices that the call owns: what a store into the cells says. -/
theorem Mat.at_ (h : Mat w B A n c rs) {l : List Int} (hl : rs[k]? = some l) : ∃ b off A' n' c', A = some ⟨b, off, none⟩ ∧ b < B ∧ w.cell? ⟨b, off + k, none⟩ = some (.slice A' n' c') ∧ Ints w B A' n' c' l := by
  have hk := (List.getElem?_eq_some_iff.1 hl).1
  obtain ⟨b, off, e, hb, hc⟩ := h.cells (by have := h.len; omega)
  obtain ⟨A', n', c', h1, h2⟩ := hc k l hl
  exact ⟨b, off, A', n', c', e, hb, h1, h2⟩
end
end Go.Proofs.Ythdelfhfglnhfab
