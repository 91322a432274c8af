/-
  Contracts of the exact laws' helpers over slices of deeds: toDeedS, eqDeedS, szDeedS, markDeedS, heldDeedS (written by wip/gen_e5.py).
-/
import Derived.Test.YtoafpokcbbncfaaDoorZpd
import Derived.Test.YtoafpokcbbncfaaDoorZdraw
import Derived.Test.YtoafpokcbbncfaaDoorZrows
import Derived.Test.YtoafpokcbbncfaaDoorZpb
import Derived.StillTailTactics
import Derived.Deep.RegionHeld3
namespace Go.Proofs.YtoafpokcbbncfaaDoor
open Go.RowKit
set_option linter.unusedVariables false

theorem ddC_set {ds : List Ded} {j : Nat} {x : Ded} (h : j < ds.length) : (((ddC ds).set (j * 3) (.int .i64 x.k)).set (j * 3 + 1) (.int .i64 x.a)).set (j * 3 + 2) (.int .i64 x.b) = ddC (ds.set j x) := by
  induction ds generalizing j with
  | nil => simp at h
  | cons a r ih =>
    cases j with
    | zero => simp [ddC]
    | succ j =>
      have := ih (j := j) (by simpa using h)
      simp only [ddC, List.set_cons_succ, Nat.succ_mul]
      rw [← this]
theorem OwnD.shape {w : World} {base : Nat} {v : Value} {ds : List Ded} (h : OwnD w base v ds) : (v = .slice none 0 0 ∧ ds = []) ∨ ∃ g c, v = .slice (some ⟨g, 0, none⟩) ds.length c ∧ base ≤ g ∧ g < w.heap.size := by
  rcases row_shape h.row with ⟨hv, h0⟩ | ⟨g, cap, hv, hg, hh, _⟩
  · exact .inl ⟨hv, List.eq_nil_of_length_eq_zero h0⟩
  · exact .inr ⟨g, cap, hv, hg, hh⟩
def set3 (w : World) (g j : Nat) (x : Ded) : World := ((w.setCell ⟨g, j * 3, none⟩ (.int .i64 x.k)).setCell ⟨g, j * 3 + 1, none⟩ (.int .i64 x.a)).setCell ⟨g, j * 3 + 2, none⟩ (.int .i64 x.b)
theorem OwnD.set3 {w : World} {base g n c j : Nat} {ds : List Ded} (h : OwnD w base (.slice (some ⟨g, 0, none⟩) n c) ds) (hj : j < ds.length) {x : Ded} (hx : wfD x) :
    OwnD (Go.Proofs.YtoafpokcbbncfaaDoor.set3 w g j x) base (.slice (some ⟨g, 0, none⟩) n c) (ds.set j x) := by
  have hn := h.len
  subst hn
  refine ⟨?_, fun z hz => ?_⟩
  · have := (((((h.row.stored (j * 3) (.int .i64 x.k)).1).stored (j * 3 + 1) (.int .i64 x.a)).1).stored (j * 3 + 2) (.int .i64 x.b)).1
    rw [List.length_set, ← ddC_set hj]
    exact this
  · rcases List.mem_or_eq_of_mem_set hz with h1 | h1
    · exact h.wf z h1
    · rw [h1]; exact hx
/-- A deed that the call owns: what a store into its three fields asks. -/
theorem OwnD.at3 {w : World} {base j n c : Nat} {A : Option Addr} {x : Ded} {ds : List Ded} (h : OwnD w base (.slice A n c) ds) (hx : ds[j]? = some x) (u v : Value) : ∃ g, A = some ⟨g, 0, none⟩ ∧ base ≤ g ∧ g < w.heap.size ∧ (w.cell? ⟨g, j * 3, none⟩ = some (.int .i64 x.k) ∧ w.frozen? ⟨g, j * 3, none⟩ = false) ∧ (w.cell? ⟨g, j * 3 + 1, none⟩ = some (.int .i64 x.a) ∧ w.frozen? ⟨g, j * 3 + 1, none⟩ = false) ∧ (w.cell? ⟨g, j * 3 + 2, none⟩ = some (.int .i64 x.b) ∧ w.frozen? ⟨g, j * 3 + 2, none⟩ = false) ∧
    ((w.setCell ⟨g, j * 3, none⟩ u).cell? ⟨g, j * 3 + 1, none⟩ = some (.int .i64 x.a) ∧ (w.setCell ⟨g, j * 3, none⟩ u).frozen? ⟨g, j * 3 + 1, none⟩ = false) ∧ (((w.setCell ⟨g, j * 3, none⟩ u).setCell ⟨g, j * 3 + 1, none⟩ v).cell? ⟨g, j * 3 + 2, none⟩ = some (.int .i64 x.b) ∧ ((w.setCell ⟨g, j * 3, none⟩ u).setCell ⟨g, j * 3 + 1, none⟩ v).frozen? ⟨g, j * 3 + 2, none⟩ = false) := by
  have hj := (List.getElem?_eq_some_iff.1 hx).1
  have hn := h.len
  subst hn
  rcases h.shape with ⟨hv, rfl⟩ | ⟨g, c2, hv, hg, hgl⟩
  · simp at hx
  · injection hv with h1 h2 h3
    subst h1; subst h3
    obtain ⟨m1, m2, m3⟩ := ddC_at hx
    have hs := (h.row.stored (j * 3) u).1
    have hs2 := (hs.stored (j * 3 + 1) v).1
    refine ⟨g, rfl, hg, hgl, ⟨?_, h.row.frozenAt _⟩, ⟨?_, h.row.frozenAt _⟩, ⟨?_, h.row.frozenAt _⟩, ⟨?_, hs.frozenAt _⟩, ⟨?_, hs2.frozenAt _⟩⟩
    · rw [h.row.cellAt _ (by omega)]; exact m1
    · rw [h.row.cellAt _ (by omega)]; exact m2
    · rw [h.row.cellAt _ (by omega)]; exact m3
    · rw [hs.cellAt _ (by omega), List.getElem?_set_ne (by omega)]; exact m2
    · rw [hs2.cellAt _ (by omega), List.getElem?_set_ne (by omega), List.getElem?_set_ne (by omega)]; exact m3
theorem ownD_made {w : World} {h m : Nat} (ho : w.ownsRow h 38 3 (.slice (some ⟨h, 0, none⟩) m m) m (madeCells (Value.agg #[.int .i64 0, .int .i64 0, .int .i64 0]).cells (m * 3)).toList) : OwnD w h (.slice (some ⟨h, 0, none⟩) m m) (List.replicate m noDed) :=
  ⟨by
    have e1 : (madeCells (Value.agg #[.int .i64 0, .int .i64 0, .int .i64 0]).cells (m * 3)).toList = ddC (List.replicate m noDed) := by
      have e2 : ddC (List.replicate m noDed) = List.replicate (m * 3) (.int .i64 0) := by
        clear ho
        induction m with
        | zero => rfl
        | succ m ih => rw [List.replicate_succ, ddC, ih, show (m + 1) * 3 = m * 3 + 1 + 1 + 1 by omega, List.replicate_succ, List.replicate_succ, List.replicate_succ]; rfl
      rw [e2]
      refine List.eq_replicate_iff.2 ⟨by simp [madeCells], fun b hb => ?_⟩
      simp only [madeCells, Array.toList_map, List.mem_map] at hb
      obtain ⟨i, _, rfl⟩ := hb
      rcases (show i % 3 = 0 ∨ i % 3 = 1 ∨ i % 3 = 2 by omega) with e | e | e <;> simp [Value.cells, e]
    rw [List.length_replicate, ← e1]; exact ho, fun z hz => by
      have := List.eq_of_mem_replicate hz
      subst this; exact ⟨by decide, by decide, by decide⟩⟩

end Go.Proofs.YtoafpokcbbncfaaDoor
